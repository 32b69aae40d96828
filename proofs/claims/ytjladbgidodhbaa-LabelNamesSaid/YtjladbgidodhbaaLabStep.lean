/-
  What a name, a step and a path are; when two steps say the same; the order of paths: plain mathematics.
-/
import Derived.Test.YtjladbgidodhbaaLabMath
namespace Go.Proofs.Ytjladbgidodhbaa
namespace LM
set_option linter.unusedVariables false
set_option linter.unusedSimpArgs false

/-! ### Names -/
def letB (c : UInt8) : Bool := decide (97 ≤ c.toNat) && decide (c.toNat ≤ 122)
def digB (c : UInt8) : Bool := decide (48 ≤ c.toNat) && decide (c.toNat ≤ 57)
def innB (c : UInt8) : Bool := letB c || (digB c || decide (c.toNat = 45))
/-- A name, but for its length. -/
def nam0 : Bs → Bool
  | [] => true
  | c :: l => letB c && l.all innB
def nameB (l : Bs) : Bool := decide (1 ≤ l.length) && (decide (l.length ≤ 40) && nam0 l)
theorem letB_inn {c : UInt8} (h : letB c = true) : innB c = true := by simp [innB, h]
theorem letB_iff {c : UInt8} : letB c = true ↔ 97 ≤ c.toNat ∧ c.toNat ≤ 122 := by simp [letB]
theorem digB_iff {c : UInt8} : digB c = true ↔ 48 ≤ c.toNat ∧ c.toNat ≤ 57 := by simp [digB]
theorem innB_iff {c : UInt8} : innB c = true ↔ (97 ≤ c.toNat ∧ c.toNat ≤ 122) ∨ (48 ≤ c.toNat ∧ c.toNat ≤ 57) ∨ c.toNat = 45 := by simp [innB, letB, digB]
theorem nam0_all {l : Bs} (h : nam0 l = true) : ∀ c ∈ l, innB c = true := by
  cases l with
  | nil => simp
  | cons c l =>
    simp only [nam0, Bool.and_eq_true, List.all_eq_true] at h
    intro d hd
    rw [List.mem_cons] at hd
    rcases hd with rfl | hd
    · exact letB_inn h.1
    · exact h.2 d hd
theorem nam0_no {l : Bs} (h : nam0 l = true) {c : UInt8} (hc : innB c = false) : c ∉ l := fun hm => by
  rw [nam0_all h c hm] at hc; exact absurd hc (by simp)
theorem nam0_snoc {l : Bs} (c : UInt8) (h : l ≠ []) : nam0 (l ++ [c]) = (nam0 l && innB c) := by
  cases l with
  | nil => exact absurd rfl h
  | cons d l => simp [nam0, Bool.and_assoc]

/-! ### Numbers -/
def valF (acc : Nat) (l : Bs) : Nat := l.foldl (fun a c => a * 10 + (c.toNat - 48)) acc
def numB (d : Bs) : Bool := decide (1 ≤ d.length) && (d.all digB && (decide (d.length ≤ 4) && (decide (d.head? ≠ some 48) || decide (d = [48]))))
theorem valF_snoc (acc : Nat) (l : Bs) (c : UInt8) : valF acc (l ++ [c]) = valF acc l * 10 + (c.toNat - 48) := by simp [valF]
theorem valF_lt {l : Bs} (h : ∀ c ∈ l, digB c = true) : ∀ acc, valF acc l < (acc + 1) * 10 ^ l.length := by
  induction l with
  | nil => intro acc; simp [valF]
  | cons c l ih =>
    intro acc
    have h1 := digB_iff.1 (h c (by simp))
    have := ih (fun d hd => h d (List.mem_cons_of_mem c hd)) (acc * 10 + (c.toNat - 48))
    have e : valF acc (c :: l) = valF (acc * 10 + (c.toNat - 48)) l := rfl
    rw [e, List.length_cons, Nat.pow_succ]
    refine Nat.lt_of_lt_of_le this ?_
    have : acc * 10 + (c.toNat - 48) + 1 ≤ (acc + 1) * 10 := by omega
    calc _ ≤ ((acc + 1) * 10) * 10 ^ l.length := Nat.mul_le_mul_right _ this
      _ = _ := by rw [Nat.mul_assoc, Nat.mul_comm 10]
theorem valF_ge {l : Bs} : ∀ acc, acc * 10 ^ l.length ≤ valF acc l := by
  induction l with
  | nil => intro acc; simp [valF]
  | cons c l ih =>
    intro acc
    have := ih (acc * 10 + (c.toNat - 48))
    have e : valF acc (c :: l) = valF (acc * 10 + (c.toNat - 48)) l := rfl
    rw [e, List.length_cons, Nat.pow_succ]
    refine Nat.le_trans ?_ this
    calc acc * (10 ^ l.length * 10) = (acc * 10) * 10 ^ l.length := by rw [Nat.mul_comm (10 ^ l.length), Nat.mul_assoc]
      _ ≤ _ := Nat.mul_le_mul_right _ (by omega)
theorem ofNat_back {c : UInt8} (h : digB c = true) : UInt8.ofNat (48 + (c.toNat - 48)) = c := by
  have := digB_iff.1 h
  rw [show 48 + (c.toNat - 48) = c.toNat by omega]
  exact UInt8.ofNat_toNat
/-- Two numbers without zeros in front that have the same value are the same text. -/
theorem dec_val {d : Bs} (hd : ∀ c ∈ d, digB c = true) (h0 : d.head? ≠ some 48 ∨ d = [48]) (h1 : d ≠ []) : Lib.decDigits (valF 0 d) = d := by
  induction hn : d.length using Nat.strongRecOn generalizing d with
  | _ n ih =>
    obtain ⟨l, c, rfl⟩ : ∃ l c, d = l ++ [c] := ⟨d.dropLast, d.getLast h1, (List.dropLast_concat_getLast h1).symm⟩
    have hc := hd c (by simp)
    have hc2 := digB_iff.1 hc
    rw [valF_snoc]
    by_cases hl : l = []
    · subst hl
      unfold Lib.decDigits
      have : valF 0 ([] : Bs) = 0 := rfl
      rw [this, dif_pos (by omega), Nat.zero_mul, Nat.zero_add, ofNat_back hc]; rfl
    · have h0' : l.head? ≠ some 48 := by
        rcases h0 with h0 | h0
        · cases l with
          | nil => exact absurd rfl hl
          | cons a l => simpa using h0
        · have := congrArg List.length h0
          simp at this; exact absurd this hl
      have := ih l.length (by rw [← hn]; simp) (d := l) (fun x hx => hd x (List.mem_append_left _ hx)) (.inl h0') hl rfl
      have hpos : 1 ≤ valF 0 l := by
        cases l with
        | nil => exact absurd rfl hl
        | cons a l =>
          have ha := digB_iff.1 (hd a (by simp))
          have hne : a ≠ 48 := fun e => h0' (by simp [e])
          have h3 : a.toNat ≠ 48 := fun e => hne (UInt8.toNat_inj.1 e)
          have e : valF 0 (a :: l) = valF (0 * 10 + (a.toNat - 48)) l := rfl
          have g := valF_ge (l := l) (0 * 10 + (a.toNat - 48))
          rw [e]
          have : 1 ≤ 10 ^ l.length := Nat.one_le_pow _ _ (by decide)
          have g2 : 1 * 1 ≤ (0 * 10 + (a.toNat - 48)) * 10 ^ l.length := Nat.mul_le_mul (by omega) this
          omega
      unfold Lib.decDigits
      rw [dif_neg (by omega), show (valF 0 l * 10 + (c.toNat - 48)) / 10 = valF 0 l by omega, this, show (valF 0 l * 10 + (c.toNat - 48)) % 10 = c.toNat - 48 by omega, ofNat_back hc]
/-- Four digits at most: that is what is at most 9,999. -/
theorem few_digits {d : Bs} (hd : ∀ c ∈ d, digB c = true) : d.length ≤ 4 → valF 0 d ≤ 9999 := fun h => by
  have := valF_lt hd 0
  have : (0 + 1) * 10 ^ d.length ≤ 1 * 10 ^ 4 := Nat.mul_le_mul (by omega) (Nat.pow_le_pow_right (by omega) h)
  omega
theorem many_digits {d : Bs} (hd : ∀ c ∈ d, digB c = true) (h0 : d.head? ≠ some 48 ∨ d = [48]) : valF 0 d ≤ 9999 → d.length ≤ 4 := fun h => by
  cases d with
  | nil => simp
  | cons a l =>
    rcases h0 with h0 | h0
    · have ha := digB_iff.1 (hd a (by simp))
      have hne : a ≠ 48 := fun e => h0 (by simp [e])
      have h3 : a.toNat ≠ 48 := fun e => hne (UInt8.toNat_inj.1 e)
      have e : valF 0 (a :: l) = valF (0 * 10 + (a.toNat - 48)) l := rfl
      have g := valF_ge (l := l) (0 * 10 + (a.toNat - 48))
      rw [e] at h
      refine Nat.not_lt.1 fun hl => ?_
      have h4 : 10 ^ 4 ≤ 10 ^ l.length := Nat.pow_le_pow_right (by omega) (by simp only [List.length_cons] at hl; omega)
      have g2 : 1 * 10 ^ 4 ≤ (0 * 10 + (a.toNat - 48)) * 10 ^ l.length := Nat.mul_le_mul (by omega) h4
      omega
    · rw [h0]; simp

/-! ### Steps -/
/-- What stands in front of a bracket, and what stands behind it. -/
def preL (l : Bs) : Bs := (Lib.cut l [91]).1
def posL (l : Bs) : Bs := (Lib.cut l [91]).2.1
def hasI (l : Bs) : Bool := (Lib.cut l [91]).2.2
def digL (l : Bs) : Bs := (posL l).dropLast
def stepB (l : Bs) : Bool := nameB (preL l) && (!hasI l || (decide ((posL l).getLast? = some 93) && numB (digL l)))
def indI (l : Bs) : Int := if hasI l = true then (valF 0 (digL l) : Int) else -1
theorem first_of {l : Bs} {c : UInt8} (h : c ∈ l) : ∃ a b, l = a ++ c :: b ∧ c ∉ a := by
  induction l with
  | nil => simp at h
  | cons d l ih =>
    by_cases hc : d = c
    · exact ⟨[], l, by simp [hc], by simp⟩
    · have : c ∈ l := by
        rw [List.mem_cons] at h
        rcases h with h | h
        · exact absurd h.symm hc
        · exact h
      obtain ⟨a, b, e, hn⟩ := ih this
      exact ⟨d :: a, b, by simp [e], by intro hh; rw [List.mem_cons] at hh; rcases hh with hh | hh; exact hc hh.symm; exact hn hh⟩
theorem step_parts (l : Bs) : (hasI l = false ∧ l = preL l ∧ posL l = [] ∧ (91 : UInt8) ∉ l) ∨ (hasI l = true ∧ l = preL l ++ 91 :: posL l ∧ (91 : UInt8) ∉ preL l) := by
  unfold hasI preL posL
  by_cases h : (91 : UInt8) ∈ l
  · obtain ⟨a, b, rfl, hn⟩ := first_of h
    rw [cut_at b hn]; exact .inr ⟨rfl, rfl, hn⟩
  · rw [cut_none h]; exact .inl ⟨rfl, rfl, rfl, h⟩
theorem numB_iff {d : Bs} : numB d = true ↔ d ≠ [] ∧ (∀ c ∈ d, digB c = true) ∧ d.length ≤ 4 ∧ (d.head? ≠ some 48 ∨ d = [48]) := by
  unfold numB
  simp only [Bool.and_eq_true, Bool.or_eq_true, decide_eq_true_eq, List.all_eq_true]
  constructor
  · rintro ⟨h1, h2, h3, h4⟩
    exact ⟨fun e => by subst e; simp at h1, h2, h3, h4⟩
  · rintro ⟨h1, h2, h3, h4⟩
    exact ⟨List.length_pos_iff.2 h1, h2, h3, h4⟩
theorem last_back {l : Bs} {c : UInt8} (h : l.getLast? = some c) : l = l.dropLast ++ [c] := by
  cases l with
  | nil => simp at h
  | cons a l =>
    have := List.dropLast_concat_getLast (l := a :: l) (by simp)
    rw [List.getLast?_eq_some_getLast (by simp)] at h
    have h2 := Option.some.inj h
    rw [← h2]; exact this.symm
/-- A step is told by its name and its index. -/
theorem step_inj {a b : Bs} (ha : stepB a = true) (hb : stepB b = true) (hn : preL a = preL b) (hi : indI a = indI b) : a = b := by
  unfold stepB at ha hb
  simp only [Bool.and_eq_true, Bool.or_eq_true, decide_eq_true_eq, Bool.not_eq_true'] at ha hb
  rcases step_parts a with ⟨a1, a2, _, _⟩ | ⟨a1, a2, _⟩
  · rcases step_parts b with ⟨b1, b2, _, _⟩ | ⟨b1, b2, _⟩
    · rw [a2, b2, hn]
    · rw [indI, indI, a1, b1] at hi
      simp at hi
  · rcases step_parts b with ⟨b1, b2, _, _⟩ | ⟨b1, b2, _⟩
    · rw [indI, indI, a1, b1] at hi
      simp at hi
    · rw [indI, indI, a1, b1] at hi
      simp only [if_true] at hi
      have hv : valF 0 (digL a) = valF 0 (digL b) := by omega
      rcases ha.2 with h | ⟨ha3, ha4⟩
      · rw [a1] at h; simp at h
      rcases hb.2 with h | ⟨hb3, hb4⟩
      · rw [b1] at h; simp at h
      obtain ⟨p1, p2, p3, p4⟩ := numB_iff.1 ha4
      obtain ⟨q1, q2, q3, q4⟩ := numB_iff.1 hb4
      have e1 := dec_val p2 p4 p1
      have e2 := dec_val q2 q4 q1
      rw [hv, e2] at e1
      have e3 : posL a = posL b := by
        rw [last_back ha3, last_back hb3]
        show digL a ++ [93] = digL b ++ [93]
        rw [e1]
      rw [a2, b2, hn, e3]
theorem step_ne {l : Bs} (h : stepB l = true) : l ≠ [] := by
  intro e; subst e
  simp [stepB, preL, Lib.cut, Lib.index, nameB] at h
theorem step_no {l : Bs} (h : stepB l = true) : (47 : UInt8) ∉ l := by
  unfold stepB at h
  simp only [Bool.and_eq_true, Bool.or_eq_true, decide_eq_true_eq, Bool.not_eq_true'] at h
  obtain ⟨h1, h2⟩ := h
  unfold nameB at h1
  simp only [Bool.and_eq_true, decide_eq_true_eq] at h1
  have hp := nam0_no h1.2.2 (c := 47) (by decide)
  rcases step_parts l with ⟨a1, a2, _, _⟩ | ⟨a1, a2, _⟩
  · rw [a2]; exact hp
  · rcases h2 with h | ⟨h3, h4⟩
    · rw [a1] at h; simp at h
    obtain ⟨p1, p2, p3, p4⟩ := numB_iff.1 h4
    rw [a2, last_back h3]
    intro hm
    simp only [List.mem_append, List.mem_cons, List.mem_nil_iff, or_false] at hm
    rcases hm with hm | hm | hm | hm
    · exact hp hm
    · exact absurd hm (by decide)
    · have := digB_iff.1 (p2 _ hm); simp at this
    · exact absurd hm (by decide)
theorem step_len {l : Bs} (h : stepB l = true) : l.length ≤ 46 := by
  unfold stepB at h
  simp only [Bool.and_eq_true, Bool.or_eq_true, decide_eq_true_eq, Bool.not_eq_true'] at h
  obtain ⟨h1, h2⟩ := h
  unfold nameB at h1
  simp only [Bool.and_eq_true, decide_eq_true_eq] at h1
  rcases step_parts l with ⟨a1, a2, _, _⟩ | ⟨a1, a2, _⟩
  · rw [a2]; omega
  · rcases h2 with h | ⟨h3, h4⟩
    · rw [a1] at h; simp at h
    obtain ⟨p1, p2, p3, p4⟩ := numB_iff.1 h4
    have e := congrArg List.length a2
    have e2 := congrArg List.length (last_back h3)
    simp only [List.length_append, List.length_cons, List.length_nil] at e e2
    have : (digL l).length = (posL l).length - 1 := by simp [digL]
    omega

/-! ### Paths -/
def chk (p : Bs) : Int := if 4000 < p.length then 4 else if 40 < (cutL p).length then 4 else if (cutL p).all stepB = true then 0 else 12
def both (p q : Bs) : Int := if chk p = 0 then chk q else chk p
theorem chk_zero {p : Bs} : chk p = 0 ↔ p.length ≤ 4000 ∧ (cutL p).length ≤ 40 ∧ ∀ x ∈ cutL p, stepB x = true := by
  unfold chk
  constructor
  · intro h
    split at h
    · simp at h
    split at h
    · simp at h
    split at h
    · rename_i h1 h2 h3
      exact ⟨by omega, by omega, by simpa using h3⟩
    · simp at h
  · rintro ⟨h1, h2, h3⟩
    rw [if_neg (by omega), if_neg (by omega), if_pos (by simpa using h3)]
theorem chk_vals (p : Bs) : chk p = 0 ∨ chk p = 4 ∨ chk p = 12 := by
  unfold chk; split
  · simp
  split
  · simp
  split <;> simp
theorem both_zero {p q : Bs} : both p q = 0 ↔ chk p = 0 ∧ chk q = 0 := by
  unfold both
  by_cases h : chk p = 0
  · rw [if_pos h]; simp [h]
  · rw [if_neg h]; simp [h]
theorem cut_steps {p : Bs} (h : chk p = 0) : ∀ x ∈ cutL p, (47 : UInt8) ∉ x ∧ x ≠ [] := fun x hx => by
  have := (chk_zero.1 h).2.2 x hx
  exact ⟨step_no this, step_ne this⟩
theorem chk_nil : chk [] = 0 := by decide

/-! ### The order -/
def cmpI (x y : Int) : Int := if x < y then -1 else if y < x then 1 else 0
/-- Lists are compared place by place, a list before what goes on behind it. -/
def lexC {α : Type} (c : α → α → Int) : List α → List α → Int
  | [], [] => 0
  | [], _ :: _ => -1
  | _ :: _, [] => 1
  | a :: as, b :: bs => if c a b = 0 then lexC c as bs else c a b
structure Ord0 {α : Type} (c : α → α → Int) : Prop where
  range : ∀ a b, -1 ≤ c a b ∧ c a b ≤ 1
  anti : ∀ a b, c a b = - c b a
  trans : ∀ a b d, c a b ≤ 0 → c b d ≤ 0 → c a d ≤ 0
theorem Ord0.zero {α : Type} {c : α → α → Int} (h : Ord0 c) (a : α) : c a a = 0 := by have := h.anti a a; omega
theorem Ord0.strict {α : Type} {c : α → α → Int} (h : Ord0 c) {a b d : α} (h1 : c a b ≤ 0) (h2 : c b d ≤ 0) (h3 : c a d = 0) : c a b = 0 ∧ c b d = 0 := by
  have a1 := h.anti a d
  have a2 := h.anti a b
  have a3 := h.anti b d
  have := h.trans b d a h2 (by omega)
  have := h.trans d a b (by omega) h1
  omega
theorem lexC_ord {α : Type} {c : α → α → Int} (h : Ord0 c) : Ord0 (lexC c) := by
  constructor
  · intro a
    induction a with
    | nil => intro b; cases b <;> simp [lexC]
    | cons x a ih =>
      intro b
      cases b with
      | nil => simp [lexC]
      | cons y b => unfold lexC; split; exact ih b; exact h.range x y
  · intro a
    induction a with
    | nil => intro b; cases b <;> simp [lexC]
    | cons x a ih =>
      intro b
      cases b with
      | nil => simp [lexC]
      | cons y b =>
        have := h.anti x y
        unfold lexC
        by_cases h0 : c x y = 0
        · rw [if_pos h0, if_pos (by omega)]; exact ih b
        · rw [if_neg h0, if_neg (by omega)]; exact this
  · intro a
    induction a with
    | nil => intro b d; cases b <;> cases d <;> simp [lexC]
    | cons x a ih =>
      intro b d
      cases b with
      | nil => simp [lexC]
      | cons y b =>
        cases d with
        | nil => simp [lexC]
        | cons z d =>
          have i1 := ih b d
          have t := h.trans x y z
          have s := fun h1 h2 => h.strict (a := x) (b := y) (d := z) h1 h2
          have a1 := h.anti x z
          have t2 := h.trans z y x
          have a2 := h.anti x y
          have a3 := h.anti y z
          unfold lexC
          by_cases h1 : c x y = 0
          · by_cases h2 : c y z = 0
            · rw [if_pos h1, if_pos h2, if_pos (by have := t (by omega) (by omega); have := t2 (by omega) (by omega); omega)]
              exact i1
            · rw [if_pos h1, if_neg h2]
              intro _ g
              have g1 := t (by omega) g
              by_cases h3 : c x z = 0
              · exact absurd (s (by omega) g h3).2 h2
              · rw [if_neg h3]; exact g1
          · rw [if_neg h1]
            intro g g2
            by_cases h2 : c y z = 0
            · have g1 := t g (by omega)
              by_cases h3 : c x z = 0
              · exact absurd (s g (by omega) h3).1 h1
              · rw [if_neg h3]; exact g1
            · rw [if_neg h2] at g2
              have g1 := t g g2
              by_cases h3 : c x z = 0
              · exact absurd (s g g2 h3).1 h1
              · rw [if_neg h3]; exact g1
theorem lexC_eq {α : Type} {c : α → α → Int} {S : α → Prop} (h : ∀ a b, S a → S b → (c a b = 0 ↔ a = b)) : ∀ (as bs : List α), (∀ a ∈ as, S a) → (∀ b ∈ bs, S b) → (lexC c as bs = 0 ↔ as = bs)
  | [], [], _, _ => by simp [lexC]
  | [], _ :: _, _, _ => by simp [lexC]
  | _ :: _, [], _, _ => by simp [lexC]
  | a :: as, b :: bs, ha, hb => by
    have h1 := h a b (ha a (by simp)) (hb b (by simp))
    have h2 := lexC_eq h as bs (fun x hx => ha x (List.mem_cons_of_mem a hx)) (fun x hx => hb x (List.mem_cons_of_mem b hx))
    unfold lexC
    by_cases h0 : c a b = 0
    · rw [if_pos h0, h2, h1.1 h0]; simp
    · rw [if_neg h0]
      constructor
      · intro hh; exact absurd hh h0
      · intro hh; exact absurd (h1.2 (by simpa using (List.cons.inj hh).1)) h0
theorem cmpI_ord : Ord0 cmpI := by
  constructor
  · intro a b; unfold cmpI; split
    · omega
    split <;> omega
  · intro a b; unfold cmpI; (repeat' split) <;> omega
  · intro a b d; unfold cmpI; intro h1 h2
    have : a ≤ b := by
      refine Int.not_lt.1 fun h => ?_
      rw [if_neg (by omega), if_pos h] at h1; omega
    have : b ≤ d := by
      refine Int.not_lt.1 fun h => ?_
      rw [if_neg (by omega), if_pos h] at h2; omega
    split
    · omega
    split <;> omega
theorem cmpI_eq {a b : Int} : cmpI a b = 0 ↔ a = b := by
  unfold cmpI; split
  · omega
  split <;> omega
def cmpU (a b : UInt8) : Int := cmpI a.toNat b.toNat
theorem cmpU_ord : Ord0 cmpU := ⟨fun a b => cmpI_ord.range _ _, fun a b => cmpI_ord.anti _ _, fun a b d => cmpI_ord.trans _ _ _⟩
theorem cmpU_eq {a b : UInt8} : cmpU a b = 0 ↔ a = b := by
  unfold cmpU; rw [cmpI_eq]
  constructor
  · intro h; exact UInt8.toNat_inj.1 (by omega)
  · intro h; rw [h]
/-- Names are compared byte by byte. -/
def cmpN : Bs → Bs → Int := lexC cmpU
theorem cmpN_ord : Ord0 cmpN := lexC_ord cmpU_ord
theorem cmpN_eq {a b : Bs} : cmpN a b = 0 ↔ a = b := lexC_eq (S := fun _ => True) (fun a b _ _ => cmpU_eq) a b (fun _ _ => trivial) (fun _ _ => trivial)
/-- Steps: by the name, then by the index. -/
def cmpS (a b : Bs) : Int := if cmpN (preL a) (preL b) = 0 then cmpI (indI a) (indI b) else cmpN (preL a) (preL b)
theorem cmpS_ord : Ord0 cmpS := by
  constructor
  · intro a b; unfold cmpS; split
    · exact cmpI_ord.range _ _
    · exact cmpN_ord.range _ _
  · intro a b
    have := cmpN_ord.anti (preL a) (preL b)
    unfold cmpS
    by_cases h : cmpN (preL a) (preL b) = 0
    · rw [if_pos h, if_pos (by omega)]; exact cmpI_ord.anti _ _
    · rw [if_neg h, if_neg (by omega)]; exact this
  · intro a b d
    unfold cmpS
    have t := cmpN_ord.trans (preL a) (preL b) (preL d)
    have s := fun h1 h2 => cmpN_ord.strict (a := preL a) (b := preL b) (d := preL d) h1 h2
    have i := cmpI_ord.trans (indI a) (indI b) (indI d)
    by_cases h1 : cmpN (preL a) (preL b) = 0
    · have e1 := cmpN_eq.1 h1
      rw [if_pos h1, e1]
      by_cases h2 : cmpN (preL b) (preL d) = 0
      · simp only [if_pos h2]; exact i
      · simp only [if_neg h2]; intro _ h; exact h
    · rw [if_neg h1]
      intro g1 g2
      by_cases h2 : cmpN (preL b) (preL d) = 0
      · have e2 := cmpN_eq.1 h2
        rw [← e2, if_neg h1]; exact g1
      · rw [if_neg h2] at g2
        have g := t g1 g2
        by_cases h3 : cmpN (preL a) (preL d) = 0
        · exact absurd (s g1 g2 h3).1 h1
        · rw [if_neg h3]; exact g
theorem cmpS_eq {a b : Bs} (ha : stepB a = true) (hb : stepB b = true) : cmpS a b = 0 ↔ a = b := by
  constructor
  · intro h
    unfold cmpS at h
    split at h
    · rename_i h1; exact step_inj ha hb (cmpN_eq.1 h1) (cmpI_eq.1 h)
    · rename_i h1; exact absurd h h1
  · intro h; subst h; exact cmpS_ord.zero a
def cmpP (p q : Bs) : Int := lexC cmpS (cutL p) (cutL q)
theorem cmpP_ord : Ord0 cmpP := ⟨fun a b => (lexC_ord cmpS_ord).range _ _, fun a b => (lexC_ord cmpS_ord).anti _ _, fun a b d => (lexC_ord cmpS_ord).trans _ _ _⟩
theorem cmpP_eq {p q : Bs} (hp : chk p = 0) (hq : chk q = 0) : cmpP p q = 0 ↔ p = q := by
  have := lexC_eq (c := cmpS) (S := fun a => stepB a = true) (fun a b ha hb => cmpS_eq ha hb) (cutL p) (cutL q) (chk_zero.1 hp).2.2 (chk_zero.1 hq).2.2
  unfold cmpP; rw [this]
  constructor
  · exact cutL_inj
  · intro h; rw [h]
theorem lexC_prefix {α : Type} {c : α → α → Int} (h : Ord0 c) : ∀ (a t : List α), lexC c a (a ++ t) = if t = [] then 0 else -1
  | [], [] => rfl
  | [], _ :: _ => rfl
  | x :: a, t => by
    simp only [List.cons_append, lexC]
    rw [if_pos (h.zero x), lexC_prefix h a t]
theorem lexC_near {α : Type} {c : α → α → Int} {S : α → Prop} (h : Ord0 c) (he : ∀ a b, S a → S b → (c a b = 0 ↔ a = b)) : ∀ (p t r : List α), (∀ a ∈ p, S a) → (∀ a ∈ r, S a) → ¬ p <+: r → lexC c p r ≤ 0 → lexC c (p ++ t) r < 0
  | [], t, r, _, _, hn, _ => absurd List.nil_prefix hn
  | x :: p, t, [], _, _, _, hh => by simp [lexC] at hh
  | x :: p, t, y :: r, hp, hr, hn, hh => by
    simp only [List.cons_append, lexC] at hh ⊢
    by_cases h0 : c x y = 0
    · rw [if_pos h0] at hh ⊢
      have hxy := (he x y (hp x (by simp)) (hr y (by simp))).1 h0
      subst hxy
      exact lexC_near h he p t r (fun a ha => hp a (List.mem_cons_of_mem x ha)) (fun a ha => hr a (List.mem_cons_of_mem x ha)) (fun hh => hn ((List.cons_prefix_cons).2 ⟨rfl, hh⟩)) hh
    · rw [if_neg h0] at hh ⊢; omega
end LM
end Go.Proofs.Ytjladbgidodhbaa
