/-
  Reading the text of a word: numbers, args, modules, words; what is read has the text, and the text of a valid word is read back. No program in sight.
-/
import Derived.Test.YtkjjehnfibfngaaWordMath
namespace Go.Proofs.Ytkjjehnfibfngaa
namespace WM
set_option linter.unusedVariables false
set_option linter.unusedSimpArgs false

def digP (c : UInt8) : Bool := decide (48 ≤ c.toNat) && decide (c.toNat ≤ 57)
theorem digP_iff {c : UInt8} : digP c = true ↔ 48 ≤ c.toNat ∧ c.toNat ≤ 57 := by simp [digP]
theorem ofNat_dig {k : Nat} (h : k < 10) : (UInt8.ofNat (48 + k)).toNat = 48 + k := by
  rw [UInt8.toNat_ofNat']; omega
theorem dec_digits : ∀ u, ∀ c ∈ Lib.decDigits u, digP c = true := by
  intro u
  induction u using Nat.strongRecOn with
  | _ u ih =>
    intro c hc
    unfold Lib.decDigits at hc
    split at hc
    · rw [List.mem_singleton] at hc; subst hc; rw [digP_iff, ofNat_dig (by omega)]; omega
    · rw [List.mem_append, List.mem_singleton] at hc
      rcases hc with hc | hc
      · exact ih (u / 10) (by omega) c hc
      · subst hc; rw [digP_iff, ofNat_dig (by omega)]; omega
theorem dec_ne (u : Nat) : Lib.decDigits u ≠ [] := by
  unfold Lib.decDigits; split <;> simp
def valF (acc : Nat) (l : Bs) : Nat := l.foldl (fun a c => a * 10 + (c.toNat - 48)) acc
theorem valF_snoc (acc : Nat) (l : Bs) (c : UInt8) : valF acc (l ++ [c]) = valF acc l * 10 + (c.toNat - 48) := by simp [valF, List.foldl_append]
theorem valF_dec : ∀ u, valF 0 (Lib.decDigits u) = u := by
  intro u
  induction u using Nat.strongRecOn with
  | _ u ih =>
    unfold Lib.decDigits
    split
    · simp only [valF, List.foldl_cons, List.foldl_nil]; rw [ofNat_dig (by omega)]; omega
    · rw [valF_snoc, ih (u / 10) (by omega), ofNat_dig (by omega)]; omega
/-- No numeral of more than one digit begins with 0. -/
theorem dec_head : ∀ u, (Lib.decDigits u).head? ≠ some 48 ∨ Lib.decDigits u = [48] := by
  intro u
  induction u using Nat.strongRecOn with
  | _ u ih =>
    unfold Lib.decDigits
    split
    · rename_i h
      by_cases h0 : u = 0
      · subst h0; right; rfl
      · left
        intro e
        have := congrArg (fun o : Option UInt8 => o.map UInt8.toNat) e
        simp only [List.head?_cons, Option.map_some] at this
        rw [ofNat_dig (by omega)] at this
        have h9 : (48 : UInt8).toNat = 48 := rfl
        rw [h9] at this
        have := Option.some.inj this; omega
    · rename_i h
      have hn := dec_ne (u / 10)
      left
      rcases ih (u / 10) (by omega) with h1 | h1
      · intro e; apply h1
        cases hd : Lib.decDigits (u / 10) with
        | nil => exact absurd hd hn
        | cons a l => rw [hd] at e; simpa using e
      · exfalso
        have := valF_dec (u / 10)
        rw [h1] at this
        have h9 : valF 0 [48] = 0 := rfl
        omega
theorem valF_pos {l : Bs} (hd : ∀ c ∈ l, digP c = true) (h : l.head? ≠ some 48) (hn : l ≠ []) : 1 ≤ valF 0 l := by
  cases l with
  | nil => exact absurd rfl hn
  | cons c l =>
    have h1 := digP_iff.1 (hd c (by simp))
    have h2 : c.toNat ≠ 48 := fun e => h (by rw [List.head?_cons]; congr 1; exact UInt8.toNat_inj.1 e)
    have ge : ∀ (l : Bs) (acc : Nat), acc ≤ valF acc l := by
      intro l
      induction l with
      | nil => intro acc; exact Nat.le_refl _
      | cons c l ih => intro acc; exact Nat.le_trans (by omega) (ih (acc * 10 + (c.toNat - 48)))
    have := ge l (0 * 10 + (c.toNat - 48))
    show 1 ≤ valF (0 * 10 + (c.toNat - 48)) l
    omega
/-- Digits without a zero in front are the numeral of their value. -/
theorem dec_valF : ∀ n (l : Bs), l.length = n → (∀ c ∈ l, digP c = true) → l ≠ [] → (l.head? ≠ some 48 ∨ l = [48]) → Lib.decDigits (valF 0 l) = l := by
  intro n
  induction n with
  | zero => intro l hl _ hn; exact absurd (List.length_eq_zero_iff.1 hl) hn
  | succ n ih =>
    intro l hl hd hn hh
    obtain ⟨m, c, rfl⟩ : ∃ m c, l = m ++ [c] := ⟨l.dropLast, l.getLast hn, (List.dropLast_concat_getLast hn).symm⟩
    have hc := digP_iff.1 (hd c (by simp))
    have e48 : UInt8.ofNat (48 + (c.toNat - 48)) = c := UInt8.toNat_inj.1 (by rw [ofNat_dig (by omega)]; omega)
    by_cases hm : m = []
    · subst hm
      show Lib.decDigits (0 * 10 + (c.toNat - 48)) = [c]
      rw [Nat.zero_mul, Nat.zero_add, Lib.decDigits, dif_pos (by omega), e48]
    · have hh2 : m.head? ≠ some 48 := by
        rcases hh with h | h
        · intro e; apply h
          cases m with
          | nil => exact absurd rfl hm
          | cons a m => simpa using e
        · exfalso
          have := congrArg List.length h
          rw [List.length_append] at this
          have h7 : m.length ≠ 0 := fun e => hm (List.length_eq_zero_iff.1 e)
          rw [List.length_singleton, List.length_singleton] at this
          omega
      have hdm : ∀ c ∈ m, digP c = true := fun x hx => hd x (by simp [hx])
      have hp := valF_pos hdm hh2 hm
      rw [valF_snoc, Lib.decDigits, dif_neg (by omega)]
      have e1 : (valF 0 m * 10 + (c.toNat - 48)) / 10 = valF 0 m := by omega
      have e2 : (valF 0 m * 10 + (c.toNat - 48)) % 10 = c.toNat - 48 := by omega
      rw [e1, e2, e48, ih m (by rw [List.length_append] at hl; simpa using hl) hdm hm (.inl hh2)]

/-- Up to n digits in front. -/
def takeD : Nat → Bs → Bs
  | 0, _ => []
  | _ + 1, [] => []
  | n + 1, c :: l => if digP c = true then c :: takeD n l else []
theorem takeD_digits : ∀ n l, ∀ c ∈ takeD n l, digP c = true
  | 0, _, c, h => by simp [takeD] at h
  | n + 1, [], c, h => by simp [takeD] at h
  | n + 1, a :: l, c, h => by
    unfold takeD at h
    split at h
    · rename_i ha
      rw [List.mem_cons] at h
      rcases h with h | h
      · subst h; exact ha
      · exact takeD_digits n l c h
    · simp at h
theorem takeD_app : ∀ n l, takeD n l ++ l.drop (takeD n l).length = l
  | 0, _ => by simp [takeD]
  | n + 1, [] => by simp [takeD]
  | n + 1, a :: l => by
    unfold takeD
    split
    · simp [takeD_app n l]
    · simp
theorem takeD_all : ∀ n (d r : Bs), (∀ c ∈ d, digP c = true) → d.length ≤ n → (∀ c t, r = c :: t → digP c = false) → takeD n (d ++ r) = d
  | 0, d, r, _, hl, _ => by
    have : d = [] := List.length_eq_zero_iff.1 (by omega)
    subst this; rfl
  | n + 1, [], [], _, _, _ => rfl
  | n + 1, [], c :: t, _, _, hr => by
    have := hr c t rfl
    simp [takeD, this]
  | n + 1, a :: d, r, hd, hl, hr => by
    have h1 := hd a (by simp)
    simp only [List.cons_append, takeD, h1, if_true]
    rw [takeD_all n d r (fun c hc => hd c (by simp [hc])) (by simpa using hl) hr]
/-- A number in front: its value and what is left. -/
def signR : Bs → Bool × Bs
  | [] => (false, [])
  | c :: t => if c = 45 then (true, t) else (false, c :: t)
def numB (g : Bool) (d : Bs) : Bool := !d.isEmpty && !(d.head? == some 48 && decide (1 < d.length)) && !(g && decide (valF 0 d = 0))
def numI (g : Bool) (d : Bs) : Int := if g = true then -(valF 0 d : Int) else valF 0 d
def numR (s : Bs) : Option (Int × Bs) :=
  if numB (signR s).1 (takeD 10 (signR s).2) = true then some (numI (signR s).1 (takeD 10 (signR s).2), (signR s).2.drop (takeD 10 (signR s).2).length) else none
theorem signR_app (s : Bs) : (if (signR s).1 = true then [45] else []) ++ (signR s).2 = s := by
  cases s with
  | nil => rfl
  | cons c t =>
    by_cases h : c = 45
    · subst h; rfl
    · have e : signR (c :: t) = (false, c :: t) := by simp [signR, h]
      rw [e]; rfl
theorem num_itoa {g : Bool} {d : Bs} (hd : ∀ c ∈ d, digP c = true) (h : numB g d = true) : Lib.itoa (numI g d) = (if g = true then [45] else []) ++ d := by
  unfold numB at h
  simp only [Bool.and_eq_true, Bool.not_eq_true', List.isEmpty_eq_false_iff] at h
  obtain ⟨⟨h1, h2⟩, h3⟩ := h
  have hh : d.head? ≠ some 48 ∨ d = [48] := by
    by_cases e : d.head? = some 48
    · right
      rw [e] at h2
      simp at h2
      cases d with
      | nil => exact absurd rfl h1
      | cons a l =>
        simp at e; subst e
        simp at h2; simp [h2]
    · exact .inl e
  have hv := dec_valF _ d rfl hd h1 hh
  cases g with
  | false =>
    show Lib.itoa (valF 0 d : Int) = [] ++ d
    unfold Lib.itoa
    rw [if_neg (by omega), Int.toNat_natCast, hv]; rfl
  | true =>
    have hp : valF 0 d ≠ 0 := by simpa using h3
    show Lib.itoa (-(valF 0 d : Int)) = [45] ++ d
    unfold Lib.itoa
    rw [if_pos (by omega), show (-(valF 0 d : Int)).natAbs = valF 0 d by omega, hv]; rfl
theorem numR_back {s r : Bs} {n : Int} (h : numR s = some (n, r)) : s = Lib.itoa n ++ r := by
  unfold numR at h
  split at h
  · rename_i hb
    simp only [Option.some.injEq, Prod.mk.injEq] at h
    obtain ⟨rfl, rfl⟩ := h
    rw [num_itoa (takeD_digits _ _) hb, List.append_assoc, takeD_app, signR_app]
  · exact absurd h (by simp)
theorem dec_length {u : Nat} (h : u ≤ 9999999999) : (Lib.decDigits u).length ≤ 10 := by
  rw [Lib.decDigits_length]
  have h1 := Lib.lt_pow_nDigits u
  rcases Nat.lt_or_ge 10 (Lib.nDigits u) with h2 | h2
  · exfalso
    have hpow : ∀ k u, k < Lib.nDigits u → 10 ^ k ≤ u ∨ k = 0 := by
      intro k
      induction k with
      | zero => intro u _; right; rfl
      | succ k ih =>
        intro u hu
        left
        by_cases hs : u < 10
        · rw [Lib.nDigits_small hs] at hu; omega
        · rw [Lib.nDigits_big hs] at hu
          rcases ih (u / 10) (by omega) with h | h
          · rw [Nat.pow_succ]; omega
          · subst h; simp; omega
    rcases hpow 10 u h2 with h3 | h3
    · have : (10 : Nat) ^ 10 = 10000000000 := by decide
      omega
    · omega
  · exact h2
theorem numR_itoa {n : Int} (hn : -1000000000 ≤ n ∧ n ≤ 1000000000) {r : Bs} (hr : ∀ c t, r = c :: t → digP c = false) : numR (Lib.itoa n ++ r) = some (n, r) := by
  have hdd := dec_digits n.natAbs
  have hl := dec_length (u := n.natAbs) (by omega)
  have ht := takeD_all 10 (Lib.decDigits n.natAbs) r hdd hl hr
  have key : ∀ g : Bool, (g = true → n < 0) → (g = false → 0 ≤ n) → signR (Lib.itoa n ++ r) = (g, Lib.decDigits n.natAbs ++ r) → numR (Lib.itoa n ++ r) = some (n, r) := by
    intro g h1 h2 hs
    unfold numR
    rw [hs]
    simp only [ht]
    have hb : numB g (Lib.decDigits n.natAbs) = true := by
      unfold numB
      simp only [Bool.and_eq_true, Bool.not_eq_true', List.isEmpty_eq_false_iff]
      refine ⟨⟨dec_ne _, ?_⟩, ?_⟩
      · rcases dec_head n.natAbs with h | h
        · simp [h]
        · rw [h]; rfl
      · cases g with
        | false => rfl
        | true =>
          have := h1 rfl
          rw [valF_dec]; simp; omega
    rw [if_pos hb]
    have hi : numI g (Lib.decDigits n.natAbs) = n := by
      unfold numI; rw [valF_dec]
      cases g with
      | false => have := h2 rfl; simp; omega
      | true => have := h1 rfl; simp; omega
    rw [hi, List.drop_left']
    rfl
  by_cases h : n < 0
  · refine key true (fun _ => h) (fun e => absurd e (by simp)) ?_
    unfold Lib.itoa; rw [if_pos h]; rfl
  · refine key false (fun e => absurd e (by simp)) (fun _ => by omega) ?_
    unfold Lib.itoa; rw [if_neg h, show n.toNat = n.natAbs by omega]
    cases hd : Lib.decDigits n.natAbs with
    | nil => exact absurd hd (dec_ne _)
    | cons a l =>
      have := digP_iff.1 (hdd a (by rw [hd]; simp))
      have h45 : a ≠ 45 := fun e => by rw [e] at this; simp at this
      simp [signR, h45]
/-! ### Args, modules, words -/
/-- Does an arg follow? -/
def moreB (a : List Int) (c : UInt8) : Bool := (c == 40 && a.isEmpty) || (c == 44 && !a.isEmpty)
def argsR : Nat → List Int → Bs → Option (List Int × Bs)
  | 0, a, s => some (a, s)
  | _ + 1, a, [] => some (a, [])
  | k + 1, a, c :: t => if moreB a c = true then (match numR t with
      | none => none
      | some (n, r) => argsR k (a ++ [n]) r) else some (a, c :: t)
def modR : Bs → Option (Md × Bs)
  | [] => none
  | c :: t => match argsR t.length [] t with
    | none => none
    | some ([], r) => some (⟨c, []⟩, r)
    | some (x :: a, 41 :: r) => some (⟨c, x :: a⟩, r)
    | some (_ :: _, _) => none
def wordR : Nat → Bs → Option (List Md)
  | _, [] => some []
  | 0, _ :: _ => none
  | k + 1, c :: t => match modR (c :: t) with
    | none => none
    | some (m, r) => (wordR k r).map (m :: ·)
/-- The text of args that are written in front of more. -/
def argT (a : List Int) : Bs := match a with
  | [] => []
  | x :: l => 40 :: (Lib.itoa x ++ argsT l)
theorem argsT_snoc (l : List Int) (n : Int) : argsT (l ++ [n]) = argsT l ++ 44 :: Lib.itoa n := by
  induction l with
  | nil => simp [argsT]
  | cons x l ih => simp [argsT, ih]
theorem argT_snoc (a : List Int) (n : Int) : argT (a ++ [n]) = argT a ++ (if a.isEmpty = true then 40 else 44) :: Lib.itoa n := by
  cases a with
  | nil => simp [argT, argsT]
  | cons x l => simp [argT, argsT_snoc]
theorem moreB_byte {a : List Int} {c : UInt8} (h : moreB a c = true) : c = (if a.isEmpty = true then 40 else 44) := by
  unfold moreB at h
  cases ha : a.isEmpty
  · rw [ha] at h; simp at h; simp [h]
  · rw [ha] at h; simp at h; simp [h]
theorem argsR_back : ∀ k a s b r, argsR k a s = some (b, r) → argT a ++ s = argT b ++ r
  | 0, a, s, b, r, h => by simp [argsR] at h; rw [h.1, h.2]
  | k + 1, a, [], b, r, h => by simp [argsR] at h; rw [h.1, h.2]
  | k + 1, a, c :: t, b, r, h => by
    unfold argsR at h
    split at h
    · rename_i hm
      split at h
      · exact absurd h (by simp)
      · rename_i n r' hn
        have h1 := argsR_back k _ _ _ _ h
        rw [argT_snoc] at h1
        rw [numR_back hn, moreB_byte hm, ← h1]; simp
    · simp at h; rw [h.1, h.2]
theorem modT_eq (m : Md) : modT m = m.c :: (argT m.a ++ if m.a.isEmpty = true then [] else [41]) := by
  obtain ⟨c, a⟩ := m
  cases a with
  | nil => rfl
  | cons x l => simp [modT, argT]
theorem modR_back {s r : Bs} {m : Md} (h : modR s = some (m, r)) : s = modT m ++ r := by
  cases s with
  | nil => exact absurd h (by simp [modR])
  | cons c t =>
    rw [modR] at h
    split at h
    · exact absurd h (by simp)
    · rename_i r' ha
      have hb : argT [] ++ t = argT [] ++ r' := argsR_back _ _ _ _ _ ha
      have hb' : t = r' := hb
      simp only [Option.some.injEq, Prod.mk.injEq] at h
      rw [hb', ← h.1, ← h.2]; rfl
    · rename_i x a r' ha
      have hb : argT [] ++ t = argT (x :: a) ++ 41 :: r' := argsR_back _ _ _ _ _ ha
      have hb' : t = argT (x :: a) ++ 41 :: r' := hb
      simp only [Option.some.injEq, Prod.mk.injEq] at h
      rw [← h.1, ← h.2, modT_eq, hb']
      simp
    · exact absurd h (by simp)
theorem modT_pos (m : Md) : 1 ≤ (modT m).length := by rw [modT_eq]; simp
theorem wordR_back : ∀ k s w, wordR k s = some w → txt w = s
  | k, [], w, h => by
    have : w = [] := by cases k <;> simp [wordR] at h <;> exact h
    subst this; rfl
  | 0, _ :: _, w, h => by simp [wordR] at h
  | k + 1, c :: t, w, h => by
    unfold wordR at h
    split at h
    · exact absurd h (by simp)
    · rename_i m r hm
      rw [Option.map_eq_some_iff] at h
      obtain ⟨v, hv, rfl⟩ := h
      rw [modR_back hm, ← wordR_back k r v hv]; rfl
/-- What does not go on with args. -/
def stopB (s : Bs) : Prop := ∀ c t, s = c :: t → c ≠ 40 ∧ c ≠ 44 ∧ digP c = false
theorem itoa_ne (n : Int) : Lib.itoa n ≠ [] := by
  unfold Lib.itoa; split
  · simp
  · exact dec_ne _
theorem argsR_some : ∀ k (a l : List Int) (r : Bs), (∀ x ∈ l, -1000000000 ≤ x ∧ x ≤ 1000000000) → a ≠ [] → (∀ c t, r = c :: t → c ≠ 44 ∧ digP c = false) → l.length ≤ k → (k = l.length → r = [] ∨ ∃ c t, r = c :: t) →
    argsR k a (argsT l ++ r) = some (a ++ l, r)
  | 0, a, l, r, _, _, _, hk, _ => by
    have : l = [] := List.length_eq_zero_iff.1 (by omega)
    subst this; simp [argsR, argsT]
  | k + 1, a, [], r, _, ha, hr, _, _ => by
    cases r with
    | nil => simp [argsR, argsT]
    | cons c t =>
      have h := hr c t rfl
      have : moreB a c = false := by
        unfold moreB
        have h1 : a.isEmpty = false := by cases a; exact absurd rfl ha; rfl
        simp [h1, h.1]
      simp [argsR, argsT, this]
  | k + 1, a, x :: l, r, hl, ha, hr, hk, _ => by
    have h1 : a.isEmpty = false := by cases a; exact absurd rfl ha; rfl
    have hm : moreB a 44 = true := by simp [moreB, h1]
    have hnd : ∀ c t, argsT l ++ r = c :: t → digP c = false := by
      intro c t e
      cases l with
      | nil => exact (hr c t (by simpa [argsT] using e)).2
      | cons y l => simp [argsT] at e; rw [← e.1]; rfl
    have hn := numR_itoa (hl x (by simp)) (r := argsT l ++ r) hnd
    show argsR (k + 1) a (44 :: (Lib.itoa x ++ argsT l) ++ r) = _
    rw [List.cons_append, List.append_assoc]
    unfold argsR
    rw [if_pos hm, hn]
    show argsR k (a ++ [x]) (argsT l ++ r) = _
    rw [argsR_some k (a ++ [x]) l r (fun y hy => hl y (by simp [hy])) (by simp) hr (by simpa using hk) (fun _ => by cases r; exact .inl rfl; exact .inr ⟨_, _, rfl⟩)]
    simp
theorem modR_some {m : Md} (hm : fineB m = true) {r : Bs} (hr : stopB r) : modR (modT m ++ r) = some (m, r) := by
  obtain ⟨c, a⟩ := m
  have hrg : ∀ x ∈ a, -1000000000 ≤ x ∧ x ≤ 1000000000 := by
    have : rngB a = true := by
      unfold fineB at hm; simp only [Bool.and_eq_true] at hm; exact hm.2
    exact rngB_iff.1 this
  cases a with
  | nil =>
    show modR (c :: r) = _
    have : argsR r.length [] r = some ([], r) := by
      cases r with
      | nil => rfl
      | cons b t =>
        have h := hr b t rfl
        have hb : moreB [] b = false := by simp [moreB, h.1]
        simp [argsR, hb]
    simp [modR, this]
  | cons x l =>
    have hn := numR_itoa (hrg x (by simp)) (r := argsT l ++ (41 :: r)) (by
      intro b t e
      cases l with
      | nil => simp [argsT] at e; rw [← e.1]; rfl
      | cons y l => simp [argsT] at e; rw [← e.1]; rfl)
    have hgo := argsR_some ((Lib.itoa x ++ argsT l ++ (41 :: r)).length) [x] l (41 :: r) (fun y hy => hrg y (by simp [hy])) (by simp) (by
      intro b t e; simp at e; rw [← e.1]; exact ⟨by decide, rfl⟩) (by
      have : ∀ l : List Int, l.length ≤ (argsT l).length := by
        intro l
        induction l with
        | nil => simp [argsT]
        | cons y l ih => simp [argsT]; omega
      have := this l
      simp; omega) (fun _ => .inr ⟨_, _, rfl⟩)
    show modR ((c :: 40 :: (Lib.itoa x ++ argsT l ++ [41])) ++ r) = _
    have e1 : (c :: 40 :: (Lib.itoa x ++ argsT l ++ [41])) ++ r = c :: 40 :: (Lib.itoa x ++ (argsT l ++ (41 :: r))) := by simp
    rw [e1]
    have e2 : argsR (40 :: (Lib.itoa x ++ (argsT l ++ (41 :: r)))).length [] (40 :: (Lib.itoa x ++ (argsT l ++ (41 :: r)))) = some (x :: l, 41 :: r) := by
      have e3 : (40 :: (Lib.itoa x ++ (argsT l ++ (41 :: r)))).length = (Lib.itoa x ++ argsT l ++ (41 :: r)).length + 1 := by simp
      rw [e3]
      unfold argsR
      rw [if_pos (by rfl), hn]
      exact hgo
    simp only [modR, e2]
theorem letB_stop {c : UInt8} (h : letB c = true) : c ≠ 40 ∧ c ≠ 44 ∧ digP c = false := by
  have all : ∀ n : Fin 256, letB (UInt8.ofNat n.1) = true → UInt8.ofNat n.1 ≠ 40 ∧ UInt8.ofNat n.1 ≠ 44 ∧ digP (UInt8.ofNat n.1) = false := by decide +kernel
  have e : UInt8.ofNat c.toNat = c := UInt8.toNat_inj.1 (by rw [UInt8.toNat_ofNat']; have := c.toNat_lt; omega)
  have := all ⟨c.toNat, c.toNat_lt⟩
  rw [e] at this
  exact this h
theorem fine_let {m : Md} (h : fineB m = true) : letB m.c = true := by
  unfold fineB at h; simp only [Bool.and_eq_true] at h; exact h.1.1.1
theorem stop_txt {l : List Md} (h : ∀ m ∈ l, fineB m = true) : stopB (txt l) := by
  intro c t e
  cases l with
  | nil => simp [txt] at e
  | cons m l =>
    rw [show txt (m :: l) = modT m ++ txt l from rfl, modT_eq] at e
    simp at e
    rw [← e.1]
    exact letB_stop (fine_let (h m (by simp)))
theorem wordR_some : ∀ k (l : List Md), (∀ m ∈ l, fineB m = true) → (txt l).length ≤ k → wordR k (txt l) = some l
  | k, [], _, _ => by cases k <;> rfl
  | 0, m :: l, _, hk => by
    have := modT_pos m
    rw [show txt (m :: l) = modT m ++ txt l from rfl, List.length_append] at hk; omega
  | k + 1, m :: l, h, hk => by
    have hs := stop_txt (l := l) fun x hx => h x (by simp [hx])
    have hm := modR_some (h m (by simp)) hs
    have hp := modT_pos m
    rw [show txt (m :: l) = modT m ++ txt l from rfl] at hk ⊢
    rw [List.length_append] at hk
    have ih := wordR_some k l (fun x hx => h x (by simp [hx])) (by omega)
    cases hc : modT m ++ txt l with
    | nil => rw [List.append_eq_nil_iff] at hc; rw [hc.1] at hp; simp at hp
    | cons c t =>
      rw [hc] at hm
      unfold wordR
      rw [hm]
      show (wordR k (txt l)).map (m :: ·) = _
      rw [ih]; rfl
/-- The valid word with a text. -/
def prs (s : Bs) : Option (List Md) := (wordR s.length s).bind fun w => if chk w = 0 then some w else none
theorem prs_iff {s : Bs} {w : List Md} : prs s = some w ↔ chk w = 0 ∧ txt w = s := by
  unfold prs
  rw [Option.bind_eq_some_iff]
  constructor
  · rintro ⟨v, hv, h⟩
    split at h
    · rename_i hc
      simp at h; subst h
      exact ⟨hc, wordR_back _ _ _ hv⟩
    · exact absurd h (by simp)
  · rintro ⟨hc, rfl⟩
    have hf : ∀ m ∈ w, fineB m = true := by
      have := (chk_zero.1 hc).2.1
      simpa using this
    exact ⟨w, wordR_some _ w hf (Nat.le_refl _), by rw [if_pos hc]⟩
end WM
end Go.Proofs.Ytkjjehnfibfngaa
