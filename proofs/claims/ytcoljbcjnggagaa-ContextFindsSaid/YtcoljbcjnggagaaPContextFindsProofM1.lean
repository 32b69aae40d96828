/-
  Texts of the proof, merged: PWordMath, PWordRead, PRewMath, PConMath.
-/
import Derived.Lib.ItoaNum
namespace Go.Proofs.Ytcoljbcjnggagaa
namespace WM
set_option linter.unusedVariables false
set_option linter.unusedSimpArgs false

abbrev Bs := List UInt8
/-- A module: its name and its args. -/
structure Md where
  c : UInt8
  a : List Int
deriving DecidableEq

/-- The bytes that are names. -/
def letB (c : UInt8) : Bool :=
  (c == 43 || c == 45 || c == 38 || c == 94 || c == 124 || c == 33 || c == 91 || c == 93) || (decide (65 ≤ c.toNat) && decide (c.toNat ≤ 90)) || (decide (97 ≤ c.toNat) && decide (c.toNat ≤ 122))
def braB (c : UInt8) : Bool := c == 91 || c == 93
def rngB (l : List Int) : Bool := l.all fun x => decide (-1000000000 ≤ x) && decide (x ≤ 1000000000)
/-- A valid module. -/
def fineB (m : Md) : Bool := letB m.c && decide (m.a.length ≤ 4) && !(braB m.c && decide (0 < m.a.length)) && rngB m.a
theorem rngB_iff {l : List Int} : rngB l = true ↔ ∀ x ∈ l, -1000000000 ≤ x ∧ x ≤ 1000000000 := by simp [rngB]
/-- What a module adds to the open brackets. -/
def dlt (m : Md) : Int := if m.c = 91 then 1 else if m.c = 93 then -1 else 0
def dep (l : List Md) : Int := (l.map dlt).foldr (· + ·) 0
theorem dep_nil : dep [] = 0 := rfl
theorem dep_cons (m : Md) (l : List Md) : dep (m :: l) = dlt m + dep l := rfl
theorem dep_app (a b : List Md) : dep (a ++ b) = dep a + dep b := by
  induction a with
  | nil => rw [dep_nil]; simp
  | cons m a ih => rw [List.cons_append, dep_cons, dep_cons, ih]; omega
theorem dep_snoc {l : List Md} {k : Nat} (h : k < l.length) : dep (l.take (k + 1)) = dep (l.take k) + dlt l[k] := by
  rw [List.take_add_one, List.getElem?_eq_getElem h, dep_app]
  show dep (l.take k) + dep [l[k]] = _
  rw [dep_cons, dep_nil]; omega
theorem dlt_cases (m : Md) : dlt m = 1 ∨ dlt m = -1 ∨ dlt m = 0 := by
  unfold dlt; split
  · simp
  · split <;> simp
/-- The brackets that are open behind each module. -/
def opnL (l : List Md) (k : Nat) : List Int := (List.range k).map fun i => dep (l.take (i + 1))
theorem opnL_length (l : List Md) (k : Nat) : (opnL l k).length = k := by simp [opnL]
theorem opnL_get {l : List Md} {k i : Nat} (h : i < k) : (opnL l k)[i]'(by rw [opnL_length]; exact h) = dep (l.take (i + 1)) := by simp [opnL]
theorem opnL_succ (l : List Md) (k : Nat) : opnL l (k + 1) = opnL l k ++ [dep (l.take (k + 1))] := by simp [opnL, List.range_succ]
/-- No ] comes without a [ that is open, up to a place. -/
def okB (l : List Md) (k : Nat) : Bool := (opnL l k).all fun x => decide (0 ≤ x)
theorem okB_zero (l : List Md) : okB l 0 = true := rfl
theorem okB_succ (l : List Md) (k : Nat) : okB l (k + 1) = (okB l k && decide (0 ≤ dep (l.take (k + 1)))) := by simp [okB, opnL_succ]
theorem okB_iff {l : List Md} {k : Nat} : okB l k = true ↔ ∀ i, i < k → 0 ≤ dep (l.take (i + 1)) := by
  unfold okB opnL; rw [List.all_map, List.all_eq_true]
  simp
theorem okB_mono {l : List Md} {j k : Nat} (h : j ≤ k) (hk : okB l k = true) : okB l j = true := okB_iff.2 fun i hi => okB_iff.1 hk i (by omega)
/-- Check's answer. -/
def chk (l : List Md) : Int := if 2000 < l.length then 4 else if l.all fineB = false then 8 else if (okB l l.length && decide (dep l = 0)) = true then 0 else 28
theorem chk_zero {l : List Md} : chk l = 0 ↔ l.length ≤ 2000 ∧ l.all fineB = true ∧ okB l l.length = true ∧ dep l = 0 := by
  unfold chk
  split
  · simp; omega
  · split
    · rename_i h; simp [h]
    · split
      · rename_i h1 h2 h3
        simp at h3
        simp at h2
        simp [h3]
        exact ⟨by omega, h2⟩
      · rename_i h1 h2 h3
        simp at h3
        simp
        intro _ _ h4; exact h3 h4
theorem chk_many {l : List Md} (h : 2000 < l.length) : chk l = 4 := by unfold chk; rw [if_pos h]
theorem chk_bad {l : List Md} (h : ¬ 2000 < l.length) (h2 : l.all fineB = false) : chk l = 8 := by unfold chk; rw [if_neg h, if_pos h2]
theorem chk_open {l : List Md} (h : ¬ 2000 < l.length) (h2 : l.all fineB = true) (h3 : (okB l l.length && decide (dep l = 0)) = false) : chk l = 28 := by
  unfold chk; rw [if_neg h, if_neg (by rw [h2]; simp), if_neg (by rw [h3]; simp)]
theorem chk_vals (l : List Md) : chk l = 0 ∨ chk l = 4 ∨ chk l = 8 ∨ chk l = 28 := by
  unfold chk; split
  · simp
  · split
    · simp
    · split <;> simp
/-- The greatest number of open brackets. -/
def dmax (l : List Md) (k : Nat) : Int := (opnL l k).foldl max 0
theorem dmax_zero (l : List Md) : dmax l 0 = 0 := rfl
theorem dmax_succ (l : List Md) (k : Nat) : dmax l (k + 1) = max (dmax l k) (dep (l.take (k + 1))) := by simp [dmax, opnL_succ]
theorem dmax_nonneg (l : List Md) (k : Nat) : 0 ≤ dmax l k := by
  induction k with
  | zero => exact Int.le_refl _
  | succ k ih => rw [dmax_succ]; omega
/-- The trunk, up to a place. -/
def trunk (l : List Md) (k : Nat) : List Md := ((List.range k).filter fun i => decide (dep (l.take (i + 1)) = 0) && !((l.getD i ⟨0, []⟩).c == 93)).map fun i => l.getD i ⟨0, []⟩
theorem trunk_zero (l : List Md) : trunk l 0 = [] := rfl
theorem trunk_succ {l : List Md} {k : Nat} (h : k < l.length) : trunk l (k + 1) = if (decide (dep (l.take (k + 1)) = 0) && !(l[k].c == 93)) = true then trunk l k ++ [l[k]] else trunk l k := by
  have e : l.getD k ⟨0, []⟩ = l[k] := by simp [List.getD, h]
  unfold trunk
  rw [List.range_succ, List.filter_append, List.map_append]
  by_cases hc : (decide (dep (l.take (k + 1)) = 0) && !(l[k].c == 93)) = true
  · rw [if_pos hc]
    congr 1
    simp only [List.filter_cons, List.filter_nil, e, hc, if_true, List.map_cons, List.map_nil]
  · rw [if_neg hc]
    simp only [List.filter_cons, List.filter_nil, e, hc, if_false, List.map_nil, List.append_nil]
    simp
theorem trunk_length (l : List Md) (k : Nat) : (trunk l k).length ≤ k := by
  unfold trunk; rw [List.length_map]
  have := List.length_filter_le (fun i => decide (dep (l.take (i + 1)) = 0) && !((l.getD i ⟨0, []⟩).c == 93)) (List.range k)
  rwa [List.length_range] at this
/-- How many modules have a name. -/
def cntB (l : List Md) (c : UInt8) : Nat := l.countP fun m => m.c == c
theorem cntB_app (a b : List Md) (c : UInt8) : cntB (a ++ b) c = cntB a c + cntB b c := List.countP_append
theorem cntB_succ {l : List Md} {k : Nat} (h : k < l.length) (c : UInt8) : cntB (l.take (k + 1)) c = cntB (l.take k) c + (if (l[k].c == c) = true then 1 else 0) := by
  rw [List.take_add_one, List.getElem?_eq_getElem h, cntB_app]
  congr 1
  simp [cntB, List.countP_cons]
/-- A module's text. -/
def argsT : List Int → Bs
  | [] => []
  | x :: l => 44 :: (Lib.itoa x ++ argsT l)
def modT (m : Md) : Bs := match m.a with
  | [] => [m.c]
  | x :: l => m.c :: 40 :: (Lib.itoa x ++ argsT l ++ [41])
def txt (l : List Md) : Bs := l.flatMap modT
theorem txt_app (a b : List Md) : txt (a ++ b) = txt a ++ txt b := by simp [txt]
theorem txt_snoc {l : List Md} {k : Nat} (h : k < l.length) : txt (l.take (k + 1)) = txt (l.take k) ++ modT l[k] := by
  rw [List.take_add_one, List.getElem?_eq_getElem h, txt_app]
  simp [txt]
end WM
end Go.Proofs.Ytcoljbcjnggagaa
namespace Go.Proofs.Ytcoljbcjnggagaa
namespace WM
set_option linter.unusedVariables false
set_option linter.unusedSimpArgs false

def digP (c : UInt8) : Bool := decide (48 ≤ c.toNat) && decide (c.toNat ≤ 57)
theorem digP_iff {c : UInt8} : digP c = true ↔ 48 ≤ c.toNat ∧ c.toNat ≤ 57 := by simp [digP]
theorem ofNat_dig {k : Nat} (h : k < 10) : (UInt8.ofNat (48 + k)).toNat = 48 + k := by
  rw [UInt8.toNat_ofNat']; omega
theorem dec_digits : ∀ u, ∀ c ∈ Lib.decDigits u, digP c = true := by
  intro u
  induction u using Nat.strongRecOn with
  | _ u ih =>
    intro c hc
    unfold Lib.decDigits at hc
    split at hc
    · rw [List.mem_singleton] at hc; subst hc; rw [digP_iff, ofNat_dig (by omega)]; omega
    · rw [List.mem_append, List.mem_singleton] at hc
      rcases hc with hc | hc
      · exact ih (u / 10) (by omega) c hc
      · subst hc; rw [digP_iff, ofNat_dig (by omega)]; omega
theorem dec_ne (u : Nat) : Lib.decDigits u ≠ [] := by
  unfold Lib.decDigits; split <;> simp
def valF (acc : Nat) (l : Bs) : Nat := l.foldl (fun a c => a * 10 + (c.toNat - 48)) acc
theorem valF_snoc (acc : Nat) (l : Bs) (c : UInt8) : valF acc (l ++ [c]) = valF acc l * 10 + (c.toNat - 48) := by simp [valF, List.foldl_append]
theorem valF_dec : ∀ u, valF 0 (Lib.decDigits u) = u := by
  intro u
  induction u using Nat.strongRecOn with
  | _ u ih =>
    unfold Lib.decDigits
    split
    · simp only [valF, List.foldl_cons, List.foldl_nil]; rw [ofNat_dig (by omega)]; omega
    · rw [valF_snoc, ih (u / 10) (by omega), ofNat_dig (by omega)]; omega
/-- No numeral of more than one digit begins with 0. -/
theorem dec_head : ∀ u, (Lib.decDigits u).head? ≠ some 48 ∨ Lib.decDigits u = [48] := by
  intro u
  induction u using Nat.strongRecOn with
  | _ u ih =>
    unfold Lib.decDigits
    split
    · rename_i h
      by_cases h0 : u = 0
      · subst h0; right; rfl
      · left
        intro e
        have := congrArg (fun o : Option UInt8 => o.map UInt8.toNat) e
        simp only [List.head?_cons, Option.map_some] at this
        rw [ofNat_dig (by omega)] at this
        have h9 : (48 : UInt8).toNat = 48 := rfl
        rw [h9] at this
        have := Option.some.inj this; omega
    · rename_i h
      have hn := dec_ne (u / 10)
      left
      rcases ih (u / 10) (by omega) with h1 | h1
      · intro e; apply h1
        cases hd : Lib.decDigits (u / 10) with
        | nil => exact absurd hd hn
        | cons a l => rw [hd] at e; simpa using e
      · exfalso
        have := valF_dec (u / 10)
        rw [h1] at this
        have h9 : valF 0 [48] = 0 := rfl
        omega
theorem valF_pos {l : Bs} (hd : ∀ c ∈ l, digP c = true) (h : l.head? ≠ some 48) (hn : l ≠ []) : 1 ≤ valF 0 l := by
  cases l with
  | nil => exact absurd rfl hn
  | cons c l =>
    have h1 := digP_iff.1 (hd c (by simp))
    have h2 : c.toNat ≠ 48 := fun e => h (by rw [List.head?_cons]; congr 1; exact UInt8.toNat_inj.1 e)
    have ge : ∀ (l : Bs) (acc : Nat), acc ≤ valF acc l := by
      intro l
      induction l with
      | nil => intro acc; exact Nat.le_refl _
      | cons c l ih => intro acc; exact Nat.le_trans (by omega) (ih (acc * 10 + (c.toNat - 48)))
    have := ge l (0 * 10 + (c.toNat - 48))
    show 1 ≤ valF (0 * 10 + (c.toNat - 48)) l
    omega
/-- Digits without a zero in front are the numeral of their value. -/
theorem dec_valF : ∀ n (l : Bs), l.length = n → (∀ c ∈ l, digP c = true) → l ≠ [] → (l.head? ≠ some 48 ∨ l = [48]) → Lib.decDigits (valF 0 l) = l := by
  intro n
  induction n with
  | zero => intro l hl _ hn; exact absurd (List.length_eq_zero_iff.1 hl) hn
  | succ n ih =>
    intro l hl hd hn hh
    obtain ⟨m, c, rfl⟩ : ∃ m c, l = m ++ [c] := ⟨l.dropLast, l.getLast hn, (List.dropLast_concat_getLast hn).symm⟩
    have hc := digP_iff.1 (hd c (by simp))
    have e48 : UInt8.ofNat (48 + (c.toNat - 48)) = c := UInt8.toNat_inj.1 (by rw [ofNat_dig (by omega)]; omega)
    by_cases hm : m = []
    · subst hm
      show Lib.decDigits (0 * 10 + (c.toNat - 48)) = [c]
      rw [Nat.zero_mul, Nat.zero_add, Lib.decDigits, dif_pos (by omega), e48]
    · have hh2 : m.head? ≠ some 48 := by
        rcases hh with h | h
        · intro e; apply h
          cases m with
          | nil => exact absurd rfl hm
          | cons a m => simpa using e
        · exfalso
          have := congrArg List.length h
          rw [List.length_append] at this
          have h7 : m.length ≠ 0 := fun e => hm (List.length_eq_zero_iff.1 e)
          rw [List.length_singleton, List.length_singleton] at this
          omega
      have hdm : ∀ c ∈ m, digP c = true := fun x hx => hd x (by simp [hx])
      have hp := valF_pos hdm hh2 hm
      rw [valF_snoc, Lib.decDigits, dif_neg (by omega)]
      have e1 : (valF 0 m * 10 + (c.toNat - 48)) / 10 = valF 0 m := by omega
      have e2 : (valF 0 m * 10 + (c.toNat - 48)) % 10 = c.toNat - 48 := by omega
      rw [e1, e2, e48, ih m (by rw [List.length_append] at hl; simpa using hl) hdm hm (.inl hh2)]

/-- Up to n digits in front. -/
def takeD : Nat → Bs → Bs
  | 0, _ => []
  | _ + 1, [] => []
  | n + 1, c :: l => if digP c = true then c :: takeD n l else []
theorem takeD_digits : ∀ n l, ∀ c ∈ takeD n l, digP c = true
  | 0, _, c, h => by simp [takeD] at h
  | n + 1, [], c, h => by simp [takeD] at h
  | n + 1, a :: l, c, h => by
    unfold takeD at h
    split at h
    · rename_i ha
      rw [List.mem_cons] at h
      rcases h with h | h
      · subst h; exact ha
      · exact takeD_digits n l c h
    · simp at h
theorem takeD_app : ∀ n l, takeD n l ++ l.drop (takeD n l).length = l
  | 0, _ => by simp [takeD]
  | n + 1, [] => by simp [takeD]
  | n + 1, a :: l => by
    unfold takeD
    split
    · simp [takeD_app n l]
    · simp
theorem takeD_all : ∀ n (d r : Bs), (∀ c ∈ d, digP c = true) → d.length ≤ n → (∀ c t, r = c :: t → digP c = false) → takeD n (d ++ r) = d
  | 0, d, r, _, hl, _ => by
    have : d = [] := List.length_eq_zero_iff.1 (by omega)
    subst this; rfl
  | n + 1, [], [], _, _, _ => rfl
  | n + 1, [], c :: t, _, _, hr => by
    have := hr c t rfl
    simp [takeD, this]
  | n + 1, a :: d, r, hd, hl, hr => by
    have h1 := hd a (by simp)
    simp only [List.cons_append, takeD, h1, if_true]
    rw [takeD_all n d r (fun c hc => hd c (by simp [hc])) (by simpa using hl) hr]
/-- A number in front: its value and what is left. -/
def signR : Bs → Bool × Bs
  | [] => (false, [])
  | c :: t => if c = 45 then (true, t) else (false, c :: t)
def numB (g : Bool) (d : Bs) : Bool := !d.isEmpty && !(d.head? == some 48 && decide (1 < d.length)) && !(g && decide (valF 0 d = 0))
def numI (g : Bool) (d : Bs) : Int := if g = true then -(valF 0 d : Int) else valF 0 d
def numR (s : Bs) : Option (Int × Bs) :=
  if numB (signR s).1 (takeD 10 (signR s).2) = true then some (numI (signR s).1 (takeD 10 (signR s).2), (signR s).2.drop (takeD 10 (signR s).2).length) else none
theorem signR_app (s : Bs) : (if (signR s).1 = true then [45] else []) ++ (signR s).2 = s := by
  cases s with
  | nil => rfl
  | cons c t =>
    by_cases h : c = 45
    · subst h; rfl
    · have e : signR (c :: t) = (false, c :: t) := by simp [signR, h]
      rw [e]; rfl
theorem num_itoa {g : Bool} {d : Bs} (hd : ∀ c ∈ d, digP c = true) (h : numB g d = true) : Lib.itoa (numI g d) = (if g = true then [45] else []) ++ d := by
  unfold numB at h
  simp only [Bool.and_eq_true, Bool.not_eq_true', List.isEmpty_eq_false_iff] at h
  obtain ⟨⟨h1, h2⟩, h3⟩ := h
  have hh : d.head? ≠ some 48 ∨ d = [48] := by
    by_cases e : d.head? = some 48
    · right
      rw [e] at h2
      simp at h2
      cases d with
      | nil => exact absurd rfl h1
      | cons a l =>
        simp at e; subst e
        simp at h2; simp [h2]
    · exact .inl e
  have hv := dec_valF _ d rfl hd h1 hh
  cases g with
  | false =>
    show Lib.itoa (valF 0 d : Int) = [] ++ d
    unfold Lib.itoa
    rw [if_neg (by omega), Int.toNat_natCast, hv]; rfl
  | true =>
    have hp : valF 0 d ≠ 0 := by simpa using h3
    show Lib.itoa (-(valF 0 d : Int)) = [45] ++ d
    unfold Lib.itoa
    rw [if_pos (by omega), show (-(valF 0 d : Int)).natAbs = valF 0 d by omega, hv]; rfl
theorem numR_back {s r : Bs} {n : Int} (h : numR s = some (n, r)) : s = Lib.itoa n ++ r := by
  unfold numR at h
  split at h
  · rename_i hb
    simp only [Option.some.injEq, Prod.mk.injEq] at h
    obtain ⟨rfl, rfl⟩ := h
    rw [num_itoa (takeD_digits _ _) hb, List.append_assoc, takeD_app, signR_app]
  · exact absurd h (by simp)
theorem dec_length {u : Nat} (h : u ≤ 9999999999) : (Lib.decDigits u).length ≤ 10 := by
  rw [Lib.decDigits_length]
  have h1 := Lib.lt_pow_nDigits u
  rcases Nat.lt_or_ge 10 (Lib.nDigits u) with h2 | h2
  · exfalso
    have hpow : ∀ k u, k < Lib.nDigits u → 10 ^ k ≤ u ∨ k = 0 := by
      intro k
      induction k with
      | zero => intro u _; right; rfl
      | succ k ih =>
        intro u hu
        left
        by_cases hs : u < 10
        · rw [Lib.nDigits_small hs] at hu; omega
        · rw [Lib.nDigits_big hs] at hu
          rcases ih (u / 10) (by omega) with h | h
          · rw [Nat.pow_succ]; omega
          · subst h; simp; omega
    rcases hpow 10 u h2 with h3 | h3
    · have : (10 : Nat) ^ 10 = 10000000000 := by decide
      omega
    · omega
  · exact h2
theorem numR_itoa {n : Int} (hn : -1000000000 ≤ n ∧ n ≤ 1000000000) {r : Bs} (hr : ∀ c t, r = c :: t → digP c = false) : numR (Lib.itoa n ++ r) = some (n, r) := by
  have hdd := dec_digits n.natAbs
  have hl := dec_length (u := n.natAbs) (by omega)
  have ht := takeD_all 10 (Lib.decDigits n.natAbs) r hdd hl hr
  have key : ∀ g : Bool, (g = true → n < 0) → (g = false → 0 ≤ n) → signR (Lib.itoa n ++ r) = (g, Lib.decDigits n.natAbs ++ r) → numR (Lib.itoa n ++ r) = some (n, r) := by
    intro g h1 h2 hs
    unfold numR
    rw [hs]
    simp only [ht]
    have hb : numB g (Lib.decDigits n.natAbs) = true := by
      unfold numB
      simp only [Bool.and_eq_true, Bool.not_eq_true', List.isEmpty_eq_false_iff]
      refine ⟨⟨dec_ne _, ?_⟩, ?_⟩
      · rcases dec_head n.natAbs with h | h
        · simp [h]
        · rw [h]; rfl
      · cases g with
        | false => rfl
        | true =>
          have := h1 rfl
          rw [valF_dec]; simp; omega
    rw [if_pos hb]
    have hi : numI g (Lib.decDigits n.natAbs) = n := by
      unfold numI; rw [valF_dec]
      cases g with
      | false => have := h2 rfl; simp; omega
      | true => have := h1 rfl; simp; omega
    rw [hi, List.drop_left']
    rfl
  by_cases h : n < 0
  · refine key true (fun _ => h) (fun e => absurd e (by simp)) ?_
    unfold Lib.itoa; rw [if_pos h]; rfl
  · refine key false (fun e => absurd e (by simp)) (fun _ => by omega) ?_
    unfold Lib.itoa; rw [if_neg h, show n.toNat = n.natAbs by omega]
    cases hd : Lib.decDigits n.natAbs with
    | nil => exact absurd hd (dec_ne _)
    | cons a l =>
      have := digP_iff.1 (hdd a (by rw [hd]; simp))
      have h45 : a ≠ 45 := fun e => by rw [e] at this; simp at this
      simp [signR, h45]
/-! ### Args, modules, words -/
/-- Does an arg follow? -/
def moreB (a : List Int) (c : UInt8) : Bool := (c == 40 && a.isEmpty) || (c == 44 && !a.isEmpty)
def argsR : Nat → List Int → Bs → Option (List Int × Bs)
  | 0, a, s => some (a, s)
  | _ + 1, a, [] => some (a, [])
  | k + 1, a, c :: t => if moreB a c = true then (match numR t with
      | none => none
      | some (n, r) => argsR k (a ++ [n]) r) else some (a, c :: t)
def modR : Bs → Option (Md × Bs)
  | [] => none
  | c :: t => match argsR t.length [] t with
    | none => none
    | some ([], r) => some (⟨c, []⟩, r)
    | some (x :: a, 41 :: r) => some (⟨c, x :: a⟩, r)
    | some (_ :: _, _) => none
def wordR : Nat → Bs → Option (List Md)
  | _, [] => some []
  | 0, _ :: _ => none
  | k + 1, c :: t => match modR (c :: t) with
    | none => none
    | some (m, r) => (wordR k r).map (m :: ·)
/-- The text of args that are written in front of more. -/
def argT (a : List Int) : Bs := match a with
  | [] => []
  | x :: l => 40 :: (Lib.itoa x ++ argsT l)
theorem argsT_snoc (l : List Int) (n : Int) : argsT (l ++ [n]) = argsT l ++ 44 :: Lib.itoa n := by
  induction l with
  | nil => simp [argsT]
  | cons x l ih => simp [argsT, ih]
theorem argT_snoc (a : List Int) (n : Int) : argT (a ++ [n]) = argT a ++ (if a.isEmpty = true then 40 else 44) :: Lib.itoa n := by
  cases a with
  | nil => simp [argT, argsT]
  | cons x l => simp [argT, argsT_snoc]
theorem moreB_byte {a : List Int} {c : UInt8} (h : moreB a c = true) : c = (if a.isEmpty = true then 40 else 44) := by
  unfold moreB at h
  cases ha : a.isEmpty
  · rw [ha] at h; simp at h; simp [h]
  · rw [ha] at h; simp at h; simp [h]
theorem argsR_back : ∀ k a s b r, argsR k a s = some (b, r) → argT a ++ s = argT b ++ r
  | 0, a, s, b, r, h => by simp [argsR] at h; rw [h.1, h.2]
  | k + 1, a, [], b, r, h => by simp [argsR] at h; rw [h.1, h.2]
  | k + 1, a, c :: t, b, r, h => by
    unfold argsR at h
    split at h
    · rename_i hm
      split at h
      · exact absurd h (by simp)
      · rename_i n r' hn
        have h1 := argsR_back k _ _ _ _ h
        rw [argT_snoc] at h1
        rw [numR_back hn, moreB_byte hm, ← h1]; simp
    · simp at h; rw [h.1, h.2]
theorem modT_eq (m : Md) : modT m = m.c :: (argT m.a ++ if m.a.isEmpty = true then [] else [41]) := by
  obtain ⟨c, a⟩ := m
  cases a with
  | nil => rfl
  | cons x l => simp [modT, argT]
theorem modR_back {s r : Bs} {m : Md} (h : modR s = some (m, r)) : s = modT m ++ r := by
  cases s with
  | nil => exact absurd h (by simp [modR])
  | cons c t =>
    rw [modR] at h
    split at h
    · exact absurd h (by simp)
    · rename_i r' ha
      have hb : argT [] ++ t = argT [] ++ r' := argsR_back _ _ _ _ _ ha
      have hb' : t = r' := hb
      simp only [Option.some.injEq, Prod.mk.injEq] at h
      rw [hb', ← h.1, ← h.2]; rfl
    · rename_i x a r' ha
      have hb : argT [] ++ t = argT (x :: a) ++ 41 :: r' := argsR_back _ _ _ _ _ ha
      have hb' : t = argT (x :: a) ++ 41 :: r' := hb
      simp only [Option.some.injEq, Prod.mk.injEq] at h
      rw [← h.1, ← h.2, modT_eq, hb']
      simp
    · exact absurd h (by simp)
theorem modT_pos (m : Md) : 1 ≤ (modT m).length := by rw [modT_eq]; simp
theorem wordR_back : ∀ k s w, wordR k s = some w → txt w = s
  | k, [], w, h => by
    have : w = [] := by cases k <;> simp [wordR] at h <;> exact h
    subst this; rfl
  | 0, _ :: _, w, h => by simp [wordR] at h
  | k + 1, c :: t, w, h => by
    unfold wordR at h
    split at h
    · exact absurd h (by simp)
    · rename_i m r hm
      rw [Option.map_eq_some_iff] at h
      obtain ⟨v, hv, rfl⟩ := h
      rw [modR_back hm, ← wordR_back k r v hv]; rfl
/-- What does not go on with args. -/
def stopB (s : Bs) : Prop := ∀ c t, s = c :: t → c ≠ 40 ∧ c ≠ 44 ∧ digP c = false
theorem itoa_ne (n : Int) : Lib.itoa n ≠ [] := by
  unfold Lib.itoa; split
  · simp
  · exact dec_ne _
theorem argsR_some : ∀ k (a l : List Int) (r : Bs), (∀ x ∈ l, -1000000000 ≤ x ∧ x ≤ 1000000000) → a ≠ [] → (∀ c t, r = c :: t → c ≠ 44 ∧ digP c = false) → l.length ≤ k → (k = l.length → r = [] ∨ ∃ c t, r = c :: t) →
    argsR k a (argsT l ++ r) = some (a ++ l, r)
  | 0, a, l, r, _, _, _, hk, _ => by
    have : l = [] := List.length_eq_zero_iff.1 (by omega)
    subst this; simp [argsR, argsT]
  | k + 1, a, [], r, _, ha, hr, _, _ => by
    cases r with
    | nil => simp [argsR, argsT]
    | cons c t =>
      have h := hr c t rfl
      have : moreB a c = false := by
        unfold moreB
        have h1 : a.isEmpty = false := by cases a; exact absurd rfl ha; rfl
        simp [h1, h.1]
      simp [argsR, argsT, this]
  | k + 1, a, x :: l, r, hl, ha, hr, hk, _ => by
    have h1 : a.isEmpty = false := by cases a; exact absurd rfl ha; rfl
    have hm : moreB a 44 = true := by simp [moreB, h1]
    have hnd : ∀ c t, argsT l ++ r = c :: t → digP c = false := by
      intro c t e
      cases l with
      | nil => exact (hr c t (by simpa [argsT] using e)).2
      | cons y l => simp [argsT] at e; rw [← e.1]; rfl
    have hn := numR_itoa (hl x (by simp)) (r := argsT l ++ r) hnd
    show argsR (k + 1) a (44 :: (Lib.itoa x ++ argsT l) ++ r) = _
    rw [List.cons_append, List.append_assoc]
    unfold argsR
    rw [if_pos hm, hn]
    show argsR k (a ++ [x]) (argsT l ++ r) = _
    rw [argsR_some k (a ++ [x]) l r (fun y hy => hl y (by simp [hy])) (by simp) hr (by simpa using hk) (fun _ => by cases r; exact .inl rfl; exact .inr ⟨_, _, rfl⟩)]
    simp
theorem modR_some {m : Md} (hm : fineB m = true) {r : Bs} (hr : stopB r) : modR (modT m ++ r) = some (m, r) := by
  obtain ⟨c, a⟩ := m
  have hrg : ∀ x ∈ a, -1000000000 ≤ x ∧ x ≤ 1000000000 := by
    have : rngB a = true := by
      unfold fineB at hm; simp only [Bool.and_eq_true] at hm; exact hm.2
    exact rngB_iff.1 this
  cases a with
  | nil =>
    show modR (c :: r) = _
    have : argsR r.length [] r = some ([], r) := by
      cases r with
      | nil => rfl
      | cons b t =>
        have h := hr b t rfl
        have hb : moreB [] b = false := by simp [moreB, h.1]
        simp [argsR, hb]
    simp [modR, this]
  | cons x l =>
    have hn := numR_itoa (hrg x (by simp)) (r := argsT l ++ (41 :: r)) (by
      intro b t e
      cases l with
      | nil => simp [argsT] at e; rw [← e.1]; rfl
      | cons y l => simp [argsT] at e; rw [← e.1]; rfl)
    have hgo := argsR_some ((Lib.itoa x ++ argsT l ++ (41 :: r)).length) [x] l (41 :: r) (fun y hy => hrg y (by simp [hy])) (by simp) (by
      intro b t e; simp at e; rw [← e.1]; exact ⟨by decide, rfl⟩) (by
      have : ∀ l : List Int, l.length ≤ (argsT l).length := by
        intro l
        induction l with
        | nil => simp [argsT]
        | cons y l ih => simp [argsT]; omega
      have := this l
      simp; omega) (fun _ => .inr ⟨_, _, rfl⟩)
    show modR ((c :: 40 :: (Lib.itoa x ++ argsT l ++ [41])) ++ r) = _
    have e1 : (c :: 40 :: (Lib.itoa x ++ argsT l ++ [41])) ++ r = c :: 40 :: (Lib.itoa x ++ (argsT l ++ (41 :: r))) := by simp
    rw [e1]
    have e2 : argsR (40 :: (Lib.itoa x ++ (argsT l ++ (41 :: r)))).length [] (40 :: (Lib.itoa x ++ (argsT l ++ (41 :: r)))) = some (x :: l, 41 :: r) := by
      have e3 : (40 :: (Lib.itoa x ++ (argsT l ++ (41 :: r)))).length = (Lib.itoa x ++ argsT l ++ (41 :: r)).length + 1 := by simp
      rw [e3]
      unfold argsR
      rw [if_pos (by rfl), hn]
      exact hgo
    simp only [modR, e2]
theorem letB_stop {c : UInt8} (h : letB c = true) : c ≠ 40 ∧ c ≠ 44 ∧ digP c = false := by
  have all : ∀ n : Fin 256, letB (UInt8.ofNat n.1) = true → UInt8.ofNat n.1 ≠ 40 ∧ UInt8.ofNat n.1 ≠ 44 ∧ digP (UInt8.ofNat n.1) = false := by decide +kernel
  have e : UInt8.ofNat c.toNat = c := UInt8.toNat_inj.1 (by rw [UInt8.toNat_ofNat']; have := c.toNat_lt; omega)
  have := all ⟨c.toNat, c.toNat_lt⟩
  rw [e] at this
  exact this h
theorem fine_let {m : Md} (h : fineB m = true) : letB m.c = true := by
  unfold fineB at h; simp only [Bool.and_eq_true] at h; exact h.1.1.1
theorem stop_txt {l : List Md} (h : ∀ m ∈ l, fineB m = true) : stopB (txt l) := by
  intro c t e
  cases l with
  | nil => simp [txt] at e
  | cons m l =>
    rw [show txt (m :: l) = modT m ++ txt l from rfl, modT_eq] at e
    simp at e
    rw [← e.1]
    exact letB_stop (fine_let (h m (by simp)))
theorem wordR_some : ∀ k (l : List Md), (∀ m ∈ l, fineB m = true) → (txt l).length ≤ k → wordR k (txt l) = some l
  | k, [], _, _ => by cases k <;> rfl
  | 0, m :: l, _, hk => by
    have := modT_pos m
    rw [show txt (m :: l) = modT m ++ txt l from rfl, List.length_append] at hk; omega
  | k + 1, m :: l, h, hk => by
    have hs := stop_txt (l := l) fun x hx => h x (by simp [hx])
    have hm := modR_some (h m (by simp)) hs
    have hp := modT_pos m
    rw [show txt (m :: l) = modT m ++ txt l from rfl] at hk ⊢
    rw [List.length_append] at hk
    have ih := wordR_some k l (fun x hx => h x (by simp [hx])) (by omega)
    cases hc : modT m ++ txt l with
    | nil => rw [List.append_eq_nil_iff] at hc; rw [hc.1] at hp; simp at hp
    | cons c t =>
      rw [hc] at hm
      unfold wordR
      rw [hm]
      show (wordR k (txt l)).map (m :: ·) = _
      rw [ih]; rfl
/-- The valid word with a text. -/
def prs (s : Bs) : Option (List Md) := (wordR s.length s).bind fun w => if chk w = 0 then some w else none
theorem prs_iff {s : Bs} {w : List Md} : prs s = some w ↔ chk w = 0 ∧ txt w = s := by
  unfold prs
  rw [Option.bind_eq_some_iff]
  constructor
  · rintro ⟨v, hv, h⟩
    split at h
    · rename_i hc
      simp at h; subst h
      exact ⟨hc, wordR_back _ _ _ hv⟩
    · exact absurd h (by simp)
  · rintro ⟨hc, rfl⟩
    have hf : ∀ m ∈ w, fineB m = true := by
      have := (chk_zero.1 hc).2.1
      simpa using this
    exact ⟨w, wordR_some _ w hf (Nat.le_refl _), by rw [if_pos hc]⟩
end WM
end Go.Proofs.Ytcoljbcjnggagaa
namespace Go.Proofs.Ytcoljbcjnggagaa
open WM
set_option linter.unusedVariables false
set_option linter.unusedSimpArgs false
namespace RM

structure Fm where
  k : Int
  cs : List Int
  deriving DecidableEq
structure Sh where
  c : UInt8
  a : List Fm
  deriving DecidableEq
structure Rw where
  c : UInt8
  ar : Int
  l : UInt8
  r : UInt8
  gs : List Fm
  wt : Int
  out : List Sh
  deriving DecidableEq
def coefB (x : Int) : Bool := decide (-1000000 ≤ x) && decide (x ≤ 1000000)
theorem coefB_iff {x : Int} : coefB x = true ↔ -1000000 ≤ x ∧ x ≤ 1000000 := by simp [coefB]
/-- Is a form valid for a number of arguments? -/
def formB (f : Fm) (n : Int) : Bool := coefB f.k && decide ((f.cs.length : Int) = n) && f.cs.all coefB
/-- The module that a shape is like, its args 0. -/
def shM (s : Sh) : Md := ⟨s.c, List.replicate s.a.length 0⟩
def shB (s : Sh) (n : Int) : Bool := fineB (shM s) && s.a.all (formB · n)
/-- Is a rule valid in what the layers share? -/
def ruleB (r : Rw) : Bool := letB r.c && !(braB r.c) && decide (0 ≤ r.ar) && decide (r.ar ≤ 4) && r.gs.all (formB · r.ar) && r.out.all (shB · r.ar) && decide (chk (r.out.map shM) = 0)
def plainB (r : Rw) : Bool := r.l == 0 && r.r == 0 && decide (r.wt = 0)
def manyB (l : List Rw) : Bool := decide (40 < l.length) || l.any fun r => decide (4 < r.gs.length) || decide (20 < r.out.length)
/-- Check. -/
def rchk (l : List Rw) : Int := if manyB l = true then 4 else if l.all (fun r => ruleB r && plainB r) = true then 0 else 8
def wor : Int → List Int → List Int → Int
  | n, _, [] => n
  | n, [], _ :: _ => n
  | n, c :: cs, x :: xs => wor (n + c * x) cs xs
/-- A form's value. -/
def worth (f : Fm) (x : List Int) : Int := wor f.k f.cs x
theorem wor_snoc : ∀ (n : Int) (cs xs : List Int) (c x : Int), cs.length = xs.length → wor n (cs ++ [c]) (xs ++ [x]) = wor n cs xs + c * x
  | n, [], [], c, x, _ => by simp [wor]
  | n, c' :: cs, x' :: xs, c, x, h => by
    simp only [List.cons_append, wor]
    exact wor_snoc _ cs xs c x (by simpa using h)
  | n, [], _ :: _, _, _, h => by simp at h
  | n, _ :: _, [], _, _, h => by simp at h
theorem take_snoc {l : List Int} {k : Nat} (h : k < l.length) : l.take (k + 1) = l.take k ++ [l[k]] := List.take_succ_eq_append_getElem h
theorem wor_take {n : Int} {cs xs : List Int} (hl : cs.length = xs.length) {k : Nat} (h : k < xs.length) : wor n (cs.take (k + 1)) (xs.take (k + 1)) = wor n (cs.take k) (xs.take k) + cs[k]'(by omega) * xs[k] := by
  rw [take_snoc (l := cs) (by omega), take_snoc h]
  exact wor_snoc _ _ _ _ _ (by rw [List.length_take, List.length_take]; omega)
theorem mul_rng {c x : Int} (hc : -1000000 ≤ c ∧ c ≤ 1000000) (hx : -1000000000 ≤ x ∧ x ≤ 1000000000) : -1000000000000000 ≤ c * x ∧ c * x ≤ 1000000000000000 := by
  have key : ∀ a b : Int, -1000000 ≤ a → a ≤ 1000000 → 0 ≤ b → b ≤ 1000000000 → -1000000000000000 ≤ a * b ∧ a * b ≤ 1000000000000000 := by
    intro a b h1 h2 h3 h4
    have e1 : a * b ≤ 1000000 * b := Int.mul_le_mul_of_nonneg_right h2 h3
    have e2 : -1000000 * b ≤ a * b := Int.mul_le_mul_of_nonneg_right h1 h3
    omega
  by_cases h : 0 ≤ x
  · exact key c x hc.1 hc.2 h hx.2
  · have := key c (-x) hc.1 hc.2 (by omega) (by omega)
    rw [Int.mul_neg] at this
    omega
/-- The sum stays small at each step. -/
theorem wor_rng {n : Int} {cs xs : List Int} (hl : cs.length = xs.length) (hn : coefB n = true) (hc : cs.all coefB = true) (hx : ∀ x ∈ xs, -1000000000 ≤ x ∧ x ≤ 1000000000) :
    ∀ k, k ≤ xs.length → -1000000 - k * 1000000000000000 ≤ wor n (cs.take k) (xs.take k) ∧ wor n (cs.take k) (xs.take k) ≤ 1000000 + k * 1000000000000000 := by
  intro k
  induction k with
  | zero => intro _; have := coefB_iff.1 hn; simp [wor]; omega
  | succ k ih =>
    intro hk
    have h1 := ih (by omega)
    rw [wor_take hl (by omega)]
    have h2 := mul_rng (coefB_iff.1 (List.all_eq_true.1 hc _ (List.getElem_mem (show k < cs.length by omega)))) (hx _ (List.getElem_mem (show k < xs.length by omega)))
    omega
/-- Does a rule fit a module? -/
def fitB (r : Rw) (m : Md) : Bool := r.c == m.c && decide (r.ar = (m.a.length : Int)) && r.gs.all fun g => decide (0 ≤ worth g m.a)
/-- The first rule that fits from an index on, or -1. -/
def firstF : List Rw → Md → Int → Int
  | [], _, _ => -1
  | r :: l, m, i => if fitB r m = true then i else firstF l m (i + 1)
def first (l : List Rw) (m : Md) : Int := firstF l m 0
theorem firstF_rng : ∀ (l : List Rw) (m : Md) (i : Int), firstF l m i = -1 ∨ (i ≤ firstF l m i ∧ firstF l m i < i + l.length)
  | [], _, _ => .inl rfl
  | r :: l, m, i => by
    unfold firstF
    split
    · right; simp; omega
    · rcases firstF_rng l m (i + 1) with h | h
      · exact .inl h
      · right; simp; omega
theorem firstF_drop {l : List Rw} {m : Md} {k : Nat} (hk : k < l.length) : firstF (l.drop k) m (k : Int) = if fitB l[k] m = true then (k : Int) else firstF (l.drop (k + 1)) m ((k + 1 : Nat) : Int) := by
  rw [List.drop_eq_getElem_cons hk, firstF]
  rfl
theorem firstF_end {l : List Rw} {m : Md} {k : Nat} (hk : l.length ≤ k) : firstF (l.drop k) m (k : Int) = -1 := by
  rw [List.drop_of_length_le hk]; rfl
/-- Find's error and index. -/
def finC (l : List Rw) (m : Md) : Int := if rchk l ≠ 0 then rchk l else if fineB m = true then 0 else 8
def finV (l : List Rw) (m : Md) : Int := if finC l m = 0 then first l m else 0
/-- Value's error and number. -/
def vaC (f : Fm) (x : List Int) : Int :=
  if 4 < x.length ∨ formB f (x.length : Int) = false ∨ fineB ⟨70, x⟩ = false then 8 else if -1000000000 ≤ worth f x ∧ worth f x ≤ 1000000000 then 0 else 16
def vaV (f : Fm) (x : List Int) : Int := if vaC f x = 0 then worth f x else 0
/-- What a shape becomes. -/
def mkM (s : Sh) (x : List Int) : Md := ⟨s.c, s.a.map (worth · x)⟩
def argB (x : Int) : Bool := decide (-1000000000 ≤ x) && decide (x ≤ 1000000000)
def mkB (s : Sh) (x : List Int) : Bool := s.a.all fun f => argB (worth f x)
/-- What a rule makes of a module. -/
def made (r : Rw) (m : Md) : Option (List Md) := if r.out.all (mkB · m.a) = true then some (r.out.map (mkM · m.a)) else none
/-- A module's successor. -/
def succM (l : List Rw) (m : Md) : Option (List Md) := if h : 0 ≤ first l m then (match l[(first l m).toNat]? with | some r => made r m | none => none) else some [m]
/-- A word's successor, before its length is looked at. -/
def stepL (l : List Rw) : List Md → Option (List Md)
  | [] => some []
  | m :: w => match succM l m, stepL l w with
    | some a, some b => some (a ++ b)
    | _, _ => none
theorem stepL_app (l : List Rw) : ∀ a b : List Md, stepL l (a ++ b) = (match stepL l a, stepL l b with | some x, some y => some (x ++ y) | _, _ => none)
  | [], b => by
    simp only [List.nil_append, stepL]
    cases stepL l b <;> rfl
  | m :: a, b => by
    simp only [List.cons_append, stepL]
    rw [stepL_app l a b]
    cases succM l m <;> cases stepL l a <;> cases stepL l b <;> simp
theorem stepL_one (l : List Rw) (m : Md) : stepL l [m] = succM l m := by
  simp only [stepL]
  cases succM l m <;> simp
/-- Step's error and word. -/
def stC (l : List Rw) (w : List Md) : Int := if rchk l ≠ 0 then rchk l else if chk w ≠ 0 then chk w else match stepL l w with
  | none => 16
  | some v => if 2000 < v.length then 4 else 0
def stL (l : List Rw) (w : List Md) : List Md := if stC l w = 0 then (stepL l w).getD [] else []
/-- Run's error and word. -/
def runF (l : List Rw) : Nat → List Md → Int × List Md
  | 0, w => (0, w)
  | n + 1, w => if stC l w ≠ 0 then (stC l w, []) else runF l n (stL l w)
def ruC (l : List Rw) (w : List Md) (n : Int) : Int := if rchk l ≠ 0 then rchk l else if chk w ≠ 0 then chk w else if n < 0 ∨ 30 < n then 2 else (runF l n.toNat w).1
def ruL (l : List Rw) (w : List Md) (n : Int) : List Md := if ruC l w n = 0 then (runF l n.toNat w).2 else []
def greatR (l : List Rw) : Bool := decide (50 < l.length) || l.any fun r => decide (10 < r.gs.length) || decide (30 < r.out.length) || r.gs.any (fun g => decide (10 < g.cs.length)) || r.out.any (fun s => decide (10 < s.a.length) || s.a.any (fun g => decide (10 < g.cs.length)))
end RM
end Go.Proofs.Ytcoljbcjnggagaa
namespace Go.Proofs.Ytcoljbcjnggagaa
open WM RM
set_option linter.unusedVariables false
set_option linter.unusedSimpArgs false
namespace CM

abbrev md (u : List Md) (k : Nat) : Md := u.getD k ⟨0, []⟩
theorem md_get {u : List Md} {k : Nat} (h : k < u.length) : md u k = u[k] := by simp [md, List.getD, h]
def hasB (s : Bs) (c : UInt8) : Bool := s.any (· == c)
def plnB (c : UInt8) : Bool := letB c && !(braB c)
theorem pln_no {c : UInt8} (h : plnB c = true) : c ≠ 91 ∧ c ≠ 93 := by
  unfold plnB braB at h
  constructor <;> (rintro rfl; simp at h)
/-- The names of what is ignored, up to a place. -/
def ignU (s : Bs) (k : Nat) : Bool := (List.range k).all fun i => plnB (s.getD i 0) && !(hasB (s.take i) (s.getD i 0))
theorem ignU_zero (s : Bs) : ignU s 0 = true := rfl
theorem ignU_succ (s : Bs) (k : Nat) : ignU s (k + 1) = (ignU s k && (plnB (s.getD k 0) && !(hasB (s.take k) (s.getD k 0)))) := by simp [ignU, List.range_succ]
theorem ignU_mono {s : Bs} {j k : Nat} (h : j ≤ k) (hk : ignU s k = true) : ignU s j = true := by
  unfold ignU at *
  rw [List.all_eq_true] at *
  intro i hi
  exact hk i (by rw [List.mem_range] at *; omega)
def ignB (s : Bs) : Bool := decide (s.length ≤ 20) && ignU s s.length
theorem ign_pln {s : Bs} (h : ignU s s.length = true) {c : UInt8} (hc : hasB s c = true) : plnB c = true := by
  unfold hasB at hc
  rw [List.any_eq_true] at hc
  obtain ⟨x, hx, he⟩ := hc
  obtain ⟨i, hi, rfl⟩ := List.mem_iff_getElem.1 hx
  have h1 := ignU_mono (j := i + 1) (by omega) h
  rw [ignU_succ] at h1
  simp only [Bool.and_eq_true] at h1
  have h2 := h1.2.1
  rw [show s.getD i 0 = s[i] by simp [List.getD, hi]] at h2
  rw [← beq_iff_eq.1 he]; exact h2
/-- Going to the left from a place, out of so many branches that are passed. -/
def bfF (g : Bs) (u : List Md) : Nat → Int → Int
  | 0, _ => -1
  | k + 1, c =>
    if (md u k).c = 93 then bfF g u k (c + 1)
    else if (md u k).c = 91 then bfF g u k (if 0 < c then c - 1 else c)
    else if c = 0 ∧ hasB g (md u k).c = false then (k : Int)
    else bfF g u k c
def bef (g : Bs) (u : List Md) (i : Nat) : Int := bfF g u i 0
/-- Going to the right. -/
def bhF (g : Bs) : List Md → Nat → Int → Int
  | [], _, _ => -1
  | m :: l, k, o =>
    if m.c = 91 then bhF g l (k + 1) (o + 1)
    else if m.c = 93 then (if o = 0 then -1 else bhF g l (k + 1) (o - 1))
    else if o = 0 ∧ hasB g m.c = false then (k : Int)
    else bhF g l (k + 1) o
def bhd (g : Bs) (u : List Md) (k : Nat) (o : Int) : Int := bhF g (u.drop k) k o
def beh (g : Bs) (u : List Md) (i : Nat) : Int := bhd g u (i + 1) 0
section
variable {g : Bs} {u : List Md} {k : Nat} {c : Int}
theorem bf_zero : bfF g u 0 c = -1 := rfl
theorem bf_close (h : (md u k).c = 93) : bfF g u (k + 1) c = bfF g u k (c + 1) := by rw [bfF, if_pos h]
theorem bf_open (h : (md u k).c = 91) (hc : 0 < c) : bfF g u (k + 1) c = bfF g u k (c - 1) := by
  rw [bfF, if_neg (by rw [h]; decide), if_pos h, if_pos hc]
theorem bf_open0 (h : (md u k).c = 91) : bfF g u (k + 1) 0 = bfF g u k 0 := by
  rw [bfF, if_neg (by rw [h]; decide), if_pos h, if_neg (by omega)]
theorem bf_stop (h1 : (md u k).c ≠ 93) (h2 : (md u k).c ≠ 91) (h : hasB g (md u k).c = false) : bfF g u (k + 1) 0 = k := by
  rw [bfF, if_neg h1, if_neg h2, if_pos ⟨rfl, h⟩]
theorem bf_pass (h1 : (md u k).c ≠ 93) (h2 : (md u k).c ≠ 91) (h : c ≠ 0 ∨ hasB g (md u k).c = true) : bfF g u (k + 1) c = bfF g u k c := by
  rw [bfF, if_neg h1, if_neg h2, if_neg]
  rintro ⟨a, b⟩
  rcases h with h | h
  · exact h a
  · rw [h] at b; simp at b
theorem bh_out (h : u.length ≤ k) : bhd g u k c = -1 := by unfold bhd; rw [List.drop_of_length_le h]; rfl
theorem bh_cons (h : k < u.length) : bhd g u k c = bhF g (u[k] :: u.drop (k + 1)) k c := by unfold bhd; rw [List.drop_eq_getElem_cons h]
theorem bh_open (hk : k < u.length) (h : (md u k).c = 91) : bhd g u k c = bhd g u (k + 1) (c + 1) := by
  rw [md_get hk] at h
  rw [bh_cons hk, bhF, if_pos h]; rfl
theorem bh_end (hk : k < u.length) (h : (md u k).c = 93) : bhd g u k 0 = -1 := by
  rw [md_get hk] at h
  rw [bh_cons hk, bhF, if_neg (by rw [h]; decide), if_pos h, if_pos rfl]
theorem bh_close (hk : k < u.length) (h : (md u k).c = 93) (hc : c ≠ 0) : bhd g u k c = bhd g u (k + 1) (c - 1) := by
  rw [md_get hk] at h
  rw [bh_cons hk, bhF, if_neg (by rw [h]; decide), if_pos h, if_neg hc]; rfl
theorem bh_stop (hk : k < u.length) (h1 : (md u k).c ≠ 93) (h2 : (md u k).c ≠ 91) (h : hasB g (md u k).c = false) : bhd g u k 0 = k := by
  rw [md_get hk] at h h1 h2
  rw [bh_cons hk, bhF, if_neg h2, if_neg h1, if_pos ⟨rfl, h⟩]
theorem bh_pass (hk : k < u.length) (h1 : (md u k).c ≠ 93) (h2 : (md u k).c ≠ 91) (h : c ≠ 0 ∨ hasB g (md u k).c = true) : bhd g u k c = bhd g u (k + 1) c := by
  rw [md_get hk] at h h1 h2
  rw [bh_cons hk, bhF, if_neg h2, if_neg h1, if_neg]
  · rfl
  · rintro ⟨a, b⟩
    rcases h with h | h
    · exact h a
    · rw [h] at b; simp at b
end
/-- The brackets that are open in front of a place, the last one first. -/
def stk (u : List Md) : Nat → List Nat
  | 0 => []
  | k + 1 => if (md u k).c = 91 then k :: stk u k else if (md u k).c = 93 then (stk u k).tail else stk u k
section
variable {u : List Md} {k : Nat}
theorem stk_open (h : (md u k).c = 91) : stk u (k + 1) = k :: stk u k := by rw [stk, if_pos h]
theorem stk_close (h : (md u k).c = 93) : stk u (k + 1) = (stk u k).tail := by rw [stk, if_neg (by rw [h]; decide), if_pos h]
theorem stk_else (h1 : (md u k).c ≠ 93) (h2 : (md u k).c ≠ 91) : stk u (k + 1) = stk u k := by rw [stk, if_neg h2, if_neg h1]
theorem stk_lt (u : List Md) : ∀ k, ∀ j ∈ stk u k, j < k ∧ (md u j).c = 91
  | 0, j, h => by simp [stk] at h
  | k + 1, j, h => by
    by_cases h1 : (md u k).c = 91
    · rw [stk_open h1, List.mem_cons] at h
      rcases h with rfl | h
      · exact ⟨by omega, h1⟩
      · have := stk_lt u k j h; exact ⟨by omega, this.2⟩
    · by_cases h2 : (md u k).c = 93
      · rw [stk_close h2] at h
        have := stk_lt u k j (List.mem_of_mem_tail h); exact ⟨by omega, this.2⟩
      · rw [stk_else h2 h1] at h
        have := stk_lt u k j h; exact ⟨by omega, this.2⟩
theorem stk_pw (u : List Md) : ∀ k, (stk u k).Pairwise (fun a b => b < a)
  | 0 => by simp [stk]
  | k + 1 => by
    by_cases h1 : (md u k).c = 91
    · rw [stk_open h1, List.pairwise_cons]
      exact ⟨fun a ha => (stk_lt u k a ha).1, stk_pw u k⟩
    · by_cases h2 : (md u k).c = 93
      · rw [stk_close h2]; exact (stk_pw u k).tail
      · rw [stk_else h2 h1]; exact stk_pw u k
theorem stk_len {u : List Md} (hu : okB u u.length = true) : ∀ k, k ≤ u.length → ((stk u k).length : Int) = dep (u.take k)
  | 0, _ => by simp [stk, dep_nil]
  | k + 1, h => by
    have hk : k < u.length := h
    have ih := stk_len hu k (by omega)
    have hd := dep_snoc hk
    have h0 := okB_iff.1 hu k hk
    by_cases h1 : (md u k).c = 91
    · rw [stk_open h1]
      rw [md_get hk] at h1
      rw [hd]; unfold dlt; rw [if_pos h1]; simp; omega
    · by_cases h2 : (md u k).c = 93
      · rw [stk_close h2]
        rw [md_get hk] at h1 h2
        have : dlt u[k] = -1 := by unfold dlt; rw [if_neg h1, if_pos h2]
        rw [List.length_tail]; omega
      · rw [stk_else h2 h1]
        rw [md_get hk] at h1 h2
        have : dlt u[k] = 0 := by unfold dlt; rw [if_neg h1, if_neg h2]
        omega
theorem stk_top {u : List Md} (hu : okB u u.length = true) {k : Nat} (hk : k < u.length) (h : (md u k).c = 93) : ∃ j rest, stk u k = j :: rest ∧ stk u (k + 1) = rest ∧ j < k ∧ (md u j).c = 91 := by
  have h1 := stk_len hu k (by omega)
  have h2 := stk_len hu (k + 1) (by omega)
  have hd := dep_snoc hk
  have h0 := okB_iff.1 hu k hk
  rw [md_get hk] at h
  have : dlt u[k] = -1 := by unfold dlt; rw [if_neg (by rw [h]; decide), if_pos h]
  cases hs : stk u k with
  | nil => rw [hs] at h1; simp at h1; omega
  | cons j rest =>
    have := stk_lt u k j (by rw [hs]; simp)
    exact ⟨j, rest, rfl, by rw [stk_close (by rw [md_get hk]; exact h), hs]; rfl, this.1, this.2⟩
theorem stk_end {u : List Md} (hu : okB u u.length = true) (h0 : dep u = 0) : stk u u.length = [] := by
  have := stk_len hu u.length (by omega)
  rw [List.take_length, h0] at this
  exact List.length_eq_zero_iff.1 (by omega)
theorem gone {u : List Md} {p j : Nat} {rest : List Nat} (h : stk u p = j :: rest) (hp : (md u p).c = 93) : ∀ d, j ∉ stk u (p + 1 + d)
  | 0 => by
    have hpw := stk_pw u p
    rw [h, List.pairwise_cons] at hpw
    rw [Nat.add_zero, stk_close hp, h]
    intro hj
    have := hpw.1 j hj
    omega
  | d + 1 => by
    have ih := gone h hp d
    have hj := (stk_lt u p j (by rw [h]; simp)).1
    rw [← Nat.add_assoc]
    by_cases h1 : (md u (p + 1 + d)).c = 91
    · rw [stk_open h1, List.mem_cons]
      rintro (e | e)
      · omega
      · exact ih e
    · by_cases h2 : (md u (p + 1 + d)).c = 93
      · rw [stk_close h2]; exact fun e => ih (List.mem_of_mem_tail e)
      · rw [stk_else h2 h1]; exact ih
theorem mate_in {u : List Md} {j : Nat} (he : stk u u.length = []) : ∀ d k, k + d = u.length → j ∈ stk u k → ∃ p rest, k ≤ p ∧ p < u.length ∧ (md u p).c = 93 ∧ stk u p = j :: rest
  | 0, k, hk, hj => by
    rw [show k = u.length by omega, he] at hj; simp at hj
  | d + 1, k, hk, hj => by
    by_cases h : j ∈ stk u (k + 1)
    · obtain ⟨p, rest, h1, h2⟩ := mate_in he d (k + 1) (by omega) h
      exact ⟨p, rest, by omega, h2⟩
    · by_cases h1 : (md u k).c = 91
      · rw [stk_open h1] at h; simp [hj] at h
      · by_cases h2 : (md u k).c = 93
        · rw [stk_close h2] at h
          cases hs : stk u k with
          | nil => rw [hs] at hj; simp at hj
          | cons a rest =>
            rw [hs] at h hj
            simp only [List.tail_cons] at h
            rw [List.mem_cons] at hj
            rcases hj with rfl | hj
            · exact ⟨k, rest, Nat.le_refl _, by omega, h2, hs⟩
            · exact absurd hj h
        · rw [stk_else h2 h1] at h; exact absurd hj h
theorem open_mate {u : List Md} (hu : okB u u.length = true) (h0 : dep u = 0) {j : Nat} (hj : j < u.length) (h : (md u j).c = 91) : ∃ p rest, j < p ∧ p < u.length ∧ (md u p).c = 93 ∧ stk u p = j :: rest := by
  obtain ⟨p, rest, h1, h2⟩ := mate_in (j := j) (stk_end hu h0) (u.length - (j + 1)) (j + 1) (by omega) (by rw [stk_open h]; simp)
  exact ⟨p, rest, by omega, h2⟩
end
/-- For each bracket, up to a place, the one that belongs to it. -/
def othL (u : List Md) : Nat → List Int
  | 0 => List.replicate u.length 0
  | k + 1 => if (md u k).c = 93 then ((othL u k).set k (((stk u k).headD 0 : Nat) : Int)).set ((stk u k).headD 0) (k : Int) else othL u k
theorem othL_length (u : List Md) : ∀ k, (othL u k).length = u.length
  | 0 => by simp [othL]
  | k + 1 => by
    rw [othL]; split
    · rw [List.length_set, List.length_set]; exact othL_length u k
    · exact othL_length u k
theorem othL_else {u : List Md} {k : Nat} (h : (md u k).c ≠ 93) : othL u (k + 1) = othL u k := by rw [othL, if_neg h]
theorem othL_close {u : List Md} {k j : Nat} {rest : List Nat} (h : (md u k).c = 93) (hs : stk u k = j :: rest) : othL u (k + 1) = ((othL u k).set k (j : Int)).set j (k : Int) := by
  rw [othL, if_pos h, hs]; rfl
theorem getD_set {l : List Int} {i j : Nat} {x : Int} (hi : i < l.length) : (l.set i x).getD j 0 = if i = j then x else l.getD j 0 := by
  simp only [List.getD_eq_getElem?_getD, List.getElem?_set]
  split
  · rename_i h; subst h; simp [hi]
  · rfl
theorem oth_ok {u : List Md} (hu : okB u u.length = true) : ∀ k, k ≤ u.length → ∀ p, p < k → (md u p).c = 93 → ∃ j rest, stk u p = j :: rest ∧ (othL u k).getD p 0 = (j : Int) ∧ (othL u k).getD j 0 = (p : Int)
  | 0, _, p, hp, _ => by omega
  | k + 1, hk, p, hp, hc => by
    by_cases h2 : (md u k).c = 93
    · obtain ⟨j, rest, hs, hs', hjk, hjo⟩ := stk_top hu (show k < u.length by omega) h2
      rw [othL_close h2 hs]
      have l1 : k < (othL u k).length := by rw [othL_length]; omega
      have l2 : j < ((othL u k).set k (j : Int)).length := by rw [List.length_set, othL_length]; omega
      rcases Nat.lt_or_eq_of_le (Nat.le_of_lt_succ hp) with h | h
      · obtain ⟨j', rest', g1, g2, g3⟩ := oth_ok hu k (by omega) p h hc
        have gj := stk_lt u p j' (by rw [g1]; simp)
        have hne : j ≠ j' := by
          intro e
          subst e
          have := gone g1 hc (k - (p + 1))
          rw [show p + 1 + (k - (p + 1)) = k by omega, hs] at this
          simp at this
        have hpj : j ≠ p := by intro e; subst e; rw [hc] at hjo; simp at hjo
        refine ⟨j', rest', g1, ?_, ?_⟩
        · rw [getD_set l2, if_neg hpj, getD_set l1, if_neg (by omega)]; exact g2
        · rw [getD_set l2, if_neg hne, getD_set l1, if_neg (by omega)]; exact g3
      · subst h
        refine ⟨j, rest, hs, ?_, ?_⟩
        · rw [getD_set l2, if_neg (by omega), getD_set l1, if_pos rfl]
        · rw [getD_set l2, if_pos rfl]
    · rw [othL_else h2]
      rcases Nat.lt_or_eq_of_le (Nat.le_of_lt_succ hp) with h | h
      · exact oth_ok hu k (by omega) p h hc
      · subst h; exact absurd hc h2
/-- To the left, over a branch. -/
theorem bf_stk {g : Bs} {u : List Md} : ∀ (k c : Nat) (s : Nat), (stk u k)[c]? = some s → bfF g u k ((c : Int) + 1) = bfF g u s 0
  | 0, c, s, h => by simp [stk] at h
  | k + 1, c, s, h => by
    by_cases h1 : (md u k).c = 91
    · rw [stk_open h1] at h
      rw [bf_open h1 (by omega)]
      cases c with
      | zero => simp at h; subst h; simp
      | succ c =>
        rw [List.getElem?_cons_succ] at h
        have := bf_stk (g := g) k c s h
        rw [← this]; congr 1; omega
    · by_cases h2 : (md u k).c = 93
      · rw [stk_close h2] at h
        rw [bf_close h2]
        have := bf_stk (g := g) k (c + 1) s (by rw [← h, List.getElem?_tail])
        rw [← this]; congr 1
      · rw [stk_else h2 h1] at h
        rw [bf_pass h2 h1 (.inl (by omega))]
        exact bf_stk k c s h
/-- To the right, over a branch. -/
theorem bh_stk {g : Bs} {u : List Md} {p j : Nat} {rest : List Nat} (hpu : p < u.length) (hp : (md u p).c = 93) (hs : stk u p = j :: rest) :
    ∀ d k, k + d = p → j < k → ∃ a : List Nat, stk u k = a ++ j :: rest ∧ bhd g u k ((a.length : Int) + 1) = bhd g u (p + 1) 0
  | 0, k, hk, hj => by
    obtain rfl : k = p := by omega
    refine ⟨[], hs, ?_⟩
    rw [bh_close hpu hp (by simp)]; rfl
  | d + 1, k, hk, hj => by
    obtain ⟨a, h1, h2⟩ := bh_stk (g := g) hpu hp hs d (k + 1) (by omega) (by omega)
    have hku : k < u.length := by omega
    by_cases c1 : (md u k).c = 91
    · rw [stk_open c1] at h1
      cases a with
      | nil => simp at h1; omega
      | cons x a =>
        rw [List.cons_append, List.cons.injEq] at h1
        refine ⟨a, h1.2, ?_⟩
        rw [bh_open hku c1, ← h2]
        congr 1 <;> simp
    · by_cases c2 : (md u k).c = 93
      · rw [stk_close c2] at h1
        cases hx : stk u k with
        | nil => rw [hx] at h1; simp at h1
        | cons x t =>
          rw [hx, List.tail_cons] at h1
          refine ⟨x :: a, by rw [h1]; rfl, ?_⟩
          rw [bh_close hku c2 (by simp; omega), ← h2]
          congr 1; simp
      · rw [stk_else c2 c1] at h1
        refine ⟨a, h1, ?_⟩
        rw [bh_pass hku c2 c1 (.inl (by omega))]; exact h2
theorem bh_mate {g : Bs} {u : List Md} {p j : Nat} {rest : List Nat} (hpu : p < u.length) (hp : (md u p).c = 93) (hs : stk u p = j :: rest) : bhd g u (j + 1) 1 = bhd g u (p + 1) 0 := by
  have hj := stk_lt u p j (by rw [hs]; simp)
  obtain ⟨a, h1, h2⟩ := bh_stk (g := g) hpu hp hs (p - (j + 1)) (j + 1) (by omega) (by omega)
  rw [stk_open hj.2] at h1
  cases a with
  | nil => simpa using h2
  | cons x a =>
    rw [List.cons_append, List.cons.injEq] at h1
    have := stk_lt u j j (by rw [h1.2]; simp)
    omega
/-- The neighbour at the left of a module behind a closed branch. -/
theorem bef_close {g : Bs} {u : List Md} (hu : okB u u.length = true) {k : Nat} (hk : k < u.length) (h : (md u k).c = 93) : ∃ j : Nat, j < k ∧ (othL u u.length).getD k 0 = (j : Int) ∧ bef g u (k + 1) = bef g u j := by
  obtain ⟨j, rest, h1, h2, h3⟩ := oth_ok hu u.length (Nat.le_refl _) k hk h
  refine ⟨j, (stk_lt u k j (by rw [h1]; simp)).1, h2, ?_⟩
  unfold bef
  rw [bf_close h]
  have := bf_stk (g := g) (u := u) k 0 j (by rw [h1]; rfl)
  simpa using this
theorem beh_open {g : Bs} {u : List Md} (hu : okB u u.length = true) (h0 : dep u = 0) {k : Nat} (hk : k < u.length) (h : (md u k).c = 91) : ∃ p : Nat, k < p ∧ p < u.length ∧ (othL u u.length).getD k 0 = (p : Int) ∧ bhd g u k 0 = beh g u p := by
  obtain ⟨p, rest, h1, h2, h3, h4⟩ := open_mate hu h0 hk h
  obtain ⟨j, rest', g1, g2, g3⟩ := oth_ok hu u.length (Nat.le_refl _) p h2 h3
  rw [h4, List.cons.injEq] at g1
  refine ⟨p, h1, h2, by rw [g1.1]; exact g3, ?_⟩
  rw [bh_open hk h, Int.zero_add]
  exact bh_mate h2 h3 h4
/-! The theorem of neighbours. -/
theorem bf_rng {g : Bs} {u : List Md} : ∀ (k : Nat) (c : Int), bfF g u k c = -1 ∨ ∃ a : Nat, bfF g u k c = (a : Int) ∧ a < k ∧ (md u a).c ≠ 91 ∧ (md u a).c ≠ 93 ∧ hasB g (md u a).c = false
  | 0, c => .inl rfl
  | k + 1, c => by
    have lift : ∀ c', (bfF g u k c' = -1 ∨ ∃ a : Nat, bfF g u k c' = (a : Int) ∧ a < k ∧ (md u a).c ≠ 91 ∧ (md u a).c ≠ 93 ∧ hasB g (md u a).c = false) → (bfF g u k c' = -1 ∨ ∃ a : Nat, bfF g u k c' = (a : Int) ∧ a < k + 1 ∧ (md u a).c ≠ 91 ∧ (md u a).c ≠ 93 ∧ hasB g (md u a).c = false) := by
      rintro c' (h | ⟨a, h1, h2, h3⟩)
      · exact .inl h
      · exact .inr ⟨a, h1, by omega, h3⟩
    rw [bfF]
    split
    · exact lift _ (bf_rng k _)
    · split
      · exact lift _ (bf_rng k _)
      · split
        · rename_i h1 h2 h3
          exact .inr ⟨k, rfl, by omega, h2, h1, h3.2⟩
        · exact lift _ (bf_rng k _)
theorem bh_rng {g : Bs} {u : List Md} : ∀ (d k : Nat) (c : Int), k + d = u.length → bhd g u k c = -1 ∨ ∃ a : Nat, bhd g u k c = (a : Int) ∧ k ≤ a ∧ a < u.length ∧ (md u a).c ≠ 91 ∧ (md u a).c ≠ 93 ∧ hasB g (md u a).c = false
  | 0, k, c, h => .inl (bh_out (by omega))
  | d + 1, k, c, h => by
    have hk : k < u.length := by omega
    have lift : ∀ c', (bhd g u (k + 1) c' = -1 ∨ ∃ a : Nat, bhd g u (k + 1) c' = (a : Int) ∧ k ≤ a ∧ a < u.length ∧ (md u a).c ≠ 91 ∧ (md u a).c ≠ 93 ∧ hasB g (md u a).c = false) := by
      intro c'
      rcases bh_rng (g := g) (u := u) d (k + 1) c' (by omega) with h | ⟨a, h1, h2, h3⟩
      · exact .inl h
      · exact .inr ⟨a, h1, by omega, h3⟩
    by_cases c1 : (md u k).c = 91
    · rw [bh_open hk c1]; exact lift _
    · by_cases c2 : (md u k).c = 93
      · by_cases c0 : c = 0
        · subst c0; rw [bh_end hk c2]; exact .inl rfl
        · rw [bh_close hk c2 c0]; exact lift _
      · by_cases c3 : c = 0 ∧ hasB g (md u k).c = false
        · obtain ⟨rfl, c3⟩ := c3
          rw [bh_stop hk c2 c1 c3]; exact .inr ⟨k, rfl, by omega, hk, c1, c2, c3⟩
        · rw [bh_pass hk c2 c1]
          · exact lift _
          · by_cases c4 : c = 0
            · right
              cases hh : hasB g (md u k).c
              · exact absurd ⟨c4, hh⟩ c3
              · rfl
            · exact .inl c4
/-- What stands to the right has this place at its left. -/
theorem bh_back {g : Bs} {u : List Md} {b : Nat} : ∀ (d k : Nat) (o : Int), k + d = u.length → 0 ≤ o → bhd g u k o = (b : Int) → bfF g u b 0 = bfF g u k o
  | 0, k, o, h, ho, hb => by rw [bh_out (by omega)] at hb; omega
  | d + 1, k, o, h, ho, hb => by
    have hk : k < u.length := by omega
    by_cases c1 : (md u k).c = 91
    · rw [bh_open hk c1] at hb
      rw [bh_back d (k + 1) (o + 1) (by omega) (by omega) hb, bf_open c1 (by omega)]
      congr 1; omega
    · by_cases c2 : (md u k).c = 93
      · by_cases c0 : o = 0
        · subst c0; rw [bh_end hk c2] at hb; omega
        · rw [bh_close hk c2 c0] at hb
          rw [bh_back d (k + 1) (o - 1) (by omega) (by omega) hb, bf_close c2]
          congr 1; omega
      · by_cases c3 : o = 0 ∧ hasB g (md u k).c = false
        · obtain ⟨rfl, c3⟩ := c3
          rw [bh_stop hk c2 c1 c3] at hb
          have : k = b := by omega
          rw [this]
        · have c4 : o ≠ 0 ∨ hasB g (md u k).c = true := by
            by_cases c4 : o = 0
            · right
              cases hh : hasB g (md u k).c
              · exact absurd ⟨c4, hh⟩ c3
              · rfl
            · exact .inl c4
          rw [bh_pass hk c2 c1 c4] at hb
          rw [bh_back d (k + 1) o (by omega) ho hb, bf_pass c2 c1 c4]
theorem beh_bef {g : Bs} {u : List Md} {i b : Nat} (hi : i < u.length) (h1 : (md u i).c ≠ 93) (h2 : (md u i).c ≠ 91) (h3 : hasB g (md u i).c = false) (hb : beh g u i = (b : Int)) : bef g u b = i := by
  unfold bef
  rw [bh_back (u.length - (i + 1)) (i + 1) 0 (by omega) (Int.le_refl _) hb]
  exact bf_stop h1 h2 h3
end CM
end Go.Proofs.Ytcoljbcjnggagaa
