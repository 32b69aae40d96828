/-
  Texts of the proof, merged: DWordMath, DWordRead, DRewMath, DChMath, DRatKept, DWordInts, DWordMem.
-/
import Derived.Lib.ItoaNum
import Derived.WalkKit
import Derived.OneCell
import Derived.WalkSmall
import Derived.Test.YtepoaobjcpgilaaDoorChecked
import Derived.Lib.Hide
import Derived.Laws.MakeOwn
import Derived.Laws.AppendOwn
import Derived.OwnWalk
import Derived.Maps.AppendAt
import Derived.BigQuiet
import Derived.BigRegion
import Derived.Deep.QuietTactic
namespace Go.Proofs.YtepoaobjcpgilaaDoor
namespace WM
set_option linter.unusedVariables false
set_option linter.unusedSimpArgs false

abbrev Bs := List UInt8
/-- A module: its name and its args. -/
structure Md where
  c : UInt8
  a : List Int
deriving DecidableEq

/-- The bytes that are names. -/
def letB (c : UInt8) : Bool :=
  (c == 43 || c == 45 || c == 38 || c == 94 || c == 124 || c == 33 || c == 91 || c == 93) || (decide (65 ≤ c.toNat) && decide (c.toNat ≤ 90)) || (decide (97 ≤ c.toNat) && decide (c.toNat ≤ 122))
def braB (c : UInt8) : Bool := c == 91 || c == 93
def rngB (l : List Int) : Bool := l.all fun x => decide (-1000000000 ≤ x) && decide (x ≤ 1000000000)
/-- A valid module. -/
def fineB (m : Md) : Bool := letB m.c && decide (m.a.length ≤ 4) && !(braB m.c && decide (0 < m.a.length)) && rngB m.a
theorem rngB_iff {l : List Int} : rngB l = true ↔ ∀ x ∈ l, -1000000000 ≤ x ∧ x ≤ 1000000000 := by simp [rngB]
/-- What a module adds to the open brackets. -/
def dlt (m : Md) : Int := if m.c = 91 then 1 else if m.c = 93 then -1 else 0
def dep (l : List Md) : Int := (l.map dlt).foldr (· + ·) 0
theorem dep_nil : dep [] = 0 := rfl
theorem dep_cons (m : Md) (l : List Md) : dep (m :: l) = dlt m + dep l := rfl
theorem dep_app (a b : List Md) : dep (a ++ b) = dep a + dep b := by
  induction a with
  | nil => rw [dep_nil]; simp
  | cons m a ih => rw [List.cons_append, dep_cons, dep_cons, ih]; omega
theorem dep_snoc {l : List Md} {k : Nat} (h : k < l.length) : dep (l.take (k + 1)) = dep (l.take k) + dlt l[k] := by
  rw [List.take_add_one, List.getElem?_eq_getElem h, dep_app]
  show dep (l.take k) + dep [l[k]] = _
  rw [dep_cons, dep_nil]; omega
theorem dlt_cases (m : Md) : dlt m = 1 ∨ dlt m = -1 ∨ dlt m = 0 := by
  unfold dlt; split
  · simp
  · split <;> simp
/-- The brackets that are open behind each module. -/
def opnL (l : List Md) (k : Nat) : List Int := (List.range k).map fun i => dep (l.take (i + 1))
theorem opnL_length (l : List Md) (k : Nat) : (opnL l k).length = k := by simp [opnL]
theorem opnL_get {l : List Md} {k i : Nat} (h : i < k) : (opnL l k)[i]'(by rw [opnL_length]; exact h) = dep (l.take (i + 1)) := by simp [opnL]
theorem opnL_succ (l : List Md) (k : Nat) : opnL l (k + 1) = opnL l k ++ [dep (l.take (k + 1))] := by simp [opnL, List.range_succ]
/-- No ] comes without a [ that is open, up to a place. -/
def okB (l : List Md) (k : Nat) : Bool := (opnL l k).all fun x => decide (0 ≤ x)
theorem okB_zero (l : List Md) : okB l 0 = true := rfl
theorem okB_succ (l : List Md) (k : Nat) : okB l (k + 1) = (okB l k && decide (0 ≤ dep (l.take (k + 1)))) := by simp [okB, opnL_succ]
theorem okB_iff {l : List Md} {k : Nat} : okB l k = true ↔ ∀ i, i < k → 0 ≤ dep (l.take (i + 1)) := by
  unfold okB opnL; rw [List.all_map, List.all_eq_true]
  simp
theorem okB_mono {l : List Md} {j k : Nat} (h : j ≤ k) (hk : okB l k = true) : okB l j = true := okB_iff.2 fun i hi => okB_iff.1 hk i (by omega)
/-- Check's answer. -/
def chk (l : List Md) : Int := if 2000 < l.length then 4 else if l.all fineB = false then 8 else if (okB l l.length && decide (dep l = 0)) = true then 0 else 28
theorem chk_zero {l : List Md} : chk l = 0 ↔ l.length ≤ 2000 ∧ l.all fineB = true ∧ okB l l.length = true ∧ dep l = 0 := by
  unfold chk
  split
  · simp; omega
  · split
    · rename_i h; simp [h]
    · split
      · rename_i h1 h2 h3
        simp at h3
        simp at h2
        simp [h3]
        exact ⟨by omega, h2⟩
      · rename_i h1 h2 h3
        simp at h3
        simp
        intro _ _ h4; exact h3 h4
theorem chk_many {l : List Md} (h : 2000 < l.length) : chk l = 4 := by unfold chk; rw [if_pos h]
theorem chk_bad {l : List Md} (h : ¬ 2000 < l.length) (h2 : l.all fineB = false) : chk l = 8 := by unfold chk; rw [if_neg h, if_pos h2]
theorem chk_open {l : List Md} (h : ¬ 2000 < l.length) (h2 : l.all fineB = true) (h3 : (okB l l.length && decide (dep l = 0)) = false) : chk l = 28 := by
  unfold chk; rw [if_neg h, if_neg (by rw [h2]; simp), if_neg (by rw [h3]; simp)]
theorem chk_vals (l : List Md) : chk l = 0 ∨ chk l = 4 ∨ chk l = 8 ∨ chk l = 28 := by
  unfold chk; split
  · simp
  · split
    · simp
    · split <;> simp
/-- The greatest number of open brackets. -/
def dmax (l : List Md) (k : Nat) : Int := (opnL l k).foldl max 0
theorem dmax_zero (l : List Md) : dmax l 0 = 0 := rfl
theorem dmax_succ (l : List Md) (k : Nat) : dmax l (k + 1) = max (dmax l k) (dep (l.take (k + 1))) := by simp [dmax, opnL_succ]
theorem dmax_nonneg (l : List Md) (k : Nat) : 0 ≤ dmax l k := by
  induction k with
  | zero => exact Int.le_refl _
  | succ k ih => rw [dmax_succ]; omega
/-- The trunk, up to a place. -/
def trunk (l : List Md) (k : Nat) : List Md := ((List.range k).filter fun i => decide (dep (l.take (i + 1)) = 0) && !((l.getD i ⟨0, []⟩).c == 93)).map fun i => l.getD i ⟨0, []⟩
theorem trunk_zero (l : List Md) : trunk l 0 = [] := rfl
theorem trunk_succ {l : List Md} {k : Nat} (h : k < l.length) : trunk l (k + 1) = if (decide (dep (l.take (k + 1)) = 0) && !(l[k].c == 93)) = true then trunk l k ++ [l[k]] else trunk l k := by
  have e : l.getD k ⟨0, []⟩ = l[k] := by simp [List.getD, h]
  unfold trunk
  rw [List.range_succ, List.filter_append, List.map_append]
  by_cases hc : (decide (dep (l.take (k + 1)) = 0) && !(l[k].c == 93)) = true
  · rw [if_pos hc]
    congr 1
    simp only [List.filter_cons, List.filter_nil, e, hc, if_true, List.map_cons, List.map_nil]
  · rw [if_neg hc]
    simp only [List.filter_cons, List.filter_nil, e, hc, if_false, List.map_nil, List.append_nil]
    simp
theorem trunk_length (l : List Md) (k : Nat) : (trunk l k).length ≤ k := by
  unfold trunk; rw [List.length_map]
  have := List.length_filter_le (fun i => decide (dep (l.take (i + 1)) = 0) && !((l.getD i ⟨0, []⟩).c == 93)) (List.range k)
  rwa [List.length_range] at this
/-- How many modules have a name. -/
def cntB (l : List Md) (c : UInt8) : Nat := l.countP fun m => m.c == c
theorem cntB_app (a b : List Md) (c : UInt8) : cntB (a ++ b) c = cntB a c + cntB b c := List.countP_append
theorem cntB_succ {l : List Md} {k : Nat} (h : k < l.length) (c : UInt8) : cntB (l.take (k + 1)) c = cntB (l.take k) c + (if (l[k].c == c) = true then 1 else 0) := by
  rw [List.take_add_one, List.getElem?_eq_getElem h, cntB_app]
  congr 1
  simp [cntB, List.countP_cons]
/-- A module's text. -/
def argsT : List Int → Bs
  | [] => []
  | x :: l => 44 :: (Lib.itoa x ++ argsT l)
def modT (m : Md) : Bs := match m.a with
  | [] => [m.c]
  | x :: l => m.c :: 40 :: (Lib.itoa x ++ argsT l ++ [41])
def txt (l : List Md) : Bs := l.flatMap modT
theorem txt_app (a b : List Md) : txt (a ++ b) = txt a ++ txt b := by simp [txt]
theorem txt_snoc {l : List Md} {k : Nat} (h : k < l.length) : txt (l.take (k + 1)) = txt (l.take k) ++ modT l[k] := by
  rw [List.take_add_one, List.getElem?_eq_getElem h, txt_app]
  simp [txt]
end WM
end Go.Proofs.YtepoaobjcpgilaaDoor
namespace Go.Proofs.YtepoaobjcpgilaaDoor
namespace WM
set_option linter.unusedVariables false
set_option linter.unusedSimpArgs false

def digP (c : UInt8) : Bool := decide (48 ≤ c.toNat) && decide (c.toNat ≤ 57)
theorem digP_iff {c : UInt8} : digP c = true ↔ 48 ≤ c.toNat ∧ c.toNat ≤ 57 := by simp [digP]
theorem ofNat_dig {k : Nat} (h : k < 10) : (UInt8.ofNat (48 + k)).toNat = 48 + k := by
  rw [UInt8.toNat_ofNat']; omega
theorem dec_digits : ∀ u, ∀ c ∈ Lib.decDigits u, digP c = true := by
  intro u
  induction u using Nat.strongRecOn with
  | _ u ih =>
    intro c hc
    unfold Lib.decDigits at hc
    split at hc
    · rw [List.mem_singleton] at hc; subst hc; rw [digP_iff, ofNat_dig (by omega)]; omega
    · rw [List.mem_append, List.mem_singleton] at hc
      rcases hc with hc | hc
      · exact ih (u / 10) (by omega) c hc
      · subst hc; rw [digP_iff, ofNat_dig (by omega)]; omega
theorem dec_ne (u : Nat) : Lib.decDigits u ≠ [] := by
  unfold Lib.decDigits; split <;> simp
def valF (acc : Nat) (l : Bs) : Nat := l.foldl (fun a c => a * 10 + (c.toNat - 48)) acc
theorem valF_snoc (acc : Nat) (l : Bs) (c : UInt8) : valF acc (l ++ [c]) = valF acc l * 10 + (c.toNat - 48) := by simp [valF, List.foldl_append]
theorem valF_dec : ∀ u, valF 0 (Lib.decDigits u) = u := by
  intro u
  induction u using Nat.strongRecOn with
  | _ u ih =>
    unfold Lib.decDigits
    split
    · simp only [valF, List.foldl_cons, List.foldl_nil]; rw [ofNat_dig (by omega)]; omega
    · rw [valF_snoc, ih (u / 10) (by omega), ofNat_dig (by omega)]; omega
/-- No numeral of more than one digit begins with 0. -/
theorem dec_head : ∀ u, (Lib.decDigits u).head? ≠ some 48 ∨ Lib.decDigits u = [48] := by
  intro u
  induction u using Nat.strongRecOn with
  | _ u ih =>
    unfold Lib.decDigits
    split
    · rename_i h
      by_cases h0 : u = 0
      · subst h0; right; rfl
      · left
        intro e
        have := congrArg (fun o : Option UInt8 => o.map UInt8.toNat) e
        simp only [List.head?_cons, Option.map_some] at this
        rw [ofNat_dig (by omega)] at this
        have h9 : (48 : UInt8).toNat = 48 := rfl
        rw [h9] at this
        have := Option.some.inj this; omega
    · rename_i h
      have hn := dec_ne (u / 10)
      left
      rcases ih (u / 10) (by omega) with h1 | h1
      · intro e; apply h1
        cases hd : Lib.decDigits (u / 10) with
        | nil => exact absurd hd hn
        | cons a l => rw [hd] at e; simpa using e
      · exfalso
        have := valF_dec (u / 10)
        rw [h1] at this
        have h9 : valF 0 [48] = 0 := rfl
        omega
theorem valF_pos {l : Bs} (hd : ∀ c ∈ l, digP c = true) (h : l.head? ≠ some 48) (hn : l ≠ []) : 1 ≤ valF 0 l := by
  cases l with
  | nil => exact absurd rfl hn
  | cons c l =>
    have h1 := digP_iff.1 (hd c (by simp))
    have h2 : c.toNat ≠ 48 := fun e => h (by rw [List.head?_cons]; congr 1; exact UInt8.toNat_inj.1 e)
    have ge : ∀ (l : Bs) (acc : Nat), acc ≤ valF acc l := by
      intro l
      induction l with
      | nil => intro acc; exact Nat.le_refl _
      | cons c l ih => intro acc; exact Nat.le_trans (by omega) (ih (acc * 10 + (c.toNat - 48)))
    have := ge l (0 * 10 + (c.toNat - 48))
    show 1 ≤ valF (0 * 10 + (c.toNat - 48)) l
    omega
/-- Digits without a zero in front are the numeral of their value. -/
theorem dec_valF : ∀ n (l : Bs), l.length = n → (∀ c ∈ l, digP c = true) → l ≠ [] → (l.head? ≠ some 48 ∨ l = [48]) → Lib.decDigits (valF 0 l) = l := by
  intro n
  induction n with
  | zero => intro l hl _ hn; exact absurd (List.length_eq_zero_iff.1 hl) hn
  | succ n ih =>
    intro l hl hd hn hh
    obtain ⟨m, c, rfl⟩ : ∃ m c, l = m ++ [c] := ⟨l.dropLast, l.getLast hn, (List.dropLast_concat_getLast hn).symm⟩
    have hc := digP_iff.1 (hd c (by simp))
    have e48 : UInt8.ofNat (48 + (c.toNat - 48)) = c := UInt8.toNat_inj.1 (by rw [ofNat_dig (by omega)]; omega)
    by_cases hm : m = []
    · subst hm
      show Lib.decDigits (0 * 10 + (c.toNat - 48)) = [c]
      rw [Nat.zero_mul, Nat.zero_add, Lib.decDigits, dif_pos (by omega), e48]
    · have hh2 : m.head? ≠ some 48 := by
        rcases hh with h | h
        · intro e; apply h
          cases m with
          | nil => exact absurd rfl hm
          | cons a m => simpa using e
        · exfalso
          have := congrArg List.length h
          rw [List.length_append] at this
          have h7 : m.length ≠ 0 := fun e => hm (List.length_eq_zero_iff.1 e)
          rw [List.length_singleton, List.length_singleton] at this
          omega
      have hdm : ∀ c ∈ m, digP c = true := fun x hx => hd x (by simp [hx])
      have hp := valF_pos hdm hh2 hm
      rw [valF_snoc, Lib.decDigits, dif_neg (by omega)]
      have e1 : (valF 0 m * 10 + (c.toNat - 48)) / 10 = valF 0 m := by omega
      have e2 : (valF 0 m * 10 + (c.toNat - 48)) % 10 = c.toNat - 48 := by omega
      rw [e1, e2, e48, ih m (by rw [List.length_append] at hl; simpa using hl) hdm hm (.inl hh2)]

/-- Up to n digits in front. -/
def takeD : Nat → Bs → Bs
  | 0, _ => []
  | _ + 1, [] => []
  | n + 1, c :: l => if digP c = true then c :: takeD n l else []
theorem takeD_digits : ∀ n l, ∀ c ∈ takeD n l, digP c = true
  | 0, _, c, h => by simp [takeD] at h
  | n + 1, [], c, h => by simp [takeD] at h
  | n + 1, a :: l, c, h => by
    unfold takeD at h
    split at h
    · rename_i ha
      rw [List.mem_cons] at h
      rcases h with h | h
      · subst h; exact ha
      · exact takeD_digits n l c h
    · simp at h
theorem takeD_app : ∀ n l, takeD n l ++ l.drop (takeD n l).length = l
  | 0, _ => by simp [takeD]
  | n + 1, [] => by simp [takeD]
  | n + 1, a :: l => by
    unfold takeD
    split
    · simp [takeD_app n l]
    · simp
theorem takeD_all : ∀ n (d r : Bs), (∀ c ∈ d, digP c = true) → d.length ≤ n → (∀ c t, r = c :: t → digP c = false) → takeD n (d ++ r) = d
  | 0, d, r, _, hl, _ => by
    have : d = [] := List.length_eq_zero_iff.1 (by omega)
    subst this; rfl
  | n + 1, [], [], _, _, _ => rfl
  | n + 1, [], c :: t, _, _, hr => by
    have := hr c t rfl
    simp [takeD, this]
  | n + 1, a :: d, r, hd, hl, hr => by
    have h1 := hd a (by simp)
    simp only [List.cons_append, takeD, h1, if_true]
    rw [takeD_all n d r (fun c hc => hd c (by simp [hc])) (by simpa using hl) hr]
/-- A number in front: its value and what is left. -/
def signR : Bs → Bool × Bs
  | [] => (false, [])
  | c :: t => if c = 45 then (true, t) else (false, c :: t)
def numB (g : Bool) (d : Bs) : Bool := !d.isEmpty && !(d.head? == some 48 && decide (1 < d.length)) && !(g && decide (valF 0 d = 0))
def numI (g : Bool) (d : Bs) : Int := if g = true then -(valF 0 d : Int) else valF 0 d
def numR (s : Bs) : Option (Int × Bs) :=
  if numB (signR s).1 (takeD 10 (signR s).2) = true then some (numI (signR s).1 (takeD 10 (signR s).2), (signR s).2.drop (takeD 10 (signR s).2).length) else none
theorem signR_app (s : Bs) : (if (signR s).1 = true then [45] else []) ++ (signR s).2 = s := by
  cases s with
  | nil => rfl
  | cons c t =>
    by_cases h : c = 45
    · subst h; rfl
    · have e : signR (c :: t) = (false, c :: t) := by simp [signR, h]
      rw [e]; rfl
theorem num_itoa {g : Bool} {d : Bs} (hd : ∀ c ∈ d, digP c = true) (h : numB g d = true) : Lib.itoa (numI g d) = (if g = true then [45] else []) ++ d := by
  unfold numB at h
  simp only [Bool.and_eq_true, Bool.not_eq_true', List.isEmpty_eq_false_iff] at h
  obtain ⟨⟨h1, h2⟩, h3⟩ := h
  have hh : d.head? ≠ some 48 ∨ d = [48] := by
    by_cases e : d.head? = some 48
    · right
      rw [e] at h2
      simp at h2
      cases d with
      | nil => exact absurd rfl h1
      | cons a l =>
        simp at e; subst e
        simp at h2; simp [h2]
    · exact .inl e
  have hv := dec_valF _ d rfl hd h1 hh
  cases g with
  | false =>
    show Lib.itoa (valF 0 d : Int) = [] ++ d
    unfold Lib.itoa
    rw [if_neg (by omega), Int.toNat_natCast, hv]; rfl
  | true =>
    have hp : valF 0 d ≠ 0 := by simpa using h3
    show Lib.itoa (-(valF 0 d : Int)) = [45] ++ d
    unfold Lib.itoa
    rw [if_pos (by omega), show (-(valF 0 d : Int)).natAbs = valF 0 d by omega, hv]; rfl
theorem numR_back {s r : Bs} {n : Int} (h : numR s = some (n, r)) : s = Lib.itoa n ++ r := by
  unfold numR at h
  split at h
  · rename_i hb
    simp only [Option.some.injEq, Prod.mk.injEq] at h
    obtain ⟨rfl, rfl⟩ := h
    rw [num_itoa (takeD_digits _ _) hb, List.append_assoc, takeD_app, signR_app]
  · exact absurd h (by simp)
theorem dec_length {u : Nat} (h : u ≤ 9999999999) : (Lib.decDigits u).length ≤ 10 := by
  rw [Lib.decDigits_length]
  have h1 := Lib.lt_pow_nDigits u
  rcases Nat.lt_or_ge 10 (Lib.nDigits u) with h2 | h2
  · exfalso
    have hpow : ∀ k u, k < Lib.nDigits u → 10 ^ k ≤ u ∨ k = 0 := by
      intro k
      induction k with
      | zero => intro u _; right; rfl
      | succ k ih =>
        intro u hu
        left
        by_cases hs : u < 10
        · rw [Lib.nDigits_small hs] at hu; omega
        · rw [Lib.nDigits_big hs] at hu
          rcases ih (u / 10) (by omega) with h | h
          · rw [Nat.pow_succ]; omega
          · subst h; simp; omega
    rcases hpow 10 u h2 with h3 | h3
    · have : (10 : Nat) ^ 10 = 10000000000 := by decide
      omega
    · omega
  · exact h2
theorem numR_itoa {n : Int} (hn : -1000000000 ≤ n ∧ n ≤ 1000000000) {r : Bs} (hr : ∀ c t, r = c :: t → digP c = false) : numR (Lib.itoa n ++ r) = some (n, r) := by
  have hdd := dec_digits n.natAbs
  have hl := dec_length (u := n.natAbs) (by omega)
  have ht := takeD_all 10 (Lib.decDigits n.natAbs) r hdd hl hr
  have key : ∀ g : Bool, (g = true → n < 0) → (g = false → 0 ≤ n) → signR (Lib.itoa n ++ r) = (g, Lib.decDigits n.natAbs ++ r) → numR (Lib.itoa n ++ r) = some (n, r) := by
    intro g h1 h2 hs
    unfold numR
    rw [hs]
    simp only [ht]
    have hb : numB g (Lib.decDigits n.natAbs) = true := by
      unfold numB
      simp only [Bool.and_eq_true, Bool.not_eq_true', List.isEmpty_eq_false_iff]
      refine ⟨⟨dec_ne _, ?_⟩, ?_⟩
      · rcases dec_head n.natAbs with h | h
        · simp [h]
        · rw [h]; rfl
      · cases g with
        | false => rfl
        | true =>
          have := h1 rfl
          rw [valF_dec]; simp; omega
    rw [if_pos hb]
    have hi : numI g (Lib.decDigits n.natAbs) = n := by
      unfold numI; rw [valF_dec]
      cases g with
      | false => have := h2 rfl; simp; omega
      | true => have := h1 rfl; simp; omega
    rw [hi, List.drop_left']
    rfl
  by_cases h : n < 0
  · refine key true (fun _ => h) (fun e => absurd e (by simp)) ?_
    unfold Lib.itoa; rw [if_pos h]; rfl
  · refine key false (fun e => absurd e (by simp)) (fun _ => by omega) ?_
    unfold Lib.itoa; rw [if_neg h, show n.toNat = n.natAbs by omega]
    cases hd : Lib.decDigits n.natAbs with
    | nil => exact absurd hd (dec_ne _)
    | cons a l =>
      have := digP_iff.1 (hdd a (by rw [hd]; simp))
      have h45 : a ≠ 45 := fun e => by rw [e] at this; simp at this
      simp [signR, h45]
/-! ### Args, modules, words -/
/-- Does an arg follow? -/
def moreB (a : List Int) (c : UInt8) : Bool := (c == 40 && a.isEmpty) || (c == 44 && !a.isEmpty)
def argsR : Nat → List Int → Bs → Option (List Int × Bs)
  | 0, a, s => some (a, s)
  | _ + 1, a, [] => some (a, [])
  | k + 1, a, c :: t => if moreB a c = true then (match numR t with
      | none => none
      | some (n, r) => argsR k (a ++ [n]) r) else some (a, c :: t)
def modR : Bs → Option (Md × Bs)
  | [] => none
  | c :: t => match argsR t.length [] t with
    | none => none
    | some ([], r) => some (⟨c, []⟩, r)
    | some (x :: a, 41 :: r) => some (⟨c, x :: a⟩, r)
    | some (_ :: _, _) => none
def wordR : Nat → Bs → Option (List Md)
  | _, [] => some []
  | 0, _ :: _ => none
  | k + 1, c :: t => match modR (c :: t) with
    | none => none
    | some (m, r) => (wordR k r).map (m :: ·)
/-- The text of args that are written in front of more. -/
def argT (a : List Int) : Bs := match a with
  | [] => []
  | x :: l => 40 :: (Lib.itoa x ++ argsT l)
theorem argsT_snoc (l : List Int) (n : Int) : argsT (l ++ [n]) = argsT l ++ 44 :: Lib.itoa n := by
  induction l with
  | nil => simp [argsT]
  | cons x l ih => simp [argsT, ih]
theorem argT_snoc (a : List Int) (n : Int) : argT (a ++ [n]) = argT a ++ (if a.isEmpty = true then 40 else 44) :: Lib.itoa n := by
  cases a with
  | nil => simp [argT, argsT]
  | cons x l => simp [argT, argsT_snoc]
theorem moreB_byte {a : List Int} {c : UInt8} (h : moreB a c = true) : c = (if a.isEmpty = true then 40 else 44) := by
  unfold moreB at h
  cases ha : a.isEmpty
  · rw [ha] at h; simp at h; simp [h]
  · rw [ha] at h; simp at h; simp [h]
theorem argsR_back : ∀ k a s b r, argsR k a s = some (b, r) → argT a ++ s = argT b ++ r
  | 0, a, s, b, r, h => by simp [argsR] at h; rw [h.1, h.2]
  | k + 1, a, [], b, r, h => by simp [argsR] at h; rw [h.1, h.2]
  | k + 1, a, c :: t, b, r, h => by
    unfold argsR at h
    split at h
    · rename_i hm
      split at h
      · exact absurd h (by simp)
      · rename_i n r' hn
        have h1 := argsR_back k _ _ _ _ h
        rw [argT_snoc] at h1
        rw [numR_back hn, moreB_byte hm, ← h1]; simp
    · simp at h; rw [h.1, h.2]
theorem modT_eq (m : Md) : modT m = m.c :: (argT m.a ++ if m.a.isEmpty = true then [] else [41]) := by
  obtain ⟨c, a⟩ := m
  cases a with
  | nil => rfl
  | cons x l => simp [modT, argT]
theorem modR_back {s r : Bs} {m : Md} (h : modR s = some (m, r)) : s = modT m ++ r := by
  cases s with
  | nil => exact absurd h (by simp [modR])
  | cons c t =>
    rw [modR] at h
    split at h
    · exact absurd h (by simp)
    · rename_i r' ha
      have hb : argT [] ++ t = argT [] ++ r' := argsR_back _ _ _ _ _ ha
      have hb' : t = r' := hb
      simp only [Option.some.injEq, Prod.mk.injEq] at h
      rw [hb', ← h.1, ← h.2]; rfl
    · rename_i x a r' ha
      have hb : argT [] ++ t = argT (x :: a) ++ 41 :: r' := argsR_back _ _ _ _ _ ha
      have hb' : t = argT (x :: a) ++ 41 :: r' := hb
      simp only [Option.some.injEq, Prod.mk.injEq] at h
      rw [← h.1, ← h.2, modT_eq, hb']
      simp
    · exact absurd h (by simp)
theorem modT_pos (m : Md) : 1 ≤ (modT m).length := by rw [modT_eq]; simp
theorem wordR_back : ∀ k s w, wordR k s = some w → txt w = s
  | k, [], w, h => by
    have : w = [] := by cases k <;> simp [wordR] at h <;> exact h
    subst this; rfl
  | 0, _ :: _, w, h => by simp [wordR] at h
  | k + 1, c :: t, w, h => by
    unfold wordR at h
    split at h
    · exact absurd h (by simp)
    · rename_i m r hm
      rw [Option.map_eq_some_iff] at h
      obtain ⟨v, hv, rfl⟩ := h
      rw [modR_back hm, ← wordR_back k r v hv]; rfl
/-- What does not go on with args. -/
def stopB (s : Bs) : Prop := ∀ c t, s = c :: t → c ≠ 40 ∧ c ≠ 44 ∧ digP c = false
theorem itoa_ne (n : Int) : Lib.itoa n ≠ [] := by
  unfold Lib.itoa; split
  · simp
  · exact dec_ne _
theorem argsR_some : ∀ k (a l : List Int) (r : Bs), (∀ x ∈ l, -1000000000 ≤ x ∧ x ≤ 1000000000) → a ≠ [] → (∀ c t, r = c :: t → c ≠ 44 ∧ digP c = false) → l.length ≤ k → (k = l.length → r = [] ∨ ∃ c t, r = c :: t) →
    argsR k a (argsT l ++ r) = some (a ++ l, r)
  | 0, a, l, r, _, _, _, hk, _ => by
    have : l = [] := List.length_eq_zero_iff.1 (by omega)
    subst this; simp [argsR, argsT]
  | k + 1, a, [], r, _, ha, hr, _, _ => by
    cases r with
    | nil => simp [argsR, argsT]
    | cons c t =>
      have h := hr c t rfl
      have : moreB a c = false := by
        unfold moreB
        have h1 : a.isEmpty = false := by cases a; exact absurd rfl ha; rfl
        simp [h1, h.1]
      simp [argsR, argsT, this]
  | k + 1, a, x :: l, r, hl, ha, hr, hk, _ => by
    have h1 : a.isEmpty = false := by cases a; exact absurd rfl ha; rfl
    have hm : moreB a 44 = true := by simp [moreB, h1]
    have hnd : ∀ c t, argsT l ++ r = c :: t → digP c = false := by
      intro c t e
      cases l with
      | nil => exact (hr c t (by simpa [argsT] using e)).2
      | cons y l => simp [argsT] at e; rw [← e.1]; rfl
    have hn := numR_itoa (hl x (by simp)) (r := argsT l ++ r) hnd
    show argsR (k + 1) a (44 :: (Lib.itoa x ++ argsT l) ++ r) = _
    rw [List.cons_append, List.append_assoc]
    unfold argsR
    rw [if_pos hm, hn]
    show argsR k (a ++ [x]) (argsT l ++ r) = _
    rw [argsR_some k (a ++ [x]) l r (fun y hy => hl y (by simp [hy])) (by simp) hr (by simpa using hk) (fun _ => by cases r; exact .inl rfl; exact .inr ⟨_, _, rfl⟩)]
    simp
theorem modR_some {m : Md} (hm : fineB m = true) {r : Bs} (hr : stopB r) : modR (modT m ++ r) = some (m, r) := by
  obtain ⟨c, a⟩ := m
  have hrg : ∀ x ∈ a, -1000000000 ≤ x ∧ x ≤ 1000000000 := by
    have : rngB a = true := by
      unfold fineB at hm; simp only [Bool.and_eq_true] at hm; exact hm.2
    exact rngB_iff.1 this
  cases a with
  | nil =>
    show modR (c :: r) = _
    have : argsR r.length [] r = some ([], r) := by
      cases r with
      | nil => rfl
      | cons b t =>
        have h := hr b t rfl
        have hb : moreB [] b = false := by simp [moreB, h.1]
        simp [argsR, hb]
    simp [modR, this]
  | cons x l =>
    have hn := numR_itoa (hrg x (by simp)) (r := argsT l ++ (41 :: r)) (by
      intro b t e
      cases l with
      | nil => simp [argsT] at e; rw [← e.1]; rfl
      | cons y l => simp [argsT] at e; rw [← e.1]; rfl)
    have hgo := argsR_some ((Lib.itoa x ++ argsT l ++ (41 :: r)).length) [x] l (41 :: r) (fun y hy => hrg y (by simp [hy])) (by simp) (by
      intro b t e; simp at e; rw [← e.1]; exact ⟨by decide, rfl⟩) (by
      have : ∀ l : List Int, l.length ≤ (argsT l).length := by
        intro l
        induction l with
        | nil => simp [argsT]
        | cons y l ih => simp [argsT]; omega
      have := this l
      simp; omega) (fun _ => .inr ⟨_, _, rfl⟩)
    show modR ((c :: 40 :: (Lib.itoa x ++ argsT l ++ [41])) ++ r) = _
    have e1 : (c :: 40 :: (Lib.itoa x ++ argsT l ++ [41])) ++ r = c :: 40 :: (Lib.itoa x ++ (argsT l ++ (41 :: r))) := by simp
    rw [e1]
    have e2 : argsR (40 :: (Lib.itoa x ++ (argsT l ++ (41 :: r)))).length [] (40 :: (Lib.itoa x ++ (argsT l ++ (41 :: r)))) = some (x :: l, 41 :: r) := by
      have e3 : (40 :: (Lib.itoa x ++ (argsT l ++ (41 :: r)))).length = (Lib.itoa x ++ argsT l ++ (41 :: r)).length + 1 := by simp
      rw [e3]
      unfold argsR
      rw [if_pos (by rfl), hn]
      exact hgo
    simp only [modR, e2]
theorem letB_stop {c : UInt8} (h : letB c = true) : c ≠ 40 ∧ c ≠ 44 ∧ digP c = false := by
  have all : ∀ n : Fin 256, letB (UInt8.ofNat n.1) = true → UInt8.ofNat n.1 ≠ 40 ∧ UInt8.ofNat n.1 ≠ 44 ∧ digP (UInt8.ofNat n.1) = false := by decide +kernel
  have e : UInt8.ofNat c.toNat = c := UInt8.toNat_inj.1 (by rw [UInt8.toNat_ofNat']; have := c.toNat_lt; omega)
  have := all ⟨c.toNat, c.toNat_lt⟩
  rw [e] at this
  exact this h
theorem fine_let {m : Md} (h : fineB m = true) : letB m.c = true := by
  unfold fineB at h; simp only [Bool.and_eq_true] at h; exact h.1.1.1
theorem stop_txt {l : List Md} (h : ∀ m ∈ l, fineB m = true) : stopB (txt l) := by
  intro c t e
  cases l with
  | nil => simp [txt] at e
  | cons m l =>
    rw [show txt (m :: l) = modT m ++ txt l from rfl, modT_eq] at e
    simp at e
    rw [← e.1]
    exact letB_stop (fine_let (h m (by simp)))
theorem wordR_some : ∀ k (l : List Md), (∀ m ∈ l, fineB m = true) → (txt l).length ≤ k → wordR k (txt l) = some l
  | k, [], _, _ => by cases k <;> rfl
  | 0, m :: l, _, hk => by
    have := modT_pos m
    rw [show txt (m :: l) = modT m ++ txt l from rfl, List.length_append] at hk; omega
  | k + 1, m :: l, h, hk => by
    have hs := stop_txt (l := l) fun x hx => h x (by simp [hx])
    have hm := modR_some (h m (by simp)) hs
    have hp := modT_pos m
    rw [show txt (m :: l) = modT m ++ txt l from rfl] at hk ⊢
    rw [List.length_append] at hk
    have ih := wordR_some k l (fun x hx => h x (by simp [hx])) (by omega)
    cases hc : modT m ++ txt l with
    | nil => rw [List.append_eq_nil_iff] at hc; rw [hc.1] at hp; simp at hp
    | cons c t =>
      rw [hc] at hm
      unfold wordR
      rw [hm]
      show (wordR k (txt l)).map (m :: ·) = _
      rw [ih]; rfl
/-- The valid word with a text. -/
def prs (s : Bs) : Option (List Md) := (wordR s.length s).bind fun w => if chk w = 0 then some w else none
theorem prs_iff {s : Bs} {w : List Md} : prs s = some w ↔ chk w = 0 ∧ txt w = s := by
  unfold prs
  rw [Option.bind_eq_some_iff]
  constructor
  · rintro ⟨v, hv, h⟩
    split at h
    · rename_i hc
      simp at h; subst h
      exact ⟨hc, wordR_back _ _ _ hv⟩
    · exact absurd h (by simp)
  · rintro ⟨hc, rfl⟩
    have hf : ∀ m ∈ w, fineB m = true := by
      have := (chk_zero.1 hc).2.1
      simpa using this
    exact ⟨w, wordR_some _ w hf (Nat.le_refl _), by rw [if_pos hc]⟩
end WM
end Go.Proofs.YtepoaobjcpgilaaDoor
namespace Go.Proofs.YtepoaobjcpgilaaDoor
open WM
set_option linter.unusedVariables false
set_option linter.unusedSimpArgs false
namespace RM

structure Fm where
  k : Int
  cs : List Int
  deriving DecidableEq
structure Sh where
  c : UInt8
  a : List Fm
  deriving DecidableEq
structure Rw where
  c : UInt8
  ar : Int
  l : UInt8
  r : UInt8
  gs : List Fm
  wt : Int
  out : List Sh
  deriving DecidableEq
def coefB (x : Int) : Bool := decide (-1000000 ≤ x) && decide (x ≤ 1000000)
theorem coefB_iff {x : Int} : coefB x = true ↔ -1000000 ≤ x ∧ x ≤ 1000000 := by simp [coefB]
/-- Is a form valid for a number of arguments? -/
def formB (f : Fm) (n : Int) : Bool := coefB f.k && decide ((f.cs.length : Int) = n) && f.cs.all coefB
/-- The module that a shape is like, its args 0. -/
def shM (s : Sh) : Md := ⟨s.c, List.replicate s.a.length 0⟩
def shB (s : Sh) (n : Int) : Bool := fineB (shM s) && s.a.all (formB · n)
/-- Is a rule valid in what the layers share? -/
def ruleB (r : Rw) : Bool := letB r.c && !(braB r.c) && decide (0 ≤ r.ar) && decide (r.ar ≤ 4) && r.gs.all (formB · r.ar) && r.out.all (shB · r.ar) && decide (chk (r.out.map shM) = 0)
def plainB (r : Rw) : Bool := r.l == 0 && r.r == 0 && decide (r.wt = 0)
def manyB (l : List Rw) : Bool := decide (40 < l.length) || l.any fun r => decide (4 < r.gs.length) || decide (20 < r.out.length)
/-- Check. -/
def rchk (l : List Rw) : Int := if manyB l = true then 4 else if l.all (fun r => ruleB r && plainB r) = true then 0 else 8
def wor : Int → List Int → List Int → Int
  | n, _, [] => n
  | n, [], _ :: _ => n
  | n, c :: cs, x :: xs => wor (n + c * x) cs xs
/-- A form's value. -/
def worth (f : Fm) (x : List Int) : Int := wor f.k f.cs x
theorem wor_snoc : ∀ (n : Int) (cs xs : List Int) (c x : Int), cs.length = xs.length → wor n (cs ++ [c]) (xs ++ [x]) = wor n cs xs + c * x
  | n, [], [], c, x, _ => by simp [wor]
  | n, c' :: cs, x' :: xs, c, x, h => by
    simp only [List.cons_append, wor]
    exact wor_snoc _ cs xs c x (by simpa using h)
  | n, [], _ :: _, _, _, h => by simp at h
  | n, _ :: _, [], _, _, h => by simp at h
theorem take_snoc {l : List Int} {k : Nat} (h : k < l.length) : l.take (k + 1) = l.take k ++ [l[k]] := List.take_succ_eq_append_getElem h
theorem wor_take {n : Int} {cs xs : List Int} (hl : cs.length = xs.length) {k : Nat} (h : k < xs.length) : wor n (cs.take (k + 1)) (xs.take (k + 1)) = wor n (cs.take k) (xs.take k) + cs[k]'(by omega) * xs[k] := by
  rw [take_snoc (l := cs) (by omega), take_snoc h]
  exact wor_snoc _ _ _ _ _ (by rw [List.length_take, List.length_take]; omega)
theorem mul_rng {c x : Int} (hc : -1000000 ≤ c ∧ c ≤ 1000000) (hx : -1000000000 ≤ x ∧ x ≤ 1000000000) : -1000000000000000 ≤ c * x ∧ c * x ≤ 1000000000000000 := by
  have key : ∀ a b : Int, -1000000 ≤ a → a ≤ 1000000 → 0 ≤ b → b ≤ 1000000000 → -1000000000000000 ≤ a * b ∧ a * b ≤ 1000000000000000 := by
    intro a b h1 h2 h3 h4
    have e1 : a * b ≤ 1000000 * b := Int.mul_le_mul_of_nonneg_right h2 h3
    have e2 : -1000000 * b ≤ a * b := Int.mul_le_mul_of_nonneg_right h1 h3
    omega
  by_cases h : 0 ≤ x
  · exact key c x hc.1 hc.2 h hx.2
  · have := key c (-x) hc.1 hc.2 (by omega) (by omega)
    rw [Int.mul_neg] at this
    omega
/-- The sum stays small at each step. -/
theorem wor_rng {n : Int} {cs xs : List Int} (hl : cs.length = xs.length) (hn : coefB n = true) (hc : cs.all coefB = true) (hx : ∀ x ∈ xs, -1000000000 ≤ x ∧ x ≤ 1000000000) :
    ∀ k, k ≤ xs.length → -1000000 - k * 1000000000000000 ≤ wor n (cs.take k) (xs.take k) ∧ wor n (cs.take k) (xs.take k) ≤ 1000000 + k * 1000000000000000 := by
  intro k
  induction k with
  | zero => intro _; have := coefB_iff.1 hn; simp [wor]; omega
  | succ k ih =>
    intro hk
    have h1 := ih (by omega)
    rw [wor_take hl (by omega)]
    have h2 := mul_rng (coefB_iff.1 (List.all_eq_true.1 hc _ (List.getElem_mem (show k < cs.length by omega)))) (hx _ (List.getElem_mem (show k < xs.length by omega)))
    omega
/-- Does a rule fit a module? -/
def fitB (r : Rw) (m : Md) : Bool := r.c == m.c && decide (r.ar = (m.a.length : Int)) && r.gs.all fun g => decide (0 ≤ worth g m.a)
/-- The first rule that fits from an index on, or -1. -/
def firstF : List Rw → Md → Int → Int
  | [], _, _ => -1
  | r :: l, m, i => if fitB r m = true then i else firstF l m (i + 1)
def first (l : List Rw) (m : Md) : Int := firstF l m 0
theorem firstF_rng : ∀ (l : List Rw) (m : Md) (i : Int), firstF l m i = -1 ∨ (i ≤ firstF l m i ∧ firstF l m i < i + l.length)
  | [], _, _ => .inl rfl
  | r :: l, m, i => by
    unfold firstF
    split
    · right; simp; omega
    · rcases firstF_rng l m (i + 1) with h | h
      · exact .inl h
      · right; simp; omega
theorem firstF_drop {l : List Rw} {m : Md} {k : Nat} (hk : k < l.length) : firstF (l.drop k) m (k : Int) = if fitB l[k] m = true then (k : Int) else firstF (l.drop (k + 1)) m ((k + 1 : Nat) : Int) := by
  rw [List.drop_eq_getElem_cons hk, firstF]
  rfl
theorem firstF_end {l : List Rw} {m : Md} {k : Nat} (hk : l.length ≤ k) : firstF (l.drop k) m (k : Int) = -1 := by
  rw [List.drop_of_length_le hk]; rfl
/-- Find's error and index. -/
def finC (l : List Rw) (m : Md) : Int := if rchk l ≠ 0 then rchk l else if fineB m = true then 0 else 8
def finV (l : List Rw) (m : Md) : Int := if finC l m = 0 then first l m else 0
/-- Value's error and number. -/
def vaC (f : Fm) (x : List Int) : Int :=
  if 4 < x.length ∨ formB f (x.length : Int) = false ∨ fineB ⟨70, x⟩ = false then 8 else if -1000000000 ≤ worth f x ∧ worth f x ≤ 1000000000 then 0 else 16
def vaV (f : Fm) (x : List Int) : Int := if vaC f x = 0 then worth f x else 0
/-- What a shape becomes. -/
def mkM (s : Sh) (x : List Int) : Md := ⟨s.c, s.a.map (worth · x)⟩
def argB (x : Int) : Bool := decide (-1000000000 ≤ x) && decide (x ≤ 1000000000)
def mkB (s : Sh) (x : List Int) : Bool := s.a.all fun f => argB (worth f x)
/-- What a rule makes of a module. -/
def made (r : Rw) (m : Md) : Option (List Md) := if r.out.all (mkB · m.a) = true then some (r.out.map (mkM · m.a)) else none
/-- A module's successor. -/
def succM (l : List Rw) (m : Md) : Option (List Md) := if h : 0 ≤ first l m then (match l[(first l m).toNat]? with | some r => made r m | none => none) else some [m]
/-- A word's successor, before its length is looked at. -/
def stepL (l : List Rw) : List Md → Option (List Md)
  | [] => some []
  | m :: w => match succM l m, stepL l w with
    | some a, some b => some (a ++ b)
    | _, _ => none
theorem stepL_app (l : List Rw) : ∀ a b : List Md, stepL l (a ++ b) = (match stepL l a, stepL l b with | some x, some y => some (x ++ y) | _, _ => none)
  | [], b => by
    simp only [List.nil_append, stepL]
    cases stepL l b <;> rfl
  | m :: a, b => by
    simp only [List.cons_append, stepL]
    rw [stepL_app l a b]
    cases succM l m <;> cases stepL l a <;> cases stepL l b <;> simp
theorem stepL_one (l : List Rw) (m : Md) : stepL l [m] = succM l m := by
  simp only [stepL]
  cases succM l m <;> simp
/-- Step's error and word. -/
def stC (l : List Rw) (w : List Md) : Int := if rchk l ≠ 0 then rchk l else if chk w ≠ 0 then chk w else match stepL l w with
  | none => 16
  | some v => if 2000 < v.length then 4 else 0
def stL (l : List Rw) (w : List Md) : List Md := if stC l w = 0 then (stepL l w).getD [] else []
/-- Run's error and word. -/
def runF (l : List Rw) : Nat → List Md → Int × List Md
  | 0, w => (0, w)
  | n + 1, w => if stC l w ≠ 0 then (stC l w, []) else runF l n (stL l w)
def ruC (l : List Rw) (w : List Md) (n : Int) : Int := if rchk l ≠ 0 then rchk l else if chk w ≠ 0 then chk w else if n < 0 ∨ 30 < n then 2 else (runF l n.toNat w).1
def ruL (l : List Rw) (w : List Md) (n : Int) : List Md := if ruC l w n = 0 then (runF l n.toNat w).2 else []
def greatR (l : List Rw) : Bool := decide (50 < l.length) || l.any fun r => decide (10 < r.gs.length) || decide (30 < r.out.length) || r.gs.any (fun g => decide (10 < g.cs.length)) || r.out.any (fun s => decide (10 < s.a.length) || s.a.any (fun g => decide (10 < g.cs.length)))
end RM
end Go.Proofs.YtepoaobjcpgilaaDoor
namespace Go.Proofs.YtepoaobjcpgilaaDoor
open WM RM
set_option linter.unusedVariables false
set_option linter.unusedSimpArgs false
namespace CH

/-- A cell: its path's bytes, its module. -/
structure Ce where
  p : Bs
  m : Md
  deriving DecidableEq
def digB (c : UInt8) : Bool := decide (48 ≤ c) && decide (c ≤ 57) || c == 47
def pathB (s : Bs) : Bool := decide (1 ≤ s.length) && decide (s.length ≤ 200) && s.all digB
def ceC (l : List Ce) : Int := if 2000 < l.length then 4 else if l.all (fun c => pathB c.p) = false then 8 else chk (l.map Ce.m)
theorem ceC_many {l : List Ce} (h : 2000 < l.length) : ceC l = 4 := by unfold ceC; rw [if_pos h]
theorem ceC_bad {l : List Ce} (h : ¬ 2000 < l.length) {k : Nat} (hk : k < l.length) (hp : pathB l[k].p = false) : ceC l = 8 := by
  unfold ceC
  rw [if_neg h, if_pos (by rw [List.all_eq_false]; exact ⟨l[k], List.getElem_mem hk, by rw [hp]; simp⟩)]
theorem ceC_word {l : List Ce} (h : ¬ 2000 < l.length) (hp : ∀ k, (hk : k < l.length) → pathB l[k].p = true) : ceC l = chk (l.map Ce.m) := by
  unfold ceC
  rw [if_neg h, if_neg (by
    rw [Bool.not_eq_false, List.all_eq_true]
    intro c hc
    obtain ⟨k, hk, rfl⟩ := List.mem_iff_getElem.1 hc
    exact hp k hk)]
def greatC (l : List Ce) : Bool := decide (2100 < l.length) || l.any fun c => decide (300 < c.p.length) || decide (10 < c.m.a.length)
theorem greatC_no {l : List Ce} (h : greatC l = false) : l.length ≤ 2100 ∧ ∀ c ∈ l, c.p.length ≤ 300 ∧ c.m.a.length ≤ 10 := by
  unfold greatC at h
  rw [Bool.or_eq_false_iff, decide_eq_false_iff_not, List.any_eq_false] at h
  obtain ⟨h1, h2⟩ := h
  refine ⟨by omega, fun c hc => ?_⟩
  have := h2 c hc
  simp only [Bool.or_eq_true, decide_eq_true_eq] at this
  omega
theorem greatC_at {l : List Ce} {k : Nat} (hk : k < l.length) (h : 300 < l[k].p.length ∨ 10 < l[k].m.a.length) : greatC l = true := by
  unfold greatC
  rw [Bool.or_eq_true, List.any_eq_true]
  exact .inr ⟨l[k], List.getElem_mem hk, by simpa using h⟩
theorem greatC_end {l : List Ce} (h : ∀ k, (hk : k < l.length) → l[k].p.length ≤ 300 ∧ l[k].m.a.length ≤ 10) : greatC l = decide (2100 < l.length) := by
  unfold greatC
  rw [show (l.any fun c => decide (300 < c.p.length) || decide (10 < c.m.a.length)) = false by
    rw [List.any_eq_false]
    intro c hc
    obtain ⟨k, hk, rfl⟩ := List.mem_iff_getElem.1 hc
    have := h k hk
    simp only [Bool.or_eq_true, decide_eq_true_eq]
    omega, Bool.or_false]
/-- The cells that a word begins with, up to a place. -/
def bgF (d : Nat → Bs) (u : List Md) (k : Nat) : List Ce := (List.range k).map fun i => ⟨d i, u.getD i ⟨0, []⟩⟩
theorem bgF_length (d : Nat → Bs) (u : List Md) (k : Nat) : (bgF d u k).length = k := by simp [bgF]
theorem bgF_succ (d : Nat → Bs) {u : List Md} {k : Nat} (h : k < u.length) : bgF d u (k + 1) = bgF d u k ++ [⟨d k, u[k]⟩] := by
  simp [bgF, List.range_succ, h]
theorem bgF_get (d : Nat → Bs) {u : List Md} {k i : Nat} (hk : k ≤ u.length) (h : i < k) : (bgF d u k)[i]'(by rw [bgF_length]; exact h) = ⟨d i, u[i]⟩ := by
  have : i < u.length := by omega
  simp [bgF, this]
def bgL (d : Nat → Bs) (u : List Md) : List Ce := if chk u = 0 then bgF d u u.length else []
def woL (l : List Ce) : List Md := if ceC l = 0 then l.map Ce.m else []
/-! ### Rules with weights -/
def wtB (r : Rw) : Bool := decide (1 ≤ r.wt) && decide (r.wt ≤ 1000000)
def unw (r : Rw) : Rw := ⟨r.c, r.ar, r.l, r.r, r.gs, 0, r.out⟩
def wchk (l : List Rw) : Int := if manyB l = true then 4 else if l.all (fun r => ruleB r && (r.l == 0 && r.r == 0) && wtB r) = true then 0 else 8
theorem many_unw (l : List Rw) : manyB (l.map unw) = manyB l := by
  unfold manyB
  rw [List.length_map, List.any_map]
  rfl
theorem rule_unw (r : Rw) : ruleB (unw r) = ruleB r := rfl
theorem plain_unw (r : Rw) : plainB (unw r) = (r.l == 0 && r.r == 0) := by simp [plainB, unw]
theorem rchk_unw (l : List Rw) : rchk (l.map unw) = if manyB l = true then 4 else if l.all (fun r => ruleB r && (r.l == 0 && r.r == 0)) = true then 0 else 8 := by
  unfold rchk
  rw [many_unw, List.all_map]
  have : (fun r => ruleB r && plainB r) ∘ unw = fun r => ruleB r && (r.l == 0 && r.r == 0) := by
    funext r
    simp only [Function.comp, rule_unw, plain_unw]
  rw [this]
theorem wchk_of {l : List Rw} (h : rchk (l.map unw) ≠ 0) : wchk l = rchk (l.map unw) := by
  rw [rchk_unw] at h ⊢
  unfold wchk
  split
  · rfl
  · rename_i h1
    rw [if_neg h1] at h
    split at h
    · exact absurd rfl h
    · rename_i h2
      rw [if_neg h2, if_neg]
      intro h3
      apply h2
      rw [List.all_eq_true] at h3 ⊢
      intro r hr
      have := h3 r hr
      rw [Bool.and_eq_true] at this
      exact this.1
theorem wchk_zero {l : List Rw} (h : rchk (l.map unw) = 0) (hw : ∀ k, (hk : k < l.length) → wtB l[k] = true) : wchk l = 0 := by
  rw [rchk_unw] at h
  unfold wchk
  split at h
  · omega
  · rename_i h1
    rw [if_neg h1]
    split at h
    · rename_i h2
      rw [if_pos]
      rw [List.all_eq_true] at h2 ⊢
      intro r hr
      obtain ⟨k, hk, rfl⟩ := List.mem_iff_getElem.1 hr
      rw [Bool.and_eq_true]
      exact ⟨h2 _ hr, hw k hk⟩
    · omega
theorem wchk_bad {l : List Rw} (h : rchk (l.map unw) = 0) {k : Nat} (hk : k < l.length) (hw : wtB l[k] = false) : wchk l = 8 := by
  rw [rchk_unw] at h
  unfold wchk
  split at h
  · omega
  · rename_i h1
    rw [if_neg h1, if_neg]
    intro h2
    rw [List.all_eq_true] at h2
    have := h2 _ (List.getElem_mem hk)
    rw [hw] at this
    simp at this
theorem wchk_many {l : List Rw} (h : manyB l = true) : wchk l = 4 := by unfold wchk; rw [if_pos h]
theorem wchk_at {l : List Rw} (h : manyB l = false) {k : Nat} (hk : k < l.length) (hw : (ruleB l[k] && (l[k].l == 0 && l[k].r == 0) && wtB l[k]) = false) : wchk l = 8 := by
  unfold wchk
  rw [if_neg (by rw [h]; simp), if_neg]
  intro h2
  rw [List.all_eq_true] at h2
  have := h2 _ (List.getElem_mem hk)
  rw [hw] at this
  simp at this
theorem wchk_fine {l : List Rw} (h : manyB l = false) (hw : ∀ k, (hk : k < l.length) → (ruleB l[k] && (l[k].l == 0 && l[k].r == 0) && wtB l[k]) = true) : wchk l = 0 := by
  unfold wchk
  rw [if_neg (by rw [h]; simp), if_pos]
  rw [List.all_eq_true]
  intro r hr
  obtain ⟨k, hk, rfl⟩ := List.mem_iff_getElem.1 hr
  exact hw k hk
end CH
end Go.Proofs.YtepoaobjcpgilaaDoor
namespace Go.Proofs.YtepoaobjcpgilaaDoor
open Go.RowKit

/-- All blocks of w but b are in w' as they were; the streams too. -/
structure Kept (b : Nat) (w w' : World) : Prop where
  os : w'.os = w.os
  tape : w'.tape = w.tape
  output : w'.output = w.output
  size : w.heap.size ≤ w'.heap.size
  block : ∀ k, k < w.heap.size → k ≠ b → w'.heap[k]? = w.heap[k]?

theorem Kept.refl (b : Nat) (w : World) : Kept b w w := ⟨rfl, rfl, rfl, Nat.le_refl _, fun _ _ _ => rfl⟩
theorem Kept.trans {b : Nat} {u v w : World} (h : Kept b u v) (k : Kept b v w) : Kept b u w :=
  ⟨k.os.trans h.os, k.tape.trans h.tape, k.output.trans h.output, Nat.le_trans h.size k.size, fun i hi hb => (k.block i (Nat.lt_of_lt_of_le hi h.size) hb).trans (h.block i hi hb)⟩
theorem Kept.of_below {b : Nat} {u w : World} (h : Below u.heap.size u w) : Kept b u w := ⟨h.os, h.tape, h.output, h.size, fun k hk _ => h.block k hk⟩
theorem Kept.drewN {b : Nat} {u w : World} (h : Kept b u w) (n : Nat) : Kept b u (w.drewN n) := ⟨h.os, h.tape, h.output, h.size, h.block⟩
theorem Kept.drew {b : Nat} {u w : World} (h : Kept b u w) : Kept b u w.drew := ⟨h.os, h.tape, h.output, h.size, h.block⟩
theorem Kept.alloc {b : Nat} {u w : World} (h : Kept b u w) (o : Obj) : Kept b u (w.alloc o) :=
  h.trans (Kept.of_below ((Below.refl _ _).alloc (Nat.le_refl _) o))
/-- A store into the block itself, or into one that is new. -/
theorem Kept.setCell {b : Nat} {u w : World} (h : Kept b u w) {p : Addr} (hp : p.block = b ∨ u.heap.size ≤ p.block) (x : Value) : Kept b u (w.setCell p x) :=
  ⟨h.os, h.tape, h.output, by simpa [World.setCell] using h.size, fun k hk hb => by rw [Below.heap_setCell _ _ _ _ (by rcases hp with hp | hp <;> omega)]; exact h.block k hk hb⟩
/-- What was there before the block was made has not turned. -/
theorem Kept.below {b B : Nat} {u w : World} (h : Kept b u w) (hB : B ≤ b) (hu : B ≤ u.heap.size) : Below B u w :=
  ⟨h.os, h.tape, h.output, h.size, fun k hk => h.block k (by omega) (by omega)⟩

/-- One cell's block behind new blocks and stores elsewhere. -/
theorem heap_alloc_old {w : World} {b : Nat} {x : Obj} (h : w.heap[b]? = some x) (o : Obj) : (w.alloc o).heap[b]? = some x := by
  rw [Below.heap_alloc _ _ _ (lt_of_block h)]; exact h
theorem heap_set_other {w : World} {b : Nat} {x : Obj} (h : w.heap[b]? = some x) {p : Addr} (hp : b ≠ p.block) (u : Value) : (w.setCell p u).heap[b]? = some x := by
  rw [Below.heap_setCell _ _ _ _ hp]; exact h

theorem heap_drewN_old {w : World} {b : Nat} {x : Obj} (h : w.heap[b]? = some x) (n : Nat) : (w.drewN n).heap[b]? = some x := h
theorem heap_drew_old {w : World} {b : Nat} {x : Obj} (h : w.heap[b]? = some x) : w.drew.heap[b]? = some x := h

theorem cell_two0 {w : World} {b : Nat} {x y : Value} {t : TypeId} (h : w.heap[b]? = some (.cells #[x, y] t (0, 0))) : w.cell? ⟨b, 0, none⟩ = some x := by simp [World.cell?, h]
theorem cell_two1 {w : World} {b : Nat} {x y : Value} {t : TypeId} (h : w.heap[b]? = some (.cells #[x, y] t (0, 0))) : w.cell? ⟨b, 1, none⟩ = some y := by simp [World.cell?, h]
theorem free_two0 {w : World} {b : Nat} {x y : Value} {t : TypeId} (h : w.heap[b]? = some (.cells #[x, y] t (0, 0))) : w.frozen? ⟨b, 0, none⟩ = false := by simp [World.frozen?, h]
theorem free_two1 {w : World} {b : Nat} {x y : Value} {t : TypeId} (h : w.heap[b]? = some (.cells #[x, y] t (0, 0))) : w.frozen? ⟨b, 1, none⟩ = false := by simp [World.frozen?, h]
theorem below_new {w w1 : World} {b : Nat} {x : Obj} (hb : Below w.heap.size w w1) (h : w.heap[b]? = some x) : w1.heap[b]? = some x := (hb.block _ (lt_of_block h)).trans h

end Go.Proofs.YtepoaobjcpgilaaDoor
namespace Go.Proofs.YtepoaobjcpgilaaDoor
open Go.RowKit
set_option linter.unusedVariables false
set_option linter.unusedSimpArgs false

/-- A string's bytes as a list, and a list as a string. -/
def lA (s : ByteArray) : List UInt8 := s.data.toList
def bA (l : List UInt8) : ByteArray := ⟨l.toArray⟩
theorem lA_bA (l : List UInt8) : lA (bA l) = l := by simp [lA, bA]
theorem bA_lA (s : ByteArray) : bA (lA s) = s := rfl
theorem lA_len (s : ByteArray) : (lA s).length = s.size := by simp only [lA, Array.length_toList]; rfl
theorem lA_get (s : ByteArray) (k : Nat) (h : k < s.size) (h' : k < (lA s).length) : (lA s)[k]'h' = s[k]'h := rfl
theorem lA_inj {a b : ByteArray} (h : lA a = lA b) : a = b := ByteArray.ext (Array.toList_inj.1 h)
theorem lA_snoc (s : ByteArray) (k : Nat) (h : k < s.size) : (lA s).take (k + 1) = (lA s).take k ++ [s[k]] := by
  have hl : k < (lA s).length := by rw [lA_len]; exact h
  rw [List.take_add_one, List.getElem?_eq_getElem hl, lA_get s k h hl]; rfl
theorem lA_all (s : ByteArray) : (lA s).take s.size = lA s := by rw [← lA_len]; exact List.take_length
theorem ret_bool {a b : Bool} (h : a = b) : Ending.returned (.bool a) = .returned (.bool b) := by rw [h]
theorem ret_int {k : IntKind} {a b : Int} (h : a = b) : Ending.returned (.int k a) = .returned (.int k b) := by rw [h]
theorem ret_str {a b : ByteArray} (h : a = b) : Ending.returned (.string a) = .returned (.string b) := by rw [h]

/-- A slice's numbers, which may be none. -/
inductive Ints (w : World) : Value → List Int → Prop
  | none (p : Option Addr) (cap : Nat) : Ints w (.slice p 0 cap) []
  | some (b off cap : Nat) (l : List Int) (hpos : 0 < l.length) (hb : b < w.heap.size)
      (h : ∀ i, (h : i < l.length) → w.cell? ⟨b, off + i, Option.none⟩ = Option.some (.int .i64 l[i])) :
      Ints w (.slice (Option.some ⟨b, off, Option.none⟩) l.length cap) l
theorem Ints.later {w w1 : World} {v : Value} {l : List Int} (h : Ints w v l) (hb : Below w.heap.size w w1) : Ints w1 v l := by
  cases h with
  | none p cap => exact .none p cap
  | some b off cap _ hpos hlt hx =>
    exact .some b off cap l hpos (Nat.lt_of_lt_of_le hlt hb.size) fun i hi => (hb.cell (p := ⟨b, off + i, Option.none⟩) hlt).trans (hx i hi)
theorem Ints.slice {w : World} {v : Value} {l : List Int} (h : Ints w v l) : ∃ p cap, v = .slice p l.length cap := by
  cases h with
  | none p cap => exact ⟨p, cap, rfl⟩
  | some b off cap _ _ _ _ => exact ⟨_, cap, rfl⟩

theorem Ints.at {w : World} {v : Value} {l : List Int} (h : Ints w v l) {k : Nat} (hk : k < l.length) :
    ∃ b off cap, v = .slice (Option.some ⟨b, off, Option.none⟩) l.length cap ∧ w.cell? ⟨b, off + k, Option.none⟩ = Option.some (.int .i64 l[k]) ∧ b < w.heap.size := by
  cases h with
  | none p cap => simp at hk
  | some b off cap _ _ hb hx => exact ⟨b, off, cap, rfl, hx k hk, hb⟩
/-- A row of numbers of the call's own. -/
structure RowI (w : World) (b : Nat) (l : List Int) : Prop where
  row : ∃ cs : Array Value, w.heap[b]? = some (.cells cs 3 (0, 0)) ∧ l.length ≤ cs.size ∧ ∀ i, (h : i < l.length) → cs[i]? = some (.int .i64 l[i])
theorem RowI.lt {w : World} {b : Nat} {l : List Int} (h : RowI w b l) : b < w.heap.size := let ⟨_, h1, _⟩ := h.row; lt_of_block h1
theorem RowI.cell {w : World} {b : Nat} {l : List Int} (h : RowI w b l) {i : Nat} (hi : i < l.length) : w.cell? ⟨b, i, none⟩ = some (.int .i64 l[i]) := by
  obtain ⟨cs, h1, h2, h3⟩ := h.row
  simp only [World.cell?, h1]; simpa using h3 i hi
theorem RowI.free {w : World} {b : Nat} {l : List Int} (h : RowI w b l) (i : Nat) : w.frozen? ⟨b, i, none⟩ = false := by
  obtain ⟨cs, h1, h2, h3⟩ := h.row
  simp [World.frozen?, h1]
theorem RowI.of_block {w w1 : World} {b : Nat} {l : List Int} (h : RowI w b l) (he : w1.heap[b]? = w.heap[b]?) : RowI w1 b l := by
  obtain ⟨cs, h1, h2, h3⟩ := h.row
  exact ⟨cs, he.trans h1, h2, h3⟩
theorem RowI.later {w w1 : World} {b : Nat} {l : List Int} (h : RowI w b l) (hb : Below w.heap.size w w1) : RowI w1 b l := h.of_block (hb.block _ h.lt)
theorem RowI.other {w : World} {b : Nat} {l : List Int} (h : RowI w b l) {p : Addr} (hp : b ≠ p.block) (x : Value) : RowI (w.setCell p x) b l := h.of_block (Below.heap_setCell _ _ _ _ hp)
theorem RowI.set {w : World} {b : Nat} {l : List Int} (h : RowI w b l) {i : Nat} (hi : i < l.length) (x : Int) : RowI (w.setCell ⟨b, i, none⟩ (.int .i64 x)) b (l.set i x) := by
  obtain ⟨cs, h1, h2, h3⟩ := h.row
  refine ⟨cs.setIfInBounds i (.int .i64 x), ?_, by simpa using h2, fun j hj => ?_⟩
  · simp only [World.setCell, Array.getElem?_modify, if_true, h1]; rfl
  · rw [List.length_set] at hj
    rw [Array.getElem?_setIfInBounds, List.getElem_set]
    by_cases hij : i = j
    · subst hij; simp; omega
    · rw [if_neg hij, if_neg hij]; exact h3 j hj
theorem RowI.ints {w : World} {b : Nat} {l : List Int} (h : RowI w b l) (cap : Nat) : Ints w (.slice (some ⟨b, 0, none⟩) l.length cap) l := by
  rcases Nat.eq_zero_or_pos l.length with h0 | h0
  · have : l = [] := List.length_eq_zero_iff.1 h0
    subst this; exact .none _ _
  · exact .some b 0 cap l h0 h.lt fun i hi => by rw [Nat.zero_add]; exact h.cell hi
/-- A row as make lays it. -/
def zeros (n : Nat) : Array Value := madeCells #[.int .i64 0] n
theorem zeros_at {n i : Nat} (h : i < n) : (zeros n)[i]? = some (.int .i64 0) := by
  unfold zeros madeCells
  rw [Array.getElem?_map, Array.getElem?_range, if_pos h]
  simp [Nat.mod_one]
theorem zeros_size (n : Nat) : (zeros n).size = n := size_madeCells _ _
theorem made_run (n : Nat) (hn : n ≤ 1000) (w : World) : (Instr.makeSlice 23 (.int .i64 (n : Int)) (.int .i64 (n : Int))).run Tryd.prog w = .ok (.slice (some ⟨w.heap.size, 0, none⟩) n n) (w.alloc (.cells (zeros n) 3)) := by
  have := run_make (P := Tryd.prog) w 23 3 Tryd.t3 (.int .i64 0) Tryd.underlying23 (by kernel_rfl) (by kernel_rfl) .i64 .i64 n n (by omega) (Int.le_refl _) (by show ((8 : Nat) : Int) * (n : Int) ≤ _; omega) (by omega)
  rw [this]; simp only [zeros, Value.cells, Int.toNat_natCast, show (Tryd.t3).size = 1 from rfl, Nat.mul_one]
theorem made_row (n : Nat) (w : World) : RowI (w.alloc (.cells (zeros n) 3)) w.heap.size (List.replicate n 0) := by
  refine ⟨zeros n, heap_alloc_new _ _, by simp [zeros_size], fun i hi => ?_⟩
  rw [List.length_replicate] at hi
  rw [zeros_at hi, List.getElem_replicate]

theorem one_setCell {w : World} {b : Nat} {x : Value} {t : TypeId} (h : w.heap[b]? = some (.cells #[x] t (0, 0))) (u : Value) :
    (w.setCell ⟨b, 0, none⟩ u).heap[b]? = some (.cells #[u] t (0, 0)) := by
  simp only [World.setCell, Array.getElem?_modify, if_true, h]
  rfl
theorem free_one {w : World} {b : Nat} {x : Value} {t : TypeId} (h : w.heap[b]? = some (.cells #[x] t (0, 0))) : w.frozen? ⟨b, 0, none⟩ = false := by simp [World.frozen?, h]
end Go.Proofs.YtepoaobjcpgilaaDoor
namespace Go.Proofs.YtepoaobjcpgilaaDoor
open Go.RowKit
open WM
set_option linter.unusedVariables false
set_option linter.unusedSimpArgs false

/-- A slice that is nil, or lies somewhere. -/
def NilOr (v : Value) : Prop := v = .slice none 0 0 ∨ ∃ ad n c, v = .slice (some ad) n c
/-- A slice's modules, which may be none. -/
inductive Mods (w : World) : Value → List Md → Prop
  | none (p : Option Addr) (cap : Nat) : Mods w (.slice p 0 cap) []
  | some (b off cap : Nat) (l : List Md) (hpos : 0 < l.length) (hb : b < w.heap.size)
      (h : ∀ i, (h : i < l.length) → w.cell? ⟨b, off + i * 2, Option.none⟩ = Option.some (.int .u8 l[i].c.toNat) ∧
        ∃ v, w.cell? ⟨b, off + i * 2 + 1, Option.none⟩ = Option.some v ∧ Ints w v l[i].a ∧ NilOr v) :
      Mods w (.slice (Option.some ⟨b, off, Option.none⟩) l.length cap) l
theorem Mods.later {w w1 : World} {v : Value} {l : List Md} (h : Mods w v l) (hb : Below w.heap.size w w1) : Mods w1 v l := by
  cases h with
  | none p cap => exact .none p cap
  | some b off cap _ hpos hlt hx =>
    refine .some b off cap l hpos (Nat.lt_of_lt_of_le hlt hb.size) fun i hi => ?_
    obtain ⟨h1, v, h2, h3, h4⟩ := hx i hi
    exact ⟨(hb.cell (p := ⟨b, off + i * 2, Option.none⟩) hlt).trans h1, v, (hb.cell (p := ⟨b, off + i * 2 + 1, Option.none⟩) hlt).trans h2, h3.later hb, h4⟩
theorem Mods.slice {w : World} {v : Value} {l : List Md} (h : Mods w v l) : ∃ p cap, v = .slice p l.length cap := by
  cases h with
  | none p cap => exact ⟨p, cap, rfl⟩
  | some b off cap _ _ _ _ => exact ⟨_, cap, rfl⟩
theorem Mods.at {w : World} {v : Value} {l : List Md} (h : Mods w v l) {k : Nat} (hk : k < l.length) :
    ∃ b off cap p c, v = .slice (Option.some ⟨b, off, Option.none⟩) l.length cap ∧ w.cell? ⟨b, off + k * 2, Option.none⟩ = Option.some (.int .u8 l[k].c.toNat) ∧
      w.cell? ⟨b, off + k * 2 + 1, Option.none⟩ = Option.some (.slice p l[k].a.length c) ∧ Ints w (.slice p l[k].a.length c) l[k].a ∧ b < w.heap.size := by
  cases h with
  | none p cap => simp at hk
  | some b off cap _ _ hb hx =>
    obtain ⟨h1, v, h2, h3, _⟩ := hx k hk
    obtain ⟨p, c, rfl⟩ := h3.slice
    exact ⟨b, off, cap, p, c, rfl, h1, h2, h3, hb⟩
theorem Mods.at2 {w : World} {v : Value} {l : List Md} (h : Mods w v l) {k : Nat} (hk : k < l.length) :
    ∃ b off cap p c, v = .slice (Option.some ⟨b, off, Option.none⟩) l.length cap ∧ w.cell? ⟨b, off + k * 2, Option.none⟩ = Option.some (.int .u8 l[k].c.toNat) ∧
      w.cell? ⟨b, off + k * 2 + 1, Option.none⟩ = Option.some (.slice p l[k].a.length c) ∧ Ints w (.slice p l[k].a.length c) l[k].a ∧ b < w.heap.size ∧ (p = Option.none → l[k].a.length = 0 ∧ c = 0) := by
  cases h with
  | none p cap => simp at hk
  | some b off cap _ _ hb hx =>
    obtain ⟨h1, v, h2, h3, h4⟩ := hx k hk
    obtain ⟨p, c, rfl⟩ := h3.slice
    refine ⟨b, off, cap, p, c, rfl, h1, h2, h3, hb, fun hp => ?_⟩
    rcases h4 with h | ⟨ad, n, c', h⟩
    · simp only [Value.slice.injEq] at h; exact ⟨h.2.1, h.2.2⟩
    · rw [hp] at h; simp at h
end Go.Proofs.YtepoaobjcpgilaaDoor
