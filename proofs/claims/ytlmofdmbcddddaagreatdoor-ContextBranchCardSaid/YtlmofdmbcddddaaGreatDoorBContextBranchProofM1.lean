/-
  Texts of the proof, merged: BWordMath, BWordRead, BWordLoose, BWordBld, BRatKept.
-/
import Derived.Lib.ItoaNum
import Derived.Lib.AtoiAll
import Derived.Lib.IndexLaws
import Derived.Lib.IndexBytes
import Derived.Lib.CutLaws
import Derived.Lib.CountLaws
import Derived.Lib.Split
import Derived.Lib.Join
import Derived.Test.YtlmofdmbcddddaaGreatDoorChecked
import Derived.Test.YtlmofdmbcddddaaGreatDoorShelf
import Derived.WalkKit
import Derived.OwnWalk
import Derived.Lib.Hide
import Derived.Lib.OthersKept
import Derived.Lib.FrozenHead2
import Derived.Shelf.Strings.BuilderF
import Derived.Shelf.Abstract
import Derived.LaidEqlPtr
import Derived.OneCell
import Derived.WalkSmall
namespace Go.Proofs.YtlmofdmbcddddaaGreatDoor
namespace WM
set_option linter.unusedVariables false
set_option linter.unusedSimpArgs false

abbrev Bs := List UInt8
/-- A module: its name and its args. -/
structure Md where
  c : UInt8
  a : List Int
deriving DecidableEq

/-- The bytes that are names. -/
def letB (c : UInt8) : Bool :=
  (c == 43 || c == 45 || c == 38 || c == 94 || c == 124 || c == 33 || c == 91 || c == 93) || (decide (65 ≤ c.toNat) && decide (c.toNat ≤ 90)) || (decide (97 ≤ c.toNat) && decide (c.toNat ≤ 122))
def braB (c : UInt8) : Bool := c == 91 || c == 93
def rngB (l : List Int) : Bool := l.all fun x => decide (-1000000000 ≤ x) && decide (x ≤ 1000000000)
/-- A valid module. -/
def fineB (m : Md) : Bool := letB m.c && decide (m.a.length ≤ 4) && !(braB m.c && decide (0 < m.a.length)) && rngB m.a
theorem rngB_iff {l : List Int} : rngB l = true ↔ ∀ x ∈ l, -1000000000 ≤ x ∧ x ≤ 1000000000 := by simp [rngB]
/-- What a module adds to the open brackets. -/
def dlt (m : Md) : Int := if m.c = 91 then 1 else if m.c = 93 then -1 else 0
def dep (l : List Md) : Int := (l.map dlt).foldr (· + ·) 0
theorem dep_nil : dep [] = 0 := rfl
theorem dep_cons (m : Md) (l : List Md) : dep (m :: l) = dlt m + dep l := rfl
theorem dep_app (a b : List Md) : dep (a ++ b) = dep a + dep b := by
  induction a with
  | nil => rw [dep_nil]; simp
  | cons m a ih => rw [List.cons_append, dep_cons, dep_cons, ih]; omega
theorem dep_snoc {l : List Md} {k : Nat} (h : k < l.length) : dep (l.take (k + 1)) = dep (l.take k) + dlt l[k] := by
  rw [List.take_add_one, List.getElem?_eq_getElem h, dep_app]
  show dep (l.take k) + dep [l[k]] = _
  rw [dep_cons, dep_nil]; omega
theorem dlt_cases (m : Md) : dlt m = 1 ∨ dlt m = -1 ∨ dlt m = 0 := by
  unfold dlt; split
  · simp
  · split <;> simp
/-- The brackets that are open behind each module. -/
def opnL (l : List Md) (k : Nat) : List Int := (List.range k).map fun i => dep (l.take (i + 1))
theorem opnL_length (l : List Md) (k : Nat) : (opnL l k).length = k := by simp [opnL]
theorem opnL_get {l : List Md} {k i : Nat} (h : i < k) : (opnL l k)[i]'(by rw [opnL_length]; exact h) = dep (l.take (i + 1)) := by simp [opnL]
theorem opnL_succ (l : List Md) (k : Nat) : opnL l (k + 1) = opnL l k ++ [dep (l.take (k + 1))] := by simp [opnL, List.range_succ]
/-- No ] comes without a [ that is open, up to a place. -/
def okB (l : List Md) (k : Nat) : Bool := (opnL l k).all fun x => decide (0 ≤ x)
theorem okB_zero (l : List Md) : okB l 0 = true := rfl
theorem okB_succ (l : List Md) (k : Nat) : okB l (k + 1) = (okB l k && decide (0 ≤ dep (l.take (k + 1)))) := by simp [okB, opnL_succ]
theorem okB_iff {l : List Md} {k : Nat} : okB l k = true ↔ ∀ i, i < k → 0 ≤ dep (l.take (i + 1)) := by
  unfold okB opnL; rw [List.all_map, List.all_eq_true]
  simp
theorem okB_mono {l : List Md} {j k : Nat} (h : j ≤ k) (hk : okB l k = true) : okB l j = true := okB_iff.2 fun i hi => okB_iff.1 hk i (by omega)
/-- Check's answer. -/
def chk (l : List Md) : Int := if 2000 < l.length then 4 else if l.all fineB = false then 8 else if (okB l l.length && decide (dep l = 0)) = true then 0 else 28
theorem chk_zero {l : List Md} : chk l = 0 ↔ l.length ≤ 2000 ∧ l.all fineB = true ∧ okB l l.length = true ∧ dep l = 0 := by
  unfold chk
  split
  · simp; omega
  · split
    · rename_i h; simp [h]
    · split
      · rename_i h1 h2 h3
        simp at h3
        simp at h2
        simp [h3]
        exact ⟨by omega, h2⟩
      · rename_i h1 h2 h3
        simp at h3
        simp
        intro _ _ h4; exact h3 h4
theorem chk_many {l : List Md} (h : 2000 < l.length) : chk l = 4 := by unfold chk; rw [if_pos h]
theorem chk_bad {l : List Md} (h : ¬ 2000 < l.length) (h2 : l.all fineB = false) : chk l = 8 := by unfold chk; rw [if_neg h, if_pos h2]
theorem chk_open {l : List Md} (h : ¬ 2000 < l.length) (h2 : l.all fineB = true) (h3 : (okB l l.length && decide (dep l = 0)) = false) : chk l = 28 := by
  unfold chk; rw [if_neg h, if_neg (by rw [h2]; simp), if_neg (by rw [h3]; simp)]
theorem chk_vals (l : List Md) : chk l = 0 ∨ chk l = 4 ∨ chk l = 8 ∨ chk l = 28 := by
  unfold chk; split
  · simp
  · split
    · simp
    · split <;> simp
/-- The greatest number of open brackets. -/
def dmax (l : List Md) (k : Nat) : Int := (opnL l k).foldl max 0
theorem dmax_zero (l : List Md) : dmax l 0 = 0 := rfl
theorem dmax_succ (l : List Md) (k : Nat) : dmax l (k + 1) = max (dmax l k) (dep (l.take (k + 1))) := by simp [dmax, opnL_succ]
theorem dmax_nonneg (l : List Md) (k : Nat) : 0 ≤ dmax l k := by
  induction k with
  | zero => exact Int.le_refl _
  | succ k ih => rw [dmax_succ]; omega
/-- The trunk, up to a place. -/
def trunk (l : List Md) (k : Nat) : List Md := ((List.range k).filter fun i => decide (dep (l.take (i + 1)) = 0) && !((l.getD i ⟨0, []⟩).c == 93)).map fun i => l.getD i ⟨0, []⟩
theorem trunk_zero (l : List Md) : trunk l 0 = [] := rfl
theorem trunk_succ {l : List Md} {k : Nat} (h : k < l.length) : trunk l (k + 1) = if (decide (dep (l.take (k + 1)) = 0) && !(l[k].c == 93)) = true then trunk l k ++ [l[k]] else trunk l k := by
  have e : l.getD k ⟨0, []⟩ = l[k] := by simp [List.getD, h]
  unfold trunk
  rw [List.range_succ, List.filter_append, List.map_append]
  by_cases hc : (decide (dep (l.take (k + 1)) = 0) && !(l[k].c == 93)) = true
  · rw [if_pos hc]
    congr 1
    simp only [List.filter_cons, List.filter_nil, e, hc, if_true, List.map_cons, List.map_nil]
  · rw [if_neg hc]
    simp only [List.filter_cons, List.filter_nil, e, hc, if_false, List.map_nil, List.append_nil]
    simp
theorem trunk_length (l : List Md) (k : Nat) : (trunk l k).length ≤ k := by
  unfold trunk; rw [List.length_map]
  have := List.length_filter_le (fun i => decide (dep (l.take (i + 1)) = 0) && !((l.getD i ⟨0, []⟩).c == 93)) (List.range k)
  rwa [List.length_range] at this
/-- How many modules have a name. -/
def cntB (l : List Md) (c : UInt8) : Nat := l.countP fun m => m.c == c
theorem cntB_app (a b : List Md) (c : UInt8) : cntB (a ++ b) c = cntB a c + cntB b c := List.countP_append
theorem cntB_succ {l : List Md} {k : Nat} (h : k < l.length) (c : UInt8) : cntB (l.take (k + 1)) c = cntB (l.take k) c + (if (l[k].c == c) = true then 1 else 0) := by
  rw [List.take_add_one, List.getElem?_eq_getElem h, cntB_app]
  congr 1
  simp [cntB, List.countP_cons]
/-- A module's text. -/
def argsT : List Int → Bs
  | [] => []
  | x :: l => 44 :: (Lib.itoa x ++ argsT l)
def modT (m : Md) : Bs := match m.a with
  | [] => [m.c]
  | x :: l => m.c :: 40 :: (Lib.itoa x ++ argsT l ++ [41])
def txt (l : List Md) : Bs := l.flatMap modT
theorem txt_app (a b : List Md) : txt (a ++ b) = txt a ++ txt b := by simp [txt]
theorem txt_snoc {l : List Md} {k : Nat} (h : k < l.length) : txt (l.take (k + 1)) = txt (l.take k) ++ modT l[k] := by
  rw [List.take_add_one, List.getElem?_eq_getElem h, txt_app]
  simp [txt]
end WM
end Go.Proofs.YtlmofdmbcddddaaGreatDoor
namespace Go.Proofs.YtlmofdmbcddddaaGreatDoor
namespace WM
set_option linter.unusedVariables false
set_option linter.unusedSimpArgs false

def digP (c : UInt8) : Bool := decide (48 ≤ c.toNat) && decide (c.toNat ≤ 57)
theorem digP_iff {c : UInt8} : digP c = true ↔ 48 ≤ c.toNat ∧ c.toNat ≤ 57 := by simp [digP]
theorem ofNat_dig {k : Nat} (h : k < 10) : (UInt8.ofNat (48 + k)).toNat = 48 + k := by
  rw [UInt8.toNat_ofNat']; omega
theorem dec_digits : ∀ u, ∀ c ∈ Lib.decDigits u, digP c = true := by
  intro u
  induction u using Nat.strongRecOn with
  | _ u ih =>
    intro c hc
    unfold Lib.decDigits at hc
    split at hc
    · rw [List.mem_singleton] at hc; subst hc; rw [digP_iff, ofNat_dig (by omega)]; omega
    · rw [List.mem_append, List.mem_singleton] at hc
      rcases hc with hc | hc
      · exact ih (u / 10) (by omega) c hc
      · subst hc; rw [digP_iff, ofNat_dig (by omega)]; omega
theorem dec_ne (u : Nat) : Lib.decDigits u ≠ [] := by
  unfold Lib.decDigits; split <;> simp
def valF (acc : Nat) (l : Bs) : Nat := l.foldl (fun a c => a * 10 + (c.toNat - 48)) acc
theorem valF_snoc (acc : Nat) (l : Bs) (c : UInt8) : valF acc (l ++ [c]) = valF acc l * 10 + (c.toNat - 48) := by simp [valF, List.foldl_append]
theorem valF_dec : ∀ u, valF 0 (Lib.decDigits u) = u := by
  intro u
  induction u using Nat.strongRecOn with
  | _ u ih =>
    unfold Lib.decDigits
    split
    · simp only [valF, List.foldl_cons, List.foldl_nil]; rw [ofNat_dig (by omega)]; omega
    · rw [valF_snoc, ih (u / 10) (by omega), ofNat_dig (by omega)]; omega
/-- No numeral of more than one digit begins with 0. -/
theorem dec_head : ∀ u, (Lib.decDigits u).head? ≠ some 48 ∨ Lib.decDigits u = [48] := by
  intro u
  induction u using Nat.strongRecOn with
  | _ u ih =>
    unfold Lib.decDigits
    split
    · rename_i h
      by_cases h0 : u = 0
      · subst h0; right; rfl
      · left
        intro e
        have := congrArg (fun o : Option UInt8 => o.map UInt8.toNat) e
        simp only [List.head?_cons, Option.map_some] at this
        rw [ofNat_dig (by omega)] at this
        have h9 : (48 : UInt8).toNat = 48 := rfl
        rw [h9] at this
        have := Option.some.inj this; omega
    · rename_i h
      have hn := dec_ne (u / 10)
      left
      rcases ih (u / 10) (by omega) with h1 | h1
      · intro e; apply h1
        cases hd : Lib.decDigits (u / 10) with
        | nil => exact absurd hd hn
        | cons a l => rw [hd] at e; simpa using e
      · exfalso
        have := valF_dec (u / 10)
        rw [h1] at this
        have h9 : valF 0 [48] = 0 := rfl
        omega
theorem valF_pos {l : Bs} (hd : ∀ c ∈ l, digP c = true) (h : l.head? ≠ some 48) (hn : l ≠ []) : 1 ≤ valF 0 l := by
  cases l with
  | nil => exact absurd rfl hn
  | cons c l =>
    have h1 := digP_iff.1 (hd c (by simp))
    have h2 : c.toNat ≠ 48 := fun e => h (by rw [List.head?_cons]; congr 1; exact UInt8.toNat_inj.1 e)
    have ge : ∀ (l : Bs) (acc : Nat), acc ≤ valF acc l := by
      intro l
      induction l with
      | nil => intro acc; exact Nat.le_refl _
      | cons c l ih => intro acc; exact Nat.le_trans (by omega) (ih (acc * 10 + (c.toNat - 48)))
    have := ge l (0 * 10 + (c.toNat - 48))
    show 1 ≤ valF (0 * 10 + (c.toNat - 48)) l
    omega
/-- Digits without a zero in front are the numeral of their value. -/
theorem dec_valF : ∀ n (l : Bs), l.length = n → (∀ c ∈ l, digP c = true) → l ≠ [] → (l.head? ≠ some 48 ∨ l = [48]) → Lib.decDigits (valF 0 l) = l := by
  intro n
  induction n with
  | zero => intro l hl _ hn; exact absurd (List.length_eq_zero_iff.1 hl) hn
  | succ n ih =>
    intro l hl hd hn hh
    obtain ⟨m, c, rfl⟩ : ∃ m c, l = m ++ [c] := ⟨l.dropLast, l.getLast hn, (List.dropLast_concat_getLast hn).symm⟩
    have hc := digP_iff.1 (hd c (by simp))
    have e48 : UInt8.ofNat (48 + (c.toNat - 48)) = c := UInt8.toNat_inj.1 (by rw [ofNat_dig (by omega)]; omega)
    by_cases hm : m = []
    · subst hm
      show Lib.decDigits (0 * 10 + (c.toNat - 48)) = [c]
      rw [Nat.zero_mul, Nat.zero_add, Lib.decDigits, dif_pos (by omega), e48]
    · have hh2 : m.head? ≠ some 48 := by
        rcases hh with h | h
        · intro e; apply h
          cases m with
          | nil => exact absurd rfl hm
          | cons a m => simpa using e
        · exfalso
          have := congrArg List.length h
          rw [List.length_append] at this
          have h7 : m.length ≠ 0 := fun e => hm (List.length_eq_zero_iff.1 e)
          rw [List.length_singleton, List.length_singleton] at this
          omega
      have hdm : ∀ c ∈ m, digP c = true := fun x hx => hd x (by simp [hx])
      have hp := valF_pos hdm hh2 hm
      rw [valF_snoc, Lib.decDigits, dif_neg (by omega)]
      have e1 : (valF 0 m * 10 + (c.toNat - 48)) / 10 = valF 0 m := by omega
      have e2 : (valF 0 m * 10 + (c.toNat - 48)) % 10 = c.toNat - 48 := by omega
      rw [e1, e2, e48, ih m (by rw [List.length_append] at hl; simpa using hl) hdm hm (.inl hh2)]

/-- Up to n digits in front. -/
def takeD : Nat → Bs → Bs
  | 0, _ => []
  | _ + 1, [] => []
  | n + 1, c :: l => if digP c = true then c :: takeD n l else []
theorem takeD_digits : ∀ n l, ∀ c ∈ takeD n l, digP c = true
  | 0, _, c, h => by simp [takeD] at h
  | n + 1, [], c, h => by simp [takeD] at h
  | n + 1, a :: l, c, h => by
    unfold takeD at h
    split at h
    · rename_i ha
      rw [List.mem_cons] at h
      rcases h with h | h
      · subst h; exact ha
      · exact takeD_digits n l c h
    · simp at h
theorem takeD_app : ∀ n l, takeD n l ++ l.drop (takeD n l).length = l
  | 0, _ => by simp [takeD]
  | n + 1, [] => by simp [takeD]
  | n + 1, a :: l => by
    unfold takeD
    split
    · simp [takeD_app n l]
    · simp
theorem takeD_all : ∀ n (d r : Bs), (∀ c ∈ d, digP c = true) → d.length ≤ n → (∀ c t, r = c :: t → digP c = false) → takeD n (d ++ r) = d
  | 0, d, r, _, hl, _ => by
    have : d = [] := List.length_eq_zero_iff.1 (by omega)
    subst this; rfl
  | n + 1, [], [], _, _, _ => rfl
  | n + 1, [], c :: t, _, _, hr => by
    have := hr c t rfl
    simp [takeD, this]
  | n + 1, a :: d, r, hd, hl, hr => by
    have h1 := hd a (by simp)
    simp only [List.cons_append, takeD, h1, if_true]
    rw [takeD_all n d r (fun c hc => hd c (by simp [hc])) (by simpa using hl) hr]
/-- A number in front: its value and what is left. -/
def signR : Bs → Bool × Bs
  | [] => (false, [])
  | c :: t => if c = 45 then (true, t) else (false, c :: t)
def numB (g : Bool) (d : Bs) : Bool := !d.isEmpty && !(d.head? == some 48 && decide (1 < d.length)) && !(g && decide (valF 0 d = 0))
def numI (g : Bool) (d : Bs) : Int := if g = true then -(valF 0 d : Int) else valF 0 d
def numR (s : Bs) : Option (Int × Bs) :=
  if numB (signR s).1 (takeD 10 (signR s).2) = true then some (numI (signR s).1 (takeD 10 (signR s).2), (signR s).2.drop (takeD 10 (signR s).2).length) else none
theorem signR_app (s : Bs) : (if (signR s).1 = true then [45] else []) ++ (signR s).2 = s := by
  cases s with
  | nil => rfl
  | cons c t =>
    by_cases h : c = 45
    · subst h; rfl
    · have e : signR (c :: t) = (false, c :: t) := by simp [signR, h]
      rw [e]; rfl
theorem num_itoa {g : Bool} {d : Bs} (hd : ∀ c ∈ d, digP c = true) (h : numB g d = true) : Lib.itoa (numI g d) = (if g = true then [45] else []) ++ d := by
  unfold numB at h
  simp only [Bool.and_eq_true, Bool.not_eq_true', List.isEmpty_eq_false_iff] at h
  obtain ⟨⟨h1, h2⟩, h3⟩ := h
  have hh : d.head? ≠ some 48 ∨ d = [48] := by
    by_cases e : d.head? = some 48
    · right
      rw [e] at h2
      simp at h2
      cases d with
      | nil => exact absurd rfl h1
      | cons a l =>
        simp at e; subst e
        simp at h2; simp [h2]
    · exact .inl e
  have hv := dec_valF _ d rfl hd h1 hh
  cases g with
  | false =>
    show Lib.itoa (valF 0 d : Int) = [] ++ d
    unfold Lib.itoa
    rw [if_neg (by omega), Int.toNat_natCast, hv]; rfl
  | true =>
    have hp : valF 0 d ≠ 0 := by simpa using h3
    show Lib.itoa (-(valF 0 d : Int)) = [45] ++ d
    unfold Lib.itoa
    rw [if_pos (by omega), show (-(valF 0 d : Int)).natAbs = valF 0 d by omega, hv]; rfl
theorem numR_back {s r : Bs} {n : Int} (h : numR s = some (n, r)) : s = Lib.itoa n ++ r := by
  unfold numR at h
  split at h
  · rename_i hb
    simp only [Option.some.injEq, Prod.mk.injEq] at h
    obtain ⟨rfl, rfl⟩ := h
    rw [num_itoa (takeD_digits _ _) hb, List.append_assoc, takeD_app, signR_app]
  · exact absurd h (by simp)
theorem dec_length {u : Nat} (h : u ≤ 9999999999) : (Lib.decDigits u).length ≤ 10 := by
  rw [Lib.decDigits_length]
  have h1 := Lib.lt_pow_nDigits u
  rcases Nat.lt_or_ge 10 (Lib.nDigits u) with h2 | h2
  · exfalso
    have hpow : ∀ k u, k < Lib.nDigits u → 10 ^ k ≤ u ∨ k = 0 := by
      intro k
      induction k with
      | zero => intro u _; right; rfl
      | succ k ih =>
        intro u hu
        left
        by_cases hs : u < 10
        · rw [Lib.nDigits_small hs] at hu; omega
        · rw [Lib.nDigits_big hs] at hu
          rcases ih (u / 10) (by omega) with h | h
          · rw [Nat.pow_succ]; omega
          · subst h; simp; omega
    rcases hpow 10 u h2 with h3 | h3
    · have : (10 : Nat) ^ 10 = 10000000000 := by decide
      omega
    · omega
  · exact h2
theorem numR_itoa {n : Int} (hn : -1000000000 ≤ n ∧ n ≤ 1000000000) {r : Bs} (hr : ∀ c t, r = c :: t → digP c = false) : numR (Lib.itoa n ++ r) = some (n, r) := by
  have hdd := dec_digits n.natAbs
  have hl := dec_length (u := n.natAbs) (by omega)
  have ht := takeD_all 10 (Lib.decDigits n.natAbs) r hdd hl hr
  have key : ∀ g : Bool, (g = true → n < 0) → (g = false → 0 ≤ n) → signR (Lib.itoa n ++ r) = (g, Lib.decDigits n.natAbs ++ r) → numR (Lib.itoa n ++ r) = some (n, r) := by
    intro g h1 h2 hs
    unfold numR
    rw [hs]
    simp only [ht]
    have hb : numB g (Lib.decDigits n.natAbs) = true := by
      unfold numB
      simp only [Bool.and_eq_true, Bool.not_eq_true', List.isEmpty_eq_false_iff]
      refine ⟨⟨dec_ne _, ?_⟩, ?_⟩
      · rcases dec_head n.natAbs with h | h
        · simp [h]
        · rw [h]; rfl
      · cases g with
        | false => rfl
        | true =>
          have := h1 rfl
          rw [valF_dec]; simp; omega
    rw [if_pos hb]
    have hi : numI g (Lib.decDigits n.natAbs) = n := by
      unfold numI; rw [valF_dec]
      cases g with
      | false => have := h2 rfl; simp; omega
      | true => have := h1 rfl; simp; omega
    rw [hi, List.drop_left']
    rfl
  by_cases h : n < 0
  · refine key true (fun _ => h) (fun e => absurd e (by simp)) ?_
    unfold Lib.itoa; rw [if_pos h]; rfl
  · refine key false (fun e => absurd e (by simp)) (fun _ => by omega) ?_
    unfold Lib.itoa; rw [if_neg h, show n.toNat = n.natAbs by omega]
    cases hd : Lib.decDigits n.natAbs with
    | nil => exact absurd hd (dec_ne _)
    | cons a l =>
      have := digP_iff.1 (hdd a (by rw [hd]; simp))
      have h45 : a ≠ 45 := fun e => by rw [e] at this; simp at this
      simp [signR, h45]
/-! ### Args, modules, words -/
/-- Does an arg follow? -/
def moreB (a : List Int) (c : UInt8) : Bool := (c == 40 && a.isEmpty) || (c == 44 && !a.isEmpty)
def argsR : Nat → List Int → Bs → Option (List Int × Bs)
  | 0, a, s => some (a, s)
  | _ + 1, a, [] => some (a, [])
  | k + 1, a, c :: t => if moreB a c = true then (match numR t with
      | none => none
      | some (n, r) => argsR k (a ++ [n]) r) else some (a, c :: t)
def modR : Bs → Option (Md × Bs)
  | [] => none
  | c :: t => match argsR t.length [] t with
    | none => none
    | some ([], r) => some (⟨c, []⟩, r)
    | some (x :: a, 41 :: r) => some (⟨c, x :: a⟩, r)
    | some (_ :: _, _) => none
def wordR : Nat → Bs → Option (List Md)
  | _, [] => some []
  | 0, _ :: _ => none
  | k + 1, c :: t => match modR (c :: t) with
    | none => none
    | some (m, r) => (wordR k r).map (m :: ·)
/-- The text of args that are written in front of more. -/
def argT (a : List Int) : Bs := match a with
  | [] => []
  | x :: l => 40 :: (Lib.itoa x ++ argsT l)
theorem argsT_snoc (l : List Int) (n : Int) : argsT (l ++ [n]) = argsT l ++ 44 :: Lib.itoa n := by
  induction l with
  | nil => simp [argsT]
  | cons x l ih => simp [argsT, ih]
theorem argT_snoc (a : List Int) (n : Int) : argT (a ++ [n]) = argT a ++ (if a.isEmpty = true then 40 else 44) :: Lib.itoa n := by
  cases a with
  | nil => simp [argT, argsT]
  | cons x l => simp [argT, argsT_snoc]
theorem moreB_byte {a : List Int} {c : UInt8} (h : moreB a c = true) : c = (if a.isEmpty = true then 40 else 44) := by
  unfold moreB at h
  cases ha : a.isEmpty
  · rw [ha] at h; simp at h; simp [h]
  · rw [ha] at h; simp at h; simp [h]
theorem argsR_back : ∀ k a s b r, argsR k a s = some (b, r) → argT a ++ s = argT b ++ r
  | 0, a, s, b, r, h => by simp [argsR] at h; rw [h.1, h.2]
  | k + 1, a, [], b, r, h => by simp [argsR] at h; rw [h.1, h.2]
  | k + 1, a, c :: t, b, r, h => by
    unfold argsR at h
    split at h
    · rename_i hm
      split at h
      · exact absurd h (by simp)
      · rename_i n r' hn
        have h1 := argsR_back k _ _ _ _ h
        rw [argT_snoc] at h1
        rw [numR_back hn, moreB_byte hm, ← h1]; simp
    · simp at h; rw [h.1, h.2]
theorem modT_eq (m : Md) : modT m = m.c :: (argT m.a ++ if m.a.isEmpty = true then [] else [41]) := by
  obtain ⟨c, a⟩ := m
  cases a with
  | nil => rfl
  | cons x l => simp [modT, argT]
theorem modR_back {s r : Bs} {m : Md} (h : modR s = some (m, r)) : s = modT m ++ r := by
  cases s with
  | nil => exact absurd h (by simp [modR])
  | cons c t =>
    rw [modR] at h
    split at h
    · exact absurd h (by simp)
    · rename_i r' ha
      have hb : argT [] ++ t = argT [] ++ r' := argsR_back _ _ _ _ _ ha
      have hb' : t = r' := hb
      simp only [Option.some.injEq, Prod.mk.injEq] at h
      rw [hb', ← h.1, ← h.2]; rfl
    · rename_i x a r' ha
      have hb : argT [] ++ t = argT (x :: a) ++ 41 :: r' := argsR_back _ _ _ _ _ ha
      have hb' : t = argT (x :: a) ++ 41 :: r' := hb
      simp only [Option.some.injEq, Prod.mk.injEq] at h
      rw [← h.1, ← h.2, modT_eq, hb']
      simp
    · exact absurd h (by simp)
theorem modT_pos (m : Md) : 1 ≤ (modT m).length := by rw [modT_eq]; simp
theorem wordR_back : ∀ k s w, wordR k s = some w → txt w = s
  | k, [], w, h => by
    have : w = [] := by cases k <;> simp [wordR] at h <;> exact h
    subst this; rfl
  | 0, _ :: _, w, h => by simp [wordR] at h
  | k + 1, c :: t, w, h => by
    unfold wordR at h
    split at h
    · exact absurd h (by simp)
    · rename_i m r hm
      rw [Option.map_eq_some_iff] at h
      obtain ⟨v, hv, rfl⟩ := h
      rw [modR_back hm, ← wordR_back k r v hv]; rfl
/-- What does not go on with args. -/
def stopB (s : Bs) : Prop := ∀ c t, s = c :: t → c ≠ 40 ∧ c ≠ 44 ∧ digP c = false
theorem itoa_ne (n : Int) : Lib.itoa n ≠ [] := by
  unfold Lib.itoa; split
  · simp
  · exact dec_ne _
theorem argsR_some : ∀ k (a l : List Int) (r : Bs), (∀ x ∈ l, -1000000000 ≤ x ∧ x ≤ 1000000000) → a ≠ [] → (∀ c t, r = c :: t → c ≠ 44 ∧ digP c = false) → l.length ≤ k → (k = l.length → r = [] ∨ ∃ c t, r = c :: t) →
    argsR k a (argsT l ++ r) = some (a ++ l, r)
  | 0, a, l, r, _, _, _, hk, _ => by
    have : l = [] := List.length_eq_zero_iff.1 (by omega)
    subst this; simp [argsR, argsT]
  | k + 1, a, [], r, _, ha, hr, _, _ => by
    cases r with
    | nil => simp [argsR, argsT]
    | cons c t =>
      have h := hr c t rfl
      have : moreB a c = false := by
        unfold moreB
        have h1 : a.isEmpty = false := by cases a; exact absurd rfl ha; rfl
        simp [h1, h.1]
      simp [argsR, argsT, this]
  | k + 1, a, x :: l, r, hl, ha, hr, hk, _ => by
    have h1 : a.isEmpty = false := by cases a; exact absurd rfl ha; rfl
    have hm : moreB a 44 = true := by simp [moreB, h1]
    have hnd : ∀ c t, argsT l ++ r = c :: t → digP c = false := by
      intro c t e
      cases l with
      | nil => exact (hr c t (by simpa [argsT] using e)).2
      | cons y l => simp [argsT] at e; rw [← e.1]; rfl
    have hn := numR_itoa (hl x (by simp)) (r := argsT l ++ r) hnd
    show argsR (k + 1) a (44 :: (Lib.itoa x ++ argsT l) ++ r) = _
    rw [List.cons_append, List.append_assoc]
    unfold argsR
    rw [if_pos hm, hn]
    show argsR k (a ++ [x]) (argsT l ++ r) = _
    rw [argsR_some k (a ++ [x]) l r (fun y hy => hl y (by simp [hy])) (by simp) hr (by simpa using hk) (fun _ => by cases r; exact .inl rfl; exact .inr ⟨_, _, rfl⟩)]
    simp
theorem modR_some {m : Md} (hm : fineB m = true) {r : Bs} (hr : stopB r) : modR (modT m ++ r) = some (m, r) := by
  obtain ⟨c, a⟩ := m
  have hrg : ∀ x ∈ a, -1000000000 ≤ x ∧ x ≤ 1000000000 := by
    have : rngB a = true := by
      unfold fineB at hm; simp only [Bool.and_eq_true] at hm; exact hm.2
    exact rngB_iff.1 this
  cases a with
  | nil =>
    show modR (c :: r) = _
    have : argsR r.length [] r = some ([], r) := by
      cases r with
      | nil => rfl
      | cons b t =>
        have h := hr b t rfl
        have hb : moreB [] b = false := by simp [moreB, h.1]
        simp [argsR, hb]
    simp [modR, this]
  | cons x l =>
    have hn := numR_itoa (hrg x (by simp)) (r := argsT l ++ (41 :: r)) (by
      intro b t e
      cases l with
      | nil => simp [argsT] at e; rw [← e.1]; rfl
      | cons y l => simp [argsT] at e; rw [← e.1]; rfl)
    have hgo := argsR_some ((Lib.itoa x ++ argsT l ++ (41 :: r)).length) [x] l (41 :: r) (fun y hy => hrg y (by simp [hy])) (by simp) (by
      intro b t e; simp at e; rw [← e.1]; exact ⟨by decide, rfl⟩) (by
      have : ∀ l : List Int, l.length ≤ (argsT l).length := by
        intro l
        induction l with
        | nil => simp [argsT]
        | cons y l ih => simp [argsT]; omega
      have := this l
      simp; omega) (fun _ => .inr ⟨_, _, rfl⟩)
    show modR ((c :: 40 :: (Lib.itoa x ++ argsT l ++ [41])) ++ r) = _
    have e1 : (c :: 40 :: (Lib.itoa x ++ argsT l ++ [41])) ++ r = c :: 40 :: (Lib.itoa x ++ (argsT l ++ (41 :: r))) := by simp
    rw [e1]
    have e2 : argsR (40 :: (Lib.itoa x ++ (argsT l ++ (41 :: r)))).length [] (40 :: (Lib.itoa x ++ (argsT l ++ (41 :: r)))) = some (x :: l, 41 :: r) := by
      have e3 : (40 :: (Lib.itoa x ++ (argsT l ++ (41 :: r)))).length = (Lib.itoa x ++ argsT l ++ (41 :: r)).length + 1 := by simp
      rw [e3]
      unfold argsR
      rw [if_pos (by rfl), hn]
      exact hgo
    simp only [modR, e2]
theorem letB_stop {c : UInt8} (h : letB c = true) : c ≠ 40 ∧ c ≠ 44 ∧ digP c = false := by
  have all : ∀ n : Fin 256, letB (UInt8.ofNat n.1) = true → UInt8.ofNat n.1 ≠ 40 ∧ UInt8.ofNat n.1 ≠ 44 ∧ digP (UInt8.ofNat n.1) = false := by decide +kernel
  have e : UInt8.ofNat c.toNat = c := UInt8.toNat_inj.1 (by rw [UInt8.toNat_ofNat']; have := c.toNat_lt; omega)
  have := all ⟨c.toNat, c.toNat_lt⟩
  rw [e] at this
  exact this h
theorem fine_let {m : Md} (h : fineB m = true) : letB m.c = true := by
  unfold fineB at h; simp only [Bool.and_eq_true] at h; exact h.1.1.1
theorem stop_txt {l : List Md} (h : ∀ m ∈ l, fineB m = true) : stopB (txt l) := by
  intro c t e
  cases l with
  | nil => simp [txt] at e
  | cons m l =>
    rw [show txt (m :: l) = modT m ++ txt l from rfl, modT_eq] at e
    simp at e
    rw [← e.1]
    exact letB_stop (fine_let (h m (by simp)))
theorem wordR_some : ∀ k (l : List Md), (∀ m ∈ l, fineB m = true) → (txt l).length ≤ k → wordR k (txt l) = some l
  | k, [], _, _ => by cases k <;> rfl
  | 0, m :: l, _, hk => by
    have := modT_pos m
    rw [show txt (m :: l) = modT m ++ txt l from rfl, List.length_append] at hk; omega
  | k + 1, m :: l, h, hk => by
    have hs := stop_txt (l := l) fun x hx => h x (by simp [hx])
    have hm := modR_some (h m (by simp)) hs
    have hp := modT_pos m
    rw [show txt (m :: l) = modT m ++ txt l from rfl] at hk ⊢
    rw [List.length_append] at hk
    have ih := wordR_some k l (fun x hx => h x (by simp [hx])) (by omega)
    cases hc : modT m ++ txt l with
    | nil => rw [List.append_eq_nil_iff] at hc; rw [hc.1] at hp; simp at hp
    | cons c t =>
      rw [hc] at hm
      unfold wordR
      rw [hm]
      show (wordR k (txt l)).map (m :: ·) = _
      rw [ih]; rfl
/-- The valid word with a text. -/
def prs (s : Bs) : Option (List Md) := (wordR s.length s).bind fun w => if chk w = 0 then some w else none
theorem prs_iff {s : Bs} {w : List Md} : prs s = some w ↔ chk w = 0 ∧ txt w = s := by
  unfold prs
  rw [Option.bind_eq_some_iff]
  constructor
  · rintro ⟨v, hv, h⟩
    split at h
    · rename_i hc
      simp at h; subst h
      exact ⟨hc, wordR_back _ _ _ hv⟩
    · exact absurd h (by simp)
  · rintro ⟨hc, rfl⟩
    have hf : ∀ m ∈ w, fineB m = true := by
      have := (chk_zero.1 hc).2.1
      simpa using this
    exact ⟨w, wordR_some _ w hf (Nat.le_refl _), by rw [if_pos hc]⟩
end WM
end Go.Proofs.YtlmofdmbcddddaaGreatDoor
namespace Go.Proofs.YtlmofdmbcddddaaGreatDoor
namespace WM
set_option linter.unusedVariables false
set_option linter.unusedSimpArgs false

/-- The pieces between commas. -/
def pcs : Bs → List Bs
  | [] => [[]]
  | c :: t => if c = 44 then [] :: pcs t else match pcs t with
    | p :: ps => (c :: p) :: ps
    | [] => [[c]]
theorem pcs_ne (s : Bs) : pcs s ≠ [] := by
  cases s with
  | nil => simp [pcs]
  | cons c t =>
    unfold pcs; split
    · simp
    · split <;> simp
theorem pcs_no {s : Bs} (h : ∀ c ∈ s, c ≠ 44) : pcs s = [s] := by
  induction s with
  | nil => rfl
  | cons c t ih =>
    have := ih fun x hx => h x (by simp [hx])
    simp [pcs, h c (by simp), this]
theorem pcs_app {p r : Bs} (h : ∀ c ∈ p, c ≠ 44) : pcs (p ++ 44 :: r) = p :: pcs r := by
  induction p with
  | nil => simp [pcs]
  | cons c t ih =>
    have := ih fun x hx => h x (by simp [hx])
    simp [pcs, h c (by simp), this]
theorem pcs_len (s : Bs) : (pcs s).length ≤ s.length + 1 := by
  induction s with
  | nil => simp [pcs]
  | cons c t ih =>
    unfold pcs; split
    · simp; omega
    · split
      · rename_i p ps e; rw [e] at ih; simp at ih ⊢; omega
      · simp
theorem idx_app {p r : Bs} {c : UInt8} (h : ∀ x ∈ p, x ≠ c) : Lib.index (p ++ c :: r) [c] = (p.length : Int) := by
  rw [Lib.index_one]
  induction p with
  | nil => simp [Lib.indexByte]
  | cons a t ih =>
    have h1 : (a == c) = false := beq_eq_false_iff_ne.2 (h a (by simp))
    have h2 := ih fun x hx => h x (by simp [hx])
    rw [List.cons_append, Lib.indexByte, h1, h2]
    have h3 : ((t.length : Int) == -1) = false := by rw [beq_eq_false_iff_ne]; omega
    simp [h3]
theorem idx_no {p : Bs} {c : UInt8} (h : ∀ x ∈ p, x ≠ c) : Lib.index p [c] = -1 := by
  rw [Lib.index_one]
  induction p with
  | nil => rfl
  | cons a t ih =>
    have h1 : (a == c) = false := beq_eq_false_iff_ne.2 (h a (by simp))
    have h2 := ih fun x hx => h x (by simp [hx])
    simp [Lib.indexByte, h1, h2]
theorem cut_app {p r : Bs} {c : UInt8} (h : ∀ x ∈ p, x ≠ c) : Lib.cut (p ++ c :: r) [c] = (p, r, true) := by
  unfold Lib.cut
  rw [idx_app h, if_pos (by omega)]
  simp
theorem cut_rest (s : Bs) (c : UInt8) : (Lib.cut s [c]).2.1.length ≤ s.length := by
  unfold Lib.cut; split
  · simp
  · simp
theorem cut_len (s : Bs) (c : UInt8) : (Lib.cut s [c]).1.length ≤ s.length := by
  unfold Lib.cut; split
  · simp; omega
  · simp
/-- A number out of a piece, whatever it holds. -/
def atoiV (l : Bs) : Int := match Lib.atoiAll l with
  | .ok v => v
  | .syntax => 0
  | .range => Lib.atoiSat l
def looseA (s : Bs) : List Int := (pcs s).map atoiV
/-- Names, with args where a parenthesis follows. -/
def looseM : Bs → List Md
  | [] => []
  | c :: t => if t.head? = some 40 then ⟨c, looseA (Lib.cut t.tail [41]).1⟩ :: looseM (Lib.cut t.tail [41]).2.1 else ⟨c, []⟩ :: looseM t
termination_by s => s.length
decreasing_by
  · have h1 := cut_rest t.tail 41
    have h2 : t.tail.length ≤ t.length := by simp
    simp only [List.length_cons]; omega
  · simp
theorem looseM_nil : looseM [] = [] := by rw [looseM]
theorem looseM_arg {c : UInt8} {t : Bs} (h : t.head? = some 40) : looseM (c :: t) = ⟨c, looseA (Lib.cut t.tail [41]).1⟩ :: looseM (Lib.cut t.tail [41]).2.1 := by rw [looseM, if_pos h]
theorem looseM_bare {c : UInt8} {t : Bs} (h : t.head? ≠ some 40) : looseM (c :: t) = ⟨c, []⟩ :: looseM t := by rw [looseM, if_neg h]
theorem itoa_bytes (n : Int) : ∀ c ∈ Lib.itoa n, c = 45 ∨ digP c = true := by
  intro c hc
  unfold Lib.itoa at hc
  split at hc
  · rcases List.mem_cons.1 hc with h | h
    · exact .inl h
    · exact .inr (dec_digits _ c h)
  · exact .inr (dec_digits _ c hc)
theorem dig_ne {c : UInt8} (h : c = 45 ∨ digP c = true) : c ≠ 44 ∧ c ≠ 41 ∧ c ≠ 40 := by
  rcases h with rfl | h
  · decide
  · have := digP_iff.1 h
    refine ⟨?_, ?_, ?_⟩ <;> (intro e; rw [e] at this; simp at this)
theorem argsT_bytes (l : List Int) : ∀ c ∈ argsT l, c ≠ 41 := by
  induction l with
  | nil => simp [argsT]
  | cons x l ih =>
    intro c hc
    simp only [argsT, List.mem_cons, List.mem_append] at hc
    rcases hc with rfl | h | h
    · decide
    · exact (dig_ne (itoa_bytes x c h)).2.1
    · exact ih c h
theorem pcs_args : ∀ (l : List Int) (x : Int), pcs (Lib.itoa x ++ argsT l) = Lib.itoa x :: l.map Lib.itoa
  | [], x => by
    rw [argsT, List.append_nil, pcs_no fun c hc => (dig_ne (itoa_bytes x c hc)).1]; rfl
  | y :: l, x => by
    rw [argsT, pcs_app fun c hc => (dig_ne (itoa_bytes x c hc)).1, pcs_args l y]; rfl
theorem valF_ge : ∀ (l : Bs) (acc : Nat), acc ≤ valF acc l
  | [], acc => Nat.le_refl _
  | c :: l, acc => Nat.le_trans (by omega) (valF_ge l (acc * 10 + (c.toNat - 48)))
theorem parse_dig : ∀ (l : Bs) (acc : Nat), (∀ c ∈ l, digP c = true) → valF acc l ≤ 1000000000 → Lib.parseUint10 acc l = .ok (valF acc l)
  | [], acc, _, _ => rfl
  | c :: l, acc, hd, hv => by
    have h1 := digP_iff.1 (hd c (by simp))
    have h2 : acc * 10 + (c.toNat - 48) ≤ 1000000000 := Nat.le_trans (valF_ge l _) hv
    rw [Lib.parseUint10, if_pos h1, if_neg (by omega), if_neg (by omega)]
    exact parse_dig l _ (fun x hx => hd x (by simp [hx])) hv
theorem atoiV_itoa {n : Int} (h : -1000000000 ≤ n ∧ n ≤ 1000000000) : atoiV (Lib.itoa n) = n := by
  have hp := parse_dig (Lib.decDigits n.natAbs) 0 (dec_digits _) (by rw [valF_dec]; omega)
  rw [valF_dec] at hp
  have hm : Lib.parseMag (Lib.decDigits n.natAbs) = .ok n.natAbs := by unfold Lib.parseMag; rw [if_neg (dec_ne _)]; exact hp
  unfold atoiV
  have key : Lib.atoiAll (Lib.itoa n) = .ok n := by
    by_cases hn : n < 0
    · have e : Lib.itoa n = 45 :: Lib.decDigits n.natAbs := by unfold Lib.itoa; rw [if_pos hn]
      rw [e]
      unfold Lib.atoiAll
      have h45 : (45 : UInt8).toNat = 45 := rfl
      simp only [h45, or_true, if_true, hm]
      rw [if_neg (by simp), if_neg (by simp; omega)]
      congr 1; omega
    · have e : Lib.itoa n = Lib.decDigits n.natAbs := by unfold Lib.itoa; rw [if_neg hn, show n.toNat = n.natAbs by omega]
      rw [e]
      cases hd : Lib.decDigits n.natAbs with
      | nil => exact absurd hd (dec_ne _)
      | cons c l =>
        have hc := digP_iff.1 (dec_digits n.natAbs c (by rw [hd]; simp))
        rw [hd] at hm
        unfold Lib.atoiAll
        have h1 : ¬ (c.toNat = 43 ∨ c.toNat = 45) := by omega
        have h2 : ¬ c.toNat = 45 := by omega
        have h0 : ¬ c.toNat = 43 := by omega
        simp only [h0, h2, or_self, if_false]
        rw [hm]
        have h3 : ¬ (9223372036854775808 ≤ n.natAbs) := by omega
        simp [h3]; omega
  rw [key]
theorem looseA_args {a : List Int} {x : Int} (h : ∀ y ∈ x :: a, -1000000000 ≤ y ∧ y ≤ 1000000000) : looseA (Lib.itoa x ++ argsT a) = x :: a := by
  unfold looseA
  rw [pcs_args, List.map_cons, atoiV_itoa (h x (by simp)), List.map_map]
  congr 1
  have : a.map (atoiV ∘ Lib.itoa) = a.map id := List.map_congr_left fun y hy => atoiV_itoa (h y (by simp [hy]))
  rw [this, List.map_id]
theorem loose_txt : ∀ (l : List Md), (∀ m ∈ l, fineB m = true) → looseM (txt l) = l
  | [], _ => looseM_nil
  | m :: l, h => by
    have ih := loose_txt l fun x hx => h x (by simp [hx])
    have hs := stop_txt (l := l) fun x hx => h x (by simp [hx])
    have hm := h m (by simp)
    have hrg : ∀ x ∈ m.a, -1000000000 ≤ x ∧ x ≤ 1000000000 := by
      have : rngB m.a = true := by
        unfold fineB at hm; simp only [Bool.and_eq_true] at hm; exact hm.2
      exact rngB_iff.1 this
    obtain ⟨c, a⟩ := m
    rw [show txt (⟨c, a⟩ :: l) = modT ⟨c, a⟩ ++ txt l from rfl]
    cases a with
    | nil =>
      show looseM (c :: txt l) = _
      rw [looseM_bare, ih]
      intro e
      cases ht : txt l with
      | nil => rw [ht] at e; simp at e
      | cons d t =>
        rw [ht] at e
        simp at e
        exact (hs d t ht).1 e
    | cons x a =>
      have e1 : modT ⟨c, x :: a⟩ ++ txt l = c :: 40 :: ((Lib.itoa x ++ argsT a) ++ 41 :: txt l) := by simp [modT]
      rw [e1, looseM_arg rfl]
      have hno : ∀ y ∈ Lib.itoa x ++ argsT a, y ≠ 41 := by
        intro y hy
        rcases List.mem_append.1 hy with h | h
        · exact (dig_ne (itoa_bytes x y h)).2.1
        · exact argsT_bytes a y h
      rw [List.tail_cons, cut_app hno]
      show (⟨c, looseA (Lib.itoa x ++ argsT a)⟩ : Md) :: looseM (txt l) = _
      rw [ih, looseA_args hrg]
theorem loose_prs {s : Bs} {w : List Md} (h : prs s = some w) : looseM s = w := by
  obtain ⟨h1, rfl⟩ := prs_iff.1 h
  exact loose_txt w (by have := (chk_zero.1 h1).2.1; simpa using this)
theorem prs_no {s : Bs} (h : prs s = none) : ¬ (chk (looseM s) = 0 ∧ txt (looseM s) = s) := fun e => by
  rw [prs_iff.2 e] at h; simp at h
theorem join_args (x : Int) (l : List Int) : Lib.join ((x :: l).map Lib.itoa) [44] = Lib.itoa x ++ argsT l := by
  rw [List.map_cons, Lib.join_cons]
  congr 1
  unfold Lib.joinTail
  induction l with
  | nil => rfl
  | cons y l ih =>
    rw [List.map_cons, List.map_cons, List.flatten_cons, ih]
    simp [argsT]
theorem itoa_len (n : Int) (h : -1000000000 ≤ n ∧ n ≤ 1000000000) : (Lib.itoa n).length ≤ 11 := by
  unfold Lib.itoa
  have := dec_length (u := n.natAbs) (by omega)
  have := dec_length (u := n.toNat) (by omega)
  split
  · simp; omega
  · omega
theorem argsT_len (l : List Int) (h : ∀ x ∈ l, -1000000000 ≤ x ∧ x ≤ 1000000000) : (argsT l).length ≤ 12 * l.length := by
  induction l with
  | nil => simp [argsT]
  | cons x l ih =>
    have := itoa_len x (h x (by simp))
    have := ih fun y hy => h y (by simp [hy])
    simp [argsT]; omega
theorem modT_len {m : Md} (h : fineB m = true) : (modT m).length ≤ 60 := by
  unfold fineB at h
  simp only [Bool.and_eq_true, decide_eq_true_eq] at h
  obtain ⟨⟨⟨h1, h2⟩, h3⟩, h4⟩ := h
  have hr := rngB_iff.1 h4
  obtain ⟨c, a⟩ := m
  cases a with
  | nil => simp [modT]
  | cons x l =>
    have := itoa_len x (hr x (by simp))
    have := argsT_len l fun y hy => hr y (by simp [hy])
    simp at h2
    simp [modT]; omega
theorem txt_len (l : List Md) (h : ∀ m ∈ l, fineB m = true) : (txt l).length ≤ 60 * l.length := by
  induction l with
  | nil => simp [txt]
  | cons m l ih =>
    have h1 := modT_len (h m (by simp))
    have h2 := ih fun x hx => h x (by simp [hx])
    rw [show txt (m :: l) = modT m ++ txt l from rfl, List.length_append, List.length_cons]; omega
/-- What strings.Split hands back at a comma. -/
theorem splitB_pcs (sep : ByteArray) (hsep : sep.data.toList = [44]) : ∀ (n : Nat) (s : ByteArray), s.size ≤ n → (Lib.splitB sep 0 (Lib.countB s sep) s).map (·.data.toList) = pcs s.data.toList := by
  have hs1 : sep.size = 1 := by
    have := congrArg List.length hsep
    simpa using this
  intro n
  induction n with
  | zero =>
    intro s hs
    have h0 : s.data.toList = [] := by
      apply List.length_eq_zero_iff.1
      simpa using hs
    have hi : Lib.indexB s sep = -1 := by
      unfold Lib.indexB; rw [hsep, h0]; rfl
    rw [Lib.countB_miss s sep hi, Lib.splitB_zero, h0]
    simp [pcs, h0]
  | succ n ih =>
    intro s hs
    rcases Lib.indexB_cases s sep with hi | ⟨i, hi, hle⟩
    · rw [Lib.countB_miss s sep hi, Lib.splitB_zero, List.map_cons, List.map_nil]
      have hno : ∀ c ∈ s.data.toList, c ≠ 44 := by
        unfold Lib.indexB at hi
        rw [hsep, Lib.index_one] at hi
        intro c hc e
        subst e
        obtain ⟨k, hk, e⟩ := List.mem_iff_getElem.1 hc
        have := Lib.indexByte_none hi k
        rw [List.getElem?_eq_getElem hk, e] at this
        exact this rfl
      rw [pcs_no hno]
    · rw [Lib.countB_hit s sep i (by omega) hi, Nat.add_comm, Lib.splitB_hit sep 0 _ s i hi, List.map_cons, ih _ (by rw [ByteArray.size_extract]; omega)]
      have h1 : Lib.indexByte s.data.toList 44 = (i : Int) := by
        unfold Lib.indexB at hi
        rwa [hsep, Lib.index_one] at hi
      obtain ⟨h2, h3⟩ := Lib.indexByte_some h1
      have e1 : (s.extract 0 (i + 0)).data.toList = s.data.toList.take i := by
        rw [ByteArray.data_extract, Array.toList_extract]; simp
      have e2 : (s.extract (i + sep.size) s.size).data.toList = s.data.toList.drop (i + 1) := by
        rw [ByteArray.data_extract, Array.toList_extract, hs1]
        rw [List.extract_eq_take_drop]
        apply List.take_of_length_le
        simp
      have hil : i < s.data.toList.length := by
        rcases Nat.lt_or_ge i s.data.toList.length with h | h
        · exact h
        · rw [List.getElem?_eq_none h] at h2; simp at h2
      have e3 : s.data.toList = s.data.toList.take i ++ 44 :: s.data.toList.drop (i + 1) := by
        have h4 : s.data.toList[i] = 44 := by rw [List.getElem?_eq_getElem hil] at h2; exact Option.some.inj h2
        rw [← h4, List.getElem_cons_drop, List.take_append_drop]
      have hno : ∀ c ∈ s.data.toList.take i, c ≠ 44 := by
        intro c hc e
        subst e
        obtain ⟨k, hk, e⟩ := List.mem_iff_getElem.1 hc
        rw [List.length_take] at hk
        have := h3 k (by omega)
        rw [List.getElem_take] at e
        rw [List.getElem?_eq_getElem (by omega), e] at this
        exact this rfl
      rw [e1, e2]
      conv => rhs; rw [e3]
      rw [pcs_app hno]
end WM
end Go.Proofs.YtlmofdmbcddddaaGreatDoor
namespace Go.Proofs.YtlmofdmbcddddaaGreatDoor
open Go.RowKit Go.Shelf
set_option linter.unusedVariables false
set_option linter.unusedSimpArgs false

/-- A builder that holds bytes and has its own address. -/
def Bld (B b : Nat) (bs : List Value) (w : World) : Prop := Lib.BuilderAtF 74 5 B b (.pointer (some ⟨b, 0, none⟩)) bs w
/-- What such a call leaves. -/
def Left1 (B b : Nat) (w w' : World) : Prop := Below B w w' ∧ Lib.OthersKept 5 (some b) w w'

theorem size_bld : (Tryz.prog.info? 74).map (·.size) = some 2 := by kernel_rfl
theorem lies_bld : liesAt Tryz.prog Tryz.prog.depth 74 (2 / Tryz.prog.cellsOf 74) 0 74 1 = true := by kernel_rfl
theorem neq_same (w : World) (a : Addr) : (binOp .neq 71 (.pointer (some a)) (.pointer (some a))).run Tryz.prog w = .ok (.bool false) w := by
  obtain ⟨j, hj, hjs⟩ := Option.map_eq_some_iff.1 size_bld
  have h : ∀ d : Nat, (Op.equalIn (d + 1) 71 (.pointer (some a)) (.pointer (some a))).run Tryz.prog w = .ok true w := fun d => by
    simp [Op.equalIn, run_underlying Tryz.underlying71, sizeOf, typeInfo, hj, run_sameAddr_same]
  simp only [binOp]
  simp [Op.equal, Op.maxDepth, h 9999]
set_option maxHeartbeats 1000000 in
set_option maxRecDepth 100000 in
theorem copy_fresh (b : Nat) (w : World) (h0 : w.cell? ⟨b, 0, none⟩ = some (.pointer none)) (hsh : w.shape? b = some (74, 2)) (hf : w.frozen? ⟨b, 0, none⟩ = false) :
    Calls Tryz.prog 57 #[.pointer (some ⟨b, 0, none⟩)] w fun e w' => e = .returned (.tuple #[]) ∧ w' = w.setCell ⟨b, 0, none⟩ (.pointer (some ⟨b, 0, none⟩)) := by
  obtain ⟨j, hj, hjs⟩ := Option.map_eq_some_iff.1 size_bld
  have u1 := Tryz.underlying71
  have u2 := Tryz.underlying106
  have j0 : j.size ≠ 0 := by rw [hjs]; decide
  go_enter Tryz.func57, Tryz.ntmps57
  go_wp2
  rw [Lib.run_to_unsafe w ⟨b, 0, none⟩ Tryz.underlying71 Tryz.underlying106 hj j0 hsh (Nat.zero_lt_succ 1)]
  simp only [Result.andThen]
  rw [Oper.upon_value]
  go_wp2
  rw [run_callFunc_extern Tryz.func73 (by kernel_rfl) (by kernel_rfl) (by kernel_rfl) (e := Extern.AbiNoEscape.same) (by kernel_rfl)]
  rw [Lib.run_noEscape]
  simp only [Result.andThen]
  rw [Oper.upon_value]
  go_wp2
  rw [Lib.run_from_unsafe w ⟨b, 0, none⟩ Tryz.underlying106 Tryz.underlying71 hj hsh lies_bld]
  simp only [Result.andThen]
  rw [Oper.upon_value]
  have hlt : b < w.heap.size := by
    rcases Nat.lt_or_ge b w.heap.size with h | h
    · exact h
    · simp [World.cell?, Array.getElem?_eq_none h] at h0
  have hq := fun w => neq_same w ⟨b, 0, none⟩
  go_wp2
  go_end0
  exact ⟨rfl, rfl⟩
set_option maxHeartbeats 1000000 in
set_option maxRecDepth 100000 in
theorem copy_used (b : Nat) (w : World) (h0 : w.cell? ⟨b, 0, none⟩ = some (.pointer (some ⟨b, 0, none⟩))) :
    Calls Tryz.prog 57 #[.pointer (some ⟨b, 0, none⟩)] w fun e w' => e = .returned (.tuple #[]) ∧ w' = w := by
  obtain ⟨j, hj, hjs⟩ := Option.map_eq_some_iff.1 size_bld
  have u1 := Tryz.underlying71
  have j0 : j.size ≠ 0 := by rw [hjs]; decide
  have hq := fun w => neq_same w ⟨b, 0, none⟩
  go_enter Tryz.func57, Tryz.ntmps57
  go_wp2
  go_end0
  exact ⟨rfl, rfl⟩

theorem copy_any (B b : Nat) (bs : List Value) (w : World) (h : Lib.IsBuilderF 74 5 B b bs w) :
    Calls Tryz.prog 57 #[.pointer (some ⟨b, 0, none⟩)] w fun e w' => e = .returned (.tuple #[]) ∧ Bld B b bs w' ∧ Left1 B b w w' := by
  rcases h with h | h
  · obtain ⟨hB, v, hb, hown, hne⟩ := h
    have hc : w.cell? ⟨b, 0, none⟩ = some (.pointer none) := by rw [Lib.cell_of_heap hb]; rfl
    have hsh : w.shape? b = some (74, 2) := by simp [World.shape?, hb]
    refine (copy_fresh b w hc hsh (Lib.frozen_of_heap hb 0)).mono ?_
    rintro e w' ⟨rfl, rfl⟩
    exact ⟨rfl, Lib.BuilderAtF.used ⟨hB, v, hb, hown, hne⟩ _, (Below.refl B w).setCell (p := ⟨b, 0, none⟩) hB _, (Lib.OthersKept.refl _ _ w).setCell ⟨b, 0, none⟩ rfl _⟩
  · obtain ⟨hB, v, hb, hown, hne⟩ := h
    refine (copy_used b w (by rw [Lib.cell_of_heap hb]; rfl)).mono ?_
    rintro e w' ⟨rfl, rfl⟩
    exact ⟨rfl, ⟨hB, v, hb, hown, hne⟩, Below.refl B _, Lib.OthersKept.refl _ _ _⟩

theorem byte_info : (Tryz.prog.info? 5).map (fun i => (i.zero, i.size, i.bytes)) = some (some (.int .u8 0), 1, 1) := by kernel_rfl
set_option maxHeartbeats 2000000 in
set_option maxRecDepth 100000 in
theorem byte_any (B b : Nat) (bs : List Value) (c : Int) (w : World) (h : Lib.IsBuilderF 74 5 B b bs w) (hlen : bs.length ≤ 1000000) (hBw : B ≤ w.heap.size) :
    Calls Tryz.prog 40 #[.pointer (some ⟨b, 0, none⟩), .int .u8 c] w fun e w' => e = .returned .nilIface ∧ Bld B b (bs ++ [.int .u8 c]) w' ∧ Left1 B b w w' := by
  obtain ⟨i0, hi, hz0, hz1, hz2⟩ := info_parts byte_info
  go_enter Tryz.func40, Tryz.ntmps40
  go_wp2_with (go_at_call 57; refine (copy_any B b bs _ h).mono ?_)
  rintro e w1 ⟨rfl, ⟨hB, v, hbk, hown, hne⟩, hb1, hk1⟩
  have c0 : w1.cell? ⟨b, 0, none⟩ = some (.pointer (some ⟨b, 0, none⟩)) := by rw [Lib.cell_of_heap hbk]; rfl
  have c1 : w1.cell? ⟨b, 1, none⟩ = some v := by rw [Lib.cell_of_heap hbk]; rfl
  go_wp2_with (at_builtin; refine wpList_append_ownF _ rfl _ _ 72 rfl B 5 i0 (.int .u8 0) 1 1 Tryz.underlying72 hi hz0 hz1 hz2 rfl (by decide) _ _ _ rfl (hown.alloc _) ⟨w1.heap.size, 0, none⟩ 1 1 [.int .u8 c] rfl rfl ?k1 ?k2 ?k3 ?k4 ?k5 ?_)
  case k1 =>
    intro j u hj
    rcases j with _ | j
    · simp only [List.getElem?_cons_zero, Option.some.injEq] at hj
      subst hj; simp [Addr.add]
    · simp at hj
  case k2 => intro u hu; rw [List.mem_singleton] at hu; subst hu; rfl
  case k3 => unfold maxLen; omega
  case k4 => omega
  case k5 => have := hb1.size; simp; omega
  intro v' w2 hown' hgrow _
  have hlt : b < w1.heap.size := (Array.getElem?_eq_some_iff.1 hbk).1
  have hb2 : w2.heap[b]? = some (.cells #[.pointer (some ⟨b, 0, none⟩), v] 74 (0, 0)) := by
    rw [hgrow.block b (by simp; omega) (fun e => hne e.symm), Lib.alloc_old w1 _ b hlt]
    exact hbk
  have d0 : w2.cell? ⟨b, 0, none⟩ = some (.pointer (some ⟨b, 0, none⟩)) := by rw [Lib.cell_of_heap hb2]; rfl
  have d1 : w2.cell? ⟨b, 1, none⟩ = some v := by rw [Lib.cell_of_heap hb2]; rfl
  have f1 : w2.frozen? ⟨b, 1, none⟩ = false := Lib.frozen_of_heap hb2 1
  obtain ⟨g, cap, rfl⟩ : ∃ g cap, v' = .slice (some ⟨g, 0, none⟩) (bs.length + 1) cap := by
    rcases hown'.2 with ⟨_, h0⟩ | ⟨g, cap, cur, fz, hv, _⟩
    · omega
    · exact ⟨g, cap, hv⟩
  go_wp2
  go_ret
  refine ⟨rfl, ?_, ?_, ((hk1.alloc _).grown hgrow (Lib.ownsRowF_kind (hown.alloc _))).setCell ⟨b, 1, none⟩ rfl _⟩
  · exact Lib.BuilderAtF.put hB hb2 (bs' := bs ++ [.int .u8 c]) (by simpa using hown') (by decide)
  · exact ((hb1.alloc (Nat.le_trans hBw hb1.size) _).grown hgrow (by have := hb1.size; simp; omega) (fun k hk => (hown.lt k hk).1)).setCell (p := ⟨b, 1, none⟩) hB _


set_option maxHeartbeats 2000000 in
set_option maxRecDepth 100000 in
theorem wstr_any (B b : Nat) (bs : List Value) (s : ByteArray) (w : World) (h : Lib.IsBuilderF 74 5 B b bs w) (hlen : bs.length + s.size ≤ 100000000) (hBw : B ≤ w.heap.size) :
    Calls Tryz.prog 41 #[.pointer (some ⟨b, 0, none⟩), .string s] w fun e w' => e = .returned (.tuple #[.int .i64 s.size, .nilIface]) ∧ Bld B b (bs ++ Lib.strCells s) w' ∧ Below B w w' := by
  obtain ⟨i0, hi, hz0, hz1, hz2⟩ := info_parts byte_info
  go_enter Tryz.func41, Tryz.ntmps41
  go_wp2_with (go_at_call 57; refine (copy_any B b bs _ h).mono ?_)
  rintro e w1 ⟨rfl, ⟨hB, v, hbk, hown, hne⟩, hb1, hk1⟩
  have c0 : w1.cell? ⟨b, 0, none⟩ = some (.pointer (some ⟨b, 0, none⟩)) := by rw [Lib.cell_of_heap hbk]; rfl
  have c1 : w1.cell? ⟨b, 1, none⟩ = some v := by rw [Lib.cell_of_heap hbk]; rfl
  go_wp2_with (at_builtin; refine Lib.wpList_append_own_stringF _ rfl _ _ 72 9 rfl B 5 i0 Tryz.underlying72 Tryz.underlying9 hi hz0 hz1 hz2 _ _ _ rfl hown s rfl ?c3 ?c4 ?c5 ?_)
  case c3 => unfold maxLen; omega
  case c4 => omega
  case c5 => have := hb1.size; omega
  intro v' w2 hown' hgrow _
  have hlt : b < w1.heap.size := (Array.getElem?_eq_some_iff.1 hbk).1
  have hb2 : w2.heap[b]? = some (.cells #[.pointer (some ⟨b, 0, none⟩), v] 74 (0, 0)) := by
    rw [hgrow.block b hlt (fun e => hne e.symm)]
    exact hbk
  have d0 : w2.cell? ⟨b, 0, none⟩ = some (.pointer (some ⟨b, 0, none⟩)) := by rw [Lib.cell_of_heap hb2]; rfl
  have d1 : w2.cell? ⟨b, 1, none⟩ = some v := by rw [Lib.cell_of_heap hb2]; rfl
  have f1 : w2.frozen? ⟨b, 1, none⟩ = false := Lib.frozen_of_heap hb2 1
  obtain ⟨ao, n', cap, rfl⟩ : ∃ ao n' cap, v' = .slice ao n' cap := by
    rcases hown'.2 with ⟨hv, _⟩ | ⟨g, cap, cur, fz, hv, _⟩
    · exact ⟨_, _, _, hv⟩
    · exact ⟨_, _, _, hv⟩
  go_wp2
  go_ret2
  refine ⟨rfl, ?_, ?_⟩
  · exact Lib.BuilderAtF.put hB hb2 (bs' := bs ++ Lib.strCells s) (by simpa [Lib.strCells_length] using hown') (by decide)
  · exact (hb1.grown hgrow (by have := hb1.size; omega) (fun k hk => (hown.lt k hk).1)).setCell (p := ⟨b, 1, none⟩) hB _
end Go.Proofs.YtlmofdmbcddddaaGreatDoor
namespace Go.Proofs.YtlmofdmbcddddaaGreatDoor
open Go.RowKit

/-- All blocks of w but b are in w' as they were; the streams too. -/
structure Kept (b : Nat) (w w' : World) : Prop where
  os : w'.os = w.os
  tape : w'.tape = w.tape
  output : w'.output = w.output
  size : w.heap.size ≤ w'.heap.size
  block : ∀ k, k < w.heap.size → k ≠ b → w'.heap[k]? = w.heap[k]?

theorem Kept.refl (b : Nat) (w : World) : Kept b w w := ⟨rfl, rfl, rfl, Nat.le_refl _, fun _ _ _ => rfl⟩
theorem Kept.trans {b : Nat} {u v w : World} (h : Kept b u v) (k : Kept b v w) : Kept b u w :=
  ⟨k.os.trans h.os, k.tape.trans h.tape, k.output.trans h.output, Nat.le_trans h.size k.size, fun i hi hb => (k.block i (Nat.lt_of_lt_of_le hi h.size) hb).trans (h.block i hi hb)⟩
theorem Kept.of_below {b : Nat} {u w : World} (h : Below u.heap.size u w) : Kept b u w := ⟨h.os, h.tape, h.output, h.size, fun k hk _ => h.block k hk⟩
theorem Kept.drewN {b : Nat} {u w : World} (h : Kept b u w) (n : Nat) : Kept b u (w.drewN n) := ⟨h.os, h.tape, h.output, h.size, h.block⟩
theorem Kept.drew {b : Nat} {u w : World} (h : Kept b u w) : Kept b u w.drew := ⟨h.os, h.tape, h.output, h.size, h.block⟩
theorem Kept.alloc {b : Nat} {u w : World} (h : Kept b u w) (o : Obj) : Kept b u (w.alloc o) :=
  h.trans (Kept.of_below ((Below.refl _ _).alloc (Nat.le_refl _) o))
/-- A store into the block itself, or into one that is new. -/
theorem Kept.setCell {b : Nat} {u w : World} (h : Kept b u w) {p : Addr} (hp : p.block = b ∨ u.heap.size ≤ p.block) (x : Value) : Kept b u (w.setCell p x) :=
  ⟨h.os, h.tape, h.output, by simpa [World.setCell] using h.size, fun k hk hb => by rw [Below.heap_setCell _ _ _ _ (by rcases hp with hp | hp <;> omega)]; exact h.block k hk hb⟩
/-- What was there before the block was made has not turned. -/
theorem Kept.below {b B : Nat} {u w : World} (h : Kept b u w) (hB : B ≤ b) (hu : B ≤ u.heap.size) : Below B u w :=
  ⟨h.os, h.tape, h.output, h.size, fun k hk => h.block k (by omega) (by omega)⟩

/-- One cell's block behind new blocks and stores elsewhere. -/
theorem heap_alloc_old {w : World} {b : Nat} {x : Obj} (h : w.heap[b]? = some x) (o : Obj) : (w.alloc o).heap[b]? = some x := by
  rw [Below.heap_alloc _ _ _ (lt_of_block h)]; exact h
theorem heap_set_other {w : World} {b : Nat} {x : Obj} (h : w.heap[b]? = some x) {p : Addr} (hp : b ≠ p.block) (u : Value) : (w.setCell p u).heap[b]? = some x := by
  rw [Below.heap_setCell _ _ _ _ hp]; exact h

theorem heap_drewN_old {w : World} {b : Nat} {x : Obj} (h : w.heap[b]? = some x) (n : Nat) : (w.drewN n).heap[b]? = some x := h
theorem heap_drew_old {w : World} {b : Nat} {x : Obj} (h : w.heap[b]? = some x) : w.drew.heap[b]? = some x := h

theorem cell_two0 {w : World} {b : Nat} {x y : Value} {t : TypeId} (h : w.heap[b]? = some (.cells #[x, y] t (0, 0))) : w.cell? ⟨b, 0, none⟩ = some x := by simp [World.cell?, h]
theorem cell_two1 {w : World} {b : Nat} {x y : Value} {t : TypeId} (h : w.heap[b]? = some (.cells #[x, y] t (0, 0))) : w.cell? ⟨b, 1, none⟩ = some y := by simp [World.cell?, h]
theorem free_two0 {w : World} {b : Nat} {x y : Value} {t : TypeId} (h : w.heap[b]? = some (.cells #[x, y] t (0, 0))) : w.frozen? ⟨b, 0, none⟩ = false := by simp [World.frozen?, h]
theorem free_two1 {w : World} {b : Nat} {x y : Value} {t : TypeId} (h : w.heap[b]? = some (.cells #[x, y] t (0, 0))) : w.frozen? ⟨b, 1, none⟩ = false := by simp [World.frozen?, h]
theorem below_new {w w1 : World} {b : Nat} {x : Obj} (hb : Below w.heap.size w w1) (h : w.heap[b]? = some x) : w1.heap[b]? = some x := (hb.block _ (lt_of_block h)).trans h

end Go.Proofs.YtlmofdmbcddddaaGreatDoor
