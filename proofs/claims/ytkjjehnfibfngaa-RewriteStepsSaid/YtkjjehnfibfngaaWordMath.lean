/-
  The mathematics of words of modules with brackets: validity, depths, trunks, texts. No program in sight.
-/
import Derived.Lib.ItoaNum
namespace Go.Proofs.Ytkjjehnfibfngaa
namespace WM
set_option linter.unusedVariables false
set_option linter.unusedSimpArgs false

abbrev Bs := List UInt8
/-- A module: its name and its args. -/
structure Md where
  c : UInt8
  a : List Int
deriving DecidableEq

/-- The bytes that are names. -/
def letB (c : UInt8) : Bool :=
  (c == 43 || c == 45 || c == 38 || c == 94 || c == 124 || c == 33 || c == 91 || c == 93) || (decide (65 ≤ c.toNat) && decide (c.toNat ≤ 90)) || (decide (97 ≤ c.toNat) && decide (c.toNat ≤ 122))
def braB (c : UInt8) : Bool := c == 91 || c == 93
def rngB (l : List Int) : Bool := l.all fun x => decide (-1000000000 ≤ x) && decide (x ≤ 1000000000)
/-- A valid module. -/
def fineB (m : Md) : Bool := letB m.c && decide (m.a.length ≤ 4) && !(braB m.c && decide (0 < m.a.length)) && rngB m.a
theorem rngB_iff {l : List Int} : rngB l = true ↔ ∀ x ∈ l, -1000000000 ≤ x ∧ x ≤ 1000000000 := by simp [rngB]
/-- What a module adds to the open brackets. -/
def dlt (m : Md) : Int := if m.c = 91 then 1 else if m.c = 93 then -1 else 0
def dep (l : List Md) : Int := (l.map dlt).foldr (· + ·) 0
theorem dep_nil : dep [] = 0 := rfl
theorem dep_cons (m : Md) (l : List Md) : dep (m :: l) = dlt m + dep l := rfl
theorem dep_app (a b : List Md) : dep (a ++ b) = dep a + dep b := by
  induction a with
  | nil => rw [dep_nil]; simp
  | cons m a ih => rw [List.cons_append, dep_cons, dep_cons, ih]; omega
theorem dep_snoc {l : List Md} {k : Nat} (h : k < l.length) : dep (l.take (k + 1)) = dep (l.take k) + dlt l[k] := by
  rw [List.take_add_one, List.getElem?_eq_getElem h, dep_app]
  show dep (l.take k) + dep [l[k]] = _
  rw [dep_cons, dep_nil]; omega
theorem dlt_cases (m : Md) : dlt m = 1 ∨ dlt m = -1 ∨ dlt m = 0 := by
  unfold dlt; split
  · simp
  · split <;> simp
/-- The brackets that are open behind each module. -/
def opnL (l : List Md) (k : Nat) : List Int := (List.range k).map fun i => dep (l.take (i + 1))
theorem opnL_length (l : List Md) (k : Nat) : (opnL l k).length = k := by simp [opnL]
theorem opnL_get {l : List Md} {k i : Nat} (h : i < k) : (opnL l k)[i]'(by rw [opnL_length]; exact h) = dep (l.take (i + 1)) := by simp [opnL]
theorem opnL_succ (l : List Md) (k : Nat) : opnL l (k + 1) = opnL l k ++ [dep (l.take (k + 1))] := by simp [opnL, List.range_succ]
/-- No ] comes without a [ that is open, up to a place. -/
def okB (l : List Md) (k : Nat) : Bool := (opnL l k).all fun x => decide (0 ≤ x)
theorem okB_zero (l : List Md) : okB l 0 = true := rfl
theorem okB_succ (l : List Md) (k : Nat) : okB l (k + 1) = (okB l k && decide (0 ≤ dep (l.take (k + 1)))) := by simp [okB, opnL_succ]
theorem okB_iff {l : List Md} {k : Nat} : okB l k = true ↔ ∀ i, i < k → 0 ≤ dep (l.take (i + 1)) := by
  unfold okB opnL; rw [List.all_map, List.all_eq_true]
  simp
theorem okB_mono {l : List Md} {j k : Nat} (h : j ≤ k) (hk : okB l k = true) : okB l j = true := okB_iff.2 fun i hi => okB_iff.1 hk i (by omega)
/-- Check's answer. -/
def chk (l : List Md) : Int := if 2000 < l.length then 4 else if l.all fineB = false then 8 else if (okB l l.length && decide (dep l = 0)) = true then 0 else 28
theorem chk_zero {l : List Md} : chk l = 0 ↔ l.length ≤ 2000 ∧ l.all fineB = true ∧ okB l l.length = true ∧ dep l = 0 := by
  unfold chk
  split
  · simp; omega
  · split
    · rename_i h; simp [h]
    · split
      · rename_i h1 h2 h3
        simp at h3
        simp at h2
        simp [h3]
        exact ⟨by omega, h2⟩
      · rename_i h1 h2 h3
        simp at h3
        simp
        intro _ _ h4; exact h3 h4
theorem chk_many {l : List Md} (h : 2000 < l.length) : chk l = 4 := by unfold chk; rw [if_pos h]
theorem chk_bad {l : List Md} (h : ¬ 2000 < l.length) (h2 : l.all fineB = false) : chk l = 8 := by unfold chk; rw [if_neg h, if_pos h2]
theorem chk_open {l : List Md} (h : ¬ 2000 < l.length) (h2 : l.all fineB = true) (h3 : (okB l l.length && decide (dep l = 0)) = false) : chk l = 28 := by
  unfold chk; rw [if_neg h, if_neg (by rw [h2]; simp), if_neg (by rw [h3]; simp)]
theorem chk_vals (l : List Md) : chk l = 0 ∨ chk l = 4 ∨ chk l = 8 ∨ chk l = 28 := by
  unfold chk; split
  · simp
  · split
    · simp
    · split <;> simp
/-- The greatest number of open brackets. -/
def dmax (l : List Md) (k : Nat) : Int := (opnL l k).foldl max 0
theorem dmax_zero (l : List Md) : dmax l 0 = 0 := rfl
theorem dmax_succ (l : List Md) (k : Nat) : dmax l (k + 1) = max (dmax l k) (dep (l.take (k + 1))) := by simp [dmax, opnL_succ]
theorem dmax_nonneg (l : List Md) (k : Nat) : 0 ≤ dmax l k := by
  induction k with
  | zero => exact Int.le_refl _
  | succ k ih => rw [dmax_succ]; omega
/-- The trunk, up to a place. -/
def trunk (l : List Md) (k : Nat) : List Md := ((List.range k).filter fun i => decide (dep (l.take (i + 1)) = 0) && !((l.getD i ⟨0, []⟩).c == 93)).map fun i => l.getD i ⟨0, []⟩
theorem trunk_zero (l : List Md) : trunk l 0 = [] := rfl
theorem trunk_succ {l : List Md} {k : Nat} (h : k < l.length) : trunk l (k + 1) = if (decide (dep (l.take (k + 1)) = 0) && !(l[k].c == 93)) = true then trunk l k ++ [l[k]] else trunk l k := by
  have e : l.getD k ⟨0, []⟩ = l[k] := by simp [List.getD, h]
  unfold trunk
  rw [List.range_succ, List.filter_append, List.map_append]
  by_cases hc : (decide (dep (l.take (k + 1)) = 0) && !(l[k].c == 93)) = true
  · rw [if_pos hc]
    congr 1
    simp only [List.filter_cons, List.filter_nil, e, hc, if_true, List.map_cons, List.map_nil]
  · rw [if_neg hc]
    simp only [List.filter_cons, List.filter_nil, e, hc, if_false, List.map_nil, List.append_nil]
    simp
theorem trunk_length (l : List Md) (k : Nat) : (trunk l k).length ≤ k := by
  unfold trunk; rw [List.length_map]
  have := List.length_filter_le (fun i => decide (dep (l.take (i + 1)) = 0) && !((l.getD i ⟨0, []⟩).c == 93)) (List.range k)
  rwa [List.length_range] at this
/-- How many modules have a name. -/
def cntB (l : List Md) (c : UInt8) : Nat := l.countP fun m => m.c == c
theorem cntB_app (a b : List Md) (c : UInt8) : cntB (a ++ b) c = cntB a c + cntB b c := List.countP_append
theorem cntB_succ {l : List Md} {k : Nat} (h : k < l.length) (c : UInt8) : cntB (l.take (k + 1)) c = cntB (l.take k) c + (if (l[k].c == c) = true then 1 else 0) := by
  rw [List.take_add_one, List.getElem?_eq_getElem h, cntB_app]
  congr 1
  simp [cntB, List.countP_cons]
/-- A module's text. -/
def argsT : List Int → Bs
  | [] => []
  | x :: l => 44 :: (Lib.itoa x ++ argsT l)
def modT (m : Md) : Bs := match m.a with
  | [] => [m.c]
  | x :: l => m.c :: 40 :: (Lib.itoa x ++ argsT l ++ [41])
def txt (l : List Md) : Bs := l.flatMap modT
theorem txt_app (a b : List Md) : txt (a ++ b) = txt a ++ txt b := by simp [txt]
theorem txt_snoc {l : List Md} {k : Nat} (h : k < l.length) : txt (l.take (k + 1)) = txt (l.take k) ++ modT l[k] := by
  rw [List.take_add_one, List.getElem?_eq_getElem h, txt_app]
  simp [txt]
end WM
end Go.Proofs.Ytkjjehnfibfngaa
