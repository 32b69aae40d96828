/-
  Forms, shapes and rules. No program in sight.
-/
import Derived.Test.YtkjjehnfibfngaaWordRead
namespace Go.Proofs.Ytkjjehnfibfngaa
open WM
set_option linter.unusedVariables false
set_option linter.unusedSimpArgs false
namespace RM

structure Fm where
  k : Int
  cs : List Int
  deriving DecidableEq
structure Sh where
  c : UInt8
  a : List Fm
  deriving DecidableEq
structure Rw where
  c : UInt8
  ar : Int
  l : UInt8
  r : UInt8
  gs : List Fm
  wt : Int
  out : List Sh
  deriving DecidableEq
def coefB (x : Int) : Bool := decide (-1000000 ≤ x) && decide (x ≤ 1000000)
theorem coefB_iff {x : Int} : coefB x = true ↔ -1000000 ≤ x ∧ x ≤ 1000000 := by simp [coefB]
/-- Is a form valid for a number of arguments? -/
def formB (f : Fm) (n : Int) : Bool := coefB f.k && decide ((f.cs.length : Int) = n) && f.cs.all coefB
/-- The module that a shape is like, its args 0. -/
def shM (s : Sh) : Md := ⟨s.c, List.replicate s.a.length 0⟩
def shB (s : Sh) (n : Int) : Bool := fineB (shM s) && s.a.all (formB · n)
/-- Is a rule valid in what the layers share? -/
def ruleB (r : Rw) : Bool := letB r.c && !(braB r.c) && decide (0 ≤ r.ar) && decide (r.ar ≤ 4) && r.gs.all (formB · r.ar) && r.out.all (shB · r.ar) && decide (chk (r.out.map shM) = 0)
def plainB (r : Rw) : Bool := r.l == 0 && r.r == 0 && decide (r.wt = 0)
def manyB (l : List Rw) : Bool := decide (40 < l.length) || l.any fun r => decide (4 < r.gs.length) || decide (20 < r.out.length)
/-- Check. -/
def rchk (l : List Rw) : Int := if manyB l = true then 4 else if l.all (fun r => ruleB r && plainB r) = true then 0 else 8
def wor : Int → List Int → List Int → Int
  | n, _, [] => n
  | n, [], _ :: _ => n
  | n, c :: cs, x :: xs => wor (n + c * x) cs xs
/-- A form's value. -/
def worth (f : Fm) (x : List Int) : Int := wor f.k f.cs x
theorem wor_snoc : ∀ (n : Int) (cs xs : List Int) (c x : Int), cs.length = xs.length → wor n (cs ++ [c]) (xs ++ [x]) = wor n cs xs + c * x
  | n, [], [], c, x, _ => by simp [wor]
  | n, c' :: cs, x' :: xs, c, x, h => by
    simp only [List.cons_append, wor]
    exact wor_snoc _ cs xs c x (by simpa using h)
  | n, [], _ :: _, _, _, h => by simp at h
  | n, _ :: _, [], _, _, h => by simp at h
theorem take_snoc {l : List Int} {k : Nat} (h : k < l.length) : l.take (k + 1) = l.take k ++ [l[k]] := List.take_succ_eq_append_getElem h
theorem wor_take {n : Int} {cs xs : List Int} (hl : cs.length = xs.length) {k : Nat} (h : k < xs.length) : wor n (cs.take (k + 1)) (xs.take (k + 1)) = wor n (cs.take k) (xs.take k) + cs[k]'(by omega) * xs[k] := by
  rw [take_snoc (l := cs) (by omega), take_snoc h]
  exact wor_snoc _ _ _ _ _ (by rw [List.length_take, List.length_take]; omega)
theorem mul_rng {c x : Int} (hc : -1000000 ≤ c ∧ c ≤ 1000000) (hx : -1000000000 ≤ x ∧ x ≤ 1000000000) : -1000000000000000 ≤ c * x ∧ c * x ≤ 1000000000000000 := by
  have key : ∀ a b : Int, -1000000 ≤ a → a ≤ 1000000 → 0 ≤ b → b ≤ 1000000000 → -1000000000000000 ≤ a * b ∧ a * b ≤ 1000000000000000 := by
    intro a b h1 h2 h3 h4
    have e1 : a * b ≤ 1000000 * b := Int.mul_le_mul_of_nonneg_right h2 h3
    have e2 : -1000000 * b ≤ a * b := Int.mul_le_mul_of_nonneg_right h1 h3
    omega
  by_cases h : 0 ≤ x
  · exact key c x hc.1 hc.2 h hx.2
  · have := key c (-x) hc.1 hc.2 (by omega) (by omega)
    rw [Int.mul_neg] at this
    omega
/-- The sum stays small at each step. -/
theorem wor_rng {n : Int} {cs xs : List Int} (hl : cs.length = xs.length) (hn : coefB n = true) (hc : cs.all coefB = true) (hx : ∀ x ∈ xs, -1000000000 ≤ x ∧ x ≤ 1000000000) :
    ∀ k, k ≤ xs.length → -1000000 - k * 1000000000000000 ≤ wor n (cs.take k) (xs.take k) ∧ wor n (cs.take k) (xs.take k) ≤ 1000000 + k * 1000000000000000 := by
  intro k
  induction k with
  | zero => intro _; have := coefB_iff.1 hn; simp [wor]; omega
  | succ k ih =>
    intro hk
    have h1 := ih (by omega)
    rw [wor_take hl (by omega)]
    have h2 := mul_rng (coefB_iff.1 (List.all_eq_true.1 hc _ (List.getElem_mem (show k < cs.length by omega)))) (hx _ (List.getElem_mem (show k < xs.length by omega)))
    omega
/-- Does a rule fit a module? -/
def fitB (r : Rw) (m : Md) : Bool := r.c == m.c && decide (r.ar = (m.a.length : Int)) && r.gs.all fun g => decide (0 ≤ worth g m.a)
/-- The first rule that fits from an index on, or -1. -/
def firstF : List Rw → Md → Int → Int
  | [], _, _ => -1
  | r :: l, m, i => if fitB r m = true then i else firstF l m (i + 1)
def first (l : List Rw) (m : Md) : Int := firstF l m 0
theorem firstF_rng : ∀ (l : List Rw) (m : Md) (i : Int), firstF l m i = -1 ∨ (i ≤ firstF l m i ∧ firstF l m i < i + l.length)
  | [], _, _ => .inl rfl
  | r :: l, m, i => by
    unfold firstF
    split
    · right; simp; omega
    · rcases firstF_rng l m (i + 1) with h | h
      · exact .inl h
      · right; simp; omega
theorem firstF_drop {l : List Rw} {m : Md} {k : Nat} (hk : k < l.length) : firstF (l.drop k) m (k : Int) = if fitB l[k] m = true then (k : Int) else firstF (l.drop (k + 1)) m ((k + 1 : Nat) : Int) := by
  rw [List.drop_eq_getElem_cons hk, firstF]
  rfl
theorem firstF_end {l : List Rw} {m : Md} {k : Nat} (hk : l.length ≤ k) : firstF (l.drop k) m (k : Int) = -1 := by
  rw [List.drop_of_length_le hk]; rfl
/-- Find's error and index. -/
def finC (l : List Rw) (m : Md) : Int := if rchk l ≠ 0 then rchk l else if fineB m = true then 0 else 8
def finV (l : List Rw) (m : Md) : Int := if finC l m = 0 then first l m else 0
/-- Value's error and number. -/
def vaC (f : Fm) (x : List Int) : Int :=
  if 4 < x.length ∨ formB f (x.length : Int) = false ∨ fineB ⟨70, x⟩ = false then 8 else if -1000000000 ≤ worth f x ∧ worth f x ≤ 1000000000 then 0 else 16
def vaV (f : Fm) (x : List Int) : Int := if vaC f x = 0 then worth f x else 0
/-- What a shape becomes. -/
def mkM (s : Sh) (x : List Int) : Md := ⟨s.c, s.a.map (worth · x)⟩
def argB (x : Int) : Bool := decide (-1000000000 ≤ x) && decide (x ≤ 1000000000)
def mkB (s : Sh) (x : List Int) : Bool := s.a.all fun f => argB (worth f x)
/-- What a rule makes of a module. -/
def made (r : Rw) (m : Md) : Option (List Md) := if r.out.all (mkB · m.a) = true then some (r.out.map (mkM · m.a)) else none
/-- A module's successor. -/
def succM (l : List Rw) (m : Md) : Option (List Md) := if h : 0 ≤ first l m then (match l[(first l m).toNat]? with | some r => made r m | none => none) else some [m]
/-- A word's successor, before its length is looked at. -/
def stepL (l : List Rw) : List Md → Option (List Md)
  | [] => some []
  | m :: w => match succM l m, stepL l w with
    | some a, some b => some (a ++ b)
    | _, _ => none
theorem stepL_app (l : List Rw) : ∀ a b : List Md, stepL l (a ++ b) = (match stepL l a, stepL l b with | some x, some y => some (x ++ y) | _, _ => none)
  | [], b => by
    simp only [List.nil_append, stepL]
    cases stepL l b <;> rfl
  | m :: a, b => by
    simp only [List.cons_append, stepL]
    rw [stepL_app l a b]
    cases succM l m <;> cases stepL l a <;> cases stepL l b <;> simp
theorem stepL_one (l : List Rw) (m : Md) : stepL l [m] = succM l m := by
  simp only [stepL]
  cases succM l m <;> simp
/-- Step's error and word. -/
def stC (l : List Rw) (w : List Md) : Int := if rchk l ≠ 0 then rchk l else if chk w ≠ 0 then chk w else match stepL l w with
  | none => 16
  | some v => if 2000 < v.length then 4 else 0
def stL (l : List Rw) (w : List Md) : List Md := if stC l w = 0 then (stepL l w).getD [] else []
/-- Run's error and word. -/
def runF (l : List Rw) : Nat → List Md → Int × List Md
  | 0, w => (0, w)
  | n + 1, w => if stC l w ≠ 0 then (stC l w, []) else runF l n (stL l w)
def ruC (l : List Rw) (w : List Md) (n : Int) : Int := if rchk l ≠ 0 then rchk l else if chk w ≠ 0 then chk w else if n < 0 ∨ 30 < n then 2 else (runF l n.toNat w).1
def ruL (l : List Rw) (w : List Md) (n : Int) : List Md := if ruC l w n = 0 then (runF l n.toNat w).2 else []
def greatR (l : List Rw) : Bool := decide (50 < l.length) || l.any fun r => decide (10 < r.gs.length) || decide (30 < r.out.length) || r.gs.any (fun g => decide (10 < g.cs.length)) || r.out.any (fun s => decide (10 < s.a.length) || s.a.any (fun g => decide (10 < g.cs.length)))
end RM
end Go.Proofs.Ytkjjehnfibfngaa
