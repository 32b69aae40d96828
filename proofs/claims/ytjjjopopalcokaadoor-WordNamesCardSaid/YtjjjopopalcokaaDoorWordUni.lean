/-
  What Join, Strip and Close hand back, said by functions of the words: the package's.
-/
import Derived.Test.YtjjjopopalcokaaDoorWordPrJ
namespace Go.Proofs.YtjjjopopalcokaaDoor
open Go.RowKit
open WM
set_option linter.unusedVariables false
set_option linter.unusedSimpArgs false

/-- Join's error and word. -/
def jC (a b : List Md) : Int := if chk a ≠ 0 then chk a else if chk b ≠ 0 then chk b else if 2000 < a.length + b.length then 4 else 0
def jL (a b : List Md) : List Md := if jC a b = 0 then a ++ b else []
theorem jC_1 {a b : List Md} (h : chk a ≠ 0) : jC a b = chk a := by unfold jC; rw [if_pos h]
theorem jC_2 {a b : List Md} (h : chk a = 0) (h2 : chk b ≠ 0) : jC a b = chk b := by unfold jC; rw [if_neg (by simp [h]), if_pos h2]
theorem jC_3 {a b : List Md} (h : chk a = 0) (h2 : chk b = 0) (h3 : 2000 < a.length + b.length) : jC a b = 4 := by unfold jC; rw [if_neg (by simp [h]), if_neg (by simp [h2]), if_pos h3]
theorem jC_4 {a b : List Md} (h : chk a = 0) (h2 : chk b = 0) (h3 : ¬ 2000 < a.length + b.length) : jC a b = 0 := by unfold jC; rw [if_neg (by simp [h]), if_neg (by simp [h2]), if_neg h3]
theorem jL_no {a b : List Md} (h : jC a b ≠ 0) : jL a b = [] := by unfold jL; rw [if_neg h]
theorem jL_yes {a b : List Md} (h : jC a b = 0) : jL a b = a ++ b := by unfold jL; rw [if_pos h]
theorem modFr_nil (w : World) (base : Nat) : ModFr w base (.slice none 0 0) [] [] := ⟨rfl, World.ownsRow_nil _ _ _ _, fun k h => by simp at h⟩
/-- How Join ends, in one way. -/
def UJnEnd (a b : List Md) (w : World) (e : Ending) (w' : World) : Prop :=
  ∃ v vs, e = .returned (.tuple #[v, .int .i64 (jC a b)]) ∧ Below w.heap.size w w' ∧ ModFr w' w.heap.size v (jL a b) vs
theorem ujoin_any (x y : Value) (a b : List Md) (ha : a.length ≤ 1000000) (hb : b.length ≤ 1000000) (haa : ∀ m ∈ a, m.a.length ≤ 1000000) (hba : ∀ m ∈ b, m.a.length ≤ 1000000) (nx : NilOr x) (ny : NilOr y) (w : World) (hx : Mods w x a) (hy : Mods w y b) :
    Calls Tryd.prog 12 #[x, y] w (UJnEnd a b w) := by
  refine (pjoin_any x y a b ha hb haa hba w hx hy nx ny).mono ?_
  rintro e w' ⟨hb, ⟨h1, rfl⟩ | ⟨h1, h2, rfl⟩ | ⟨h1, h2, h3, rfl⟩ | ⟨h1, h2, h3, v, vs, rfl, hm⟩⟩
  · exact ⟨_, [], by rw [jC_1 h1], hb, by rw [jL_no (by rw [jC_1 h1]; exact h1)]; exact modFr_nil _ _⟩
  · exact ⟨_, [], by rw [jC_2 h1 h2], hb, by rw [jL_no (by rw [jC_2 h1 h2]; exact h2)]; exact modFr_nil _ _⟩
  · exact ⟨_, [], by rw [jC_3 h1 h2 h3], hb, by rw [jL_no (by rw [jC_3 h1 h2 h3]; decide)]; exact modFr_nil _ _⟩
  · exact ⟨v, vs, by rw [jC_4 h1 h2 h3], hb, by rw [jL_yes (jC_4 h1 h2 h3)]; exact hm⟩
/-- Strip's word. -/
def sL (l : List Md) : List Md := if chk l = 0 then trunk l l.length else []
def UStEnd (l : List Md) (w : World) (e : Ending) (w' : World) : Prop :=
  ∃ v vs, e = .returned (.tuple #[v, .int .i64 (chk l)]) ∧ Below w.heap.size w w' ∧ ModFr w' w.heap.size v (sL l) vs
theorem ustrip_any (v : Value) (l : List Md) (hmax : l.length ≤ 9223372036854775807) (hargs : ∀ m ∈ l, m.a.length ≤ 9223372036854775807) (w : World) (hv : Mods w v l) :
    Calls Tryd.prog 13 #[v] w (UStEnd l w) := by
  by_cases h0 : chk l = 0
  · refine (pstrip_yes v l h0 w hv).mono ?_
    rintro e w' ⟨hb, ⟨h1, rfl⟩ | ⟨h1, v', vs, rfl, hm⟩⟩
    · exact absurd h0 h1
    · exact ⟨v', vs, by rw [h0], hb, by unfold sL; rw [if_pos h0]; exact hm⟩
  · refine (pstrip_no v l hmax hargs h0 w hv).mono ?_
    rintro e w' ⟨hb, ⟨h1, rfl⟩ | ⟨h1, v', vs, rfl, hm⟩⟩
    · exact ⟨_, [], rfl, hb, by unfold sL; rw [if_neg h0]; exact modFr_nil _ _⟩
    · exact absurd h1 h0
/-- Close's index and error. -/
noncomputable def clV (l : List Md) (i : Int) : Int := by
  classical
  exact if h : chk l = 0 ∧ ∃ j k : Nat, i = (j : Int) ∧ IsCl l j k then (Classical.choose (Classical.choose_spec h.2) : Nat) else 0
noncomputable def clC (l : List Md) (i : Int) : Int := if chk l ≠ 0 then chk l else if atB l i = true then 0 else 2
theorem atB_of_cl {l : List Md} {j k : Nat} (h : IsCl l j k) : atB l (j : Int) = true := by
  obtain ⟨hi, hk, h⟩ := h
  refine atB_iff.2 ⟨j, rfl, hi, ?_⟩
  rcases h with ⟨h, _⟩ | ⟨h, _⟩ <;> rw [h] <;> rfl
theorem cl_u {l : List Md} {i : Int} {w : World} {e : Ending} {w' : World} (h : ClEnd l i w e w') : e = .returned (.tuple #[.int .i64 (clV l i), .int .i64 (clC l i)]) ∧ Below w.heap.size w w' := by
  obtain ⟨hb, ⟨h0, rfl⟩ | ⟨h0, h1, rfl⟩ | ⟨h0, j, k, rfl, hk, rfl⟩⟩ := h
  · refine ⟨?_, hb⟩
    have e1 : clV l i = 0 := by unfold clV; rw [dif_neg (fun h => h0 h.1)]
    have e2 : clC l i = chk l := by unfold clC; rw [if_pos h0]
    rw [e1, e2]
  · refine ⟨?_, hb⟩
    have e1 : clV l i = 0 := by
      unfold clV; rw [dif_neg]
      rintro ⟨_, j, k, rfl, h⟩
      rw [atB_of_cl h] at h1; exact absurd h1 (by simp)
    have e2 : clC l i = 2 := by unfold clC; rw [if_neg (by simp [h0]), if_neg (by rw [h1]; simp)]
    rw [e1, e2]
  · refine ⟨?_, hb⟩
    have hx : chk l = 0 ∧ ∃ j' k' : Nat, ((j : Nat) : Int) = (j' : Int) ∧ IsCl l j' k' := ⟨h0, j, k, rfl, hk⟩
    have e1 : clV l (j : Int) = (k : Int) := by
      unfold clV; rw [dif_pos hx]
      have hs := Classical.choose_spec (Classical.choose_spec hx.2)
      have hj : Classical.choose hx.2 = j := by have := hs.1; omega
      have h2 := hs.2
      have : Classical.choose (Classical.choose_spec hx.2) = k := by
        generalize Classical.choose (Classical.choose_spec hx.2) = k2 at h2
        generalize Classical.choose hx.2 = j2 at hj h2
        subst hj
        exact isCl_one h2 hk
      rw [this]
    have e2 : clC l (j : Int) = 0 := by unfold clC; rw [if_neg (by simp [h0]), if_pos (atB_of_cl hk)]
    rw [e1, e2]
theorem uclose_any (v : Value) (l : List Md) (hmax : l.length ≤ 9223372036854775807) (hargs : ∀ m ∈ l, m.a.length ≤ 9223372036854775807) (i : Int) (w : World) (hv : Mods w v l) :
    Calls Tryd.prog 10 #[v, .int .i64 i] w fun e w' => e = .returned (.tuple #[.int .i64 (clV l i), .int .i64 (clC l i)]) ∧ Below w.heap.size w w' :=
  (pclose_any v l hmax hargs i w hv).mono fun e w' h => cl_u h
end Go.Proofs.YtjjjopopalcokaaDoor
