/-
  What Join, Strip and Close hand back, said by functions of the words: the reference's.
-/
import Derived.Test.YtjjjopopalcokaaWordUni
import Derived.Test.YtjjjopopalcokaaWordJoin
namespace Go.Proofs.Ytjjjopopalcokaa
open Go.RowKit
open WM
set_option linter.unusedVariables false
set_option linter.unusedSimpArgs false

def RJnEnd (a b : List Md) (w : World) (e : Ending) (w' : World) : Prop :=
  ∃ v, e = .returned (.tuple #[v, .int .i64 (jC a b)]) ∧ Below w.heap.size w w' ∧ Mods w' v (jL a b)
theorem rjoin_any (x y : Value) (a b : List Md) (ha : a.length ≤ 2100) (hb : b.length ≤ 2100) (haa : ∀ m ∈ a, m.a.length ≤ 10) (hba : ∀ m ∈ b, m.a.length ≤ 10) (w : World) (hx : Mods w x a) (hy : Mods w y b) :
    Calls Try.prog 21 #[x, y] w (RJnEnd a b w) := by
  have key : Calls Try.prog 21 #[x, y] w (JnEnd a b w) := by
    by_cases h : chk a ≠ 0 ∨ chk b ≠ 0 ∨ 2000 < a.length + b.length
    · exact join_no x y a b ha hb haa hba h w hx hy
    · exact join_yes x y a b haa hba (by omega) (by omega) (by omega) w hx hy
  refine key.mono ?_
  rintro e w' ⟨hb, ⟨h1, rfl⟩ | ⟨h1, h2, rfl⟩ | ⟨h1, h2, h3, rfl⟩ | ⟨h1, h2, h3, v, vs, rfl, hm⟩⟩
  · exact ⟨_, by rw [jC_1 h1], hb, by rw [jL_no (by rw [jC_1 h1]; exact h1)]; exact .none _ _⟩
  · exact ⟨_, by rw [jC_2 h1 h2], hb, by rw [jL_no (by rw [jC_2 h1 h2]; exact h2)]; exact .none _ _⟩
  · exact ⟨_, by rw [jC_3 h1 h2 h3], hb, by rw [jL_no (by rw [jC_3 h1 h2 h3]; decide)]; exact .none _ _⟩
  · exact ⟨v, by rw [jC_4 h1 h2 h3], hb, by rw [jL_yes (jC_4 h1 h2 h3)]; exact hm.mods⟩
def RStEnd (l : List Md) (w : World) (e : Ending) (w' : World) : Prop :=
  ∃ v, e = .returned (.tuple #[v, .int .i64 (chk l)]) ∧ Below w.heap.size w w' ∧ Mods w' v (sL l)
theorem rstrip_any (v : Value) (l : List Md) (hmax : l.length ≤ 2100) (hargs : ∀ m ∈ l, m.a.length ≤ 10) (w : World) (hv : Mods w v l) :
    Calls Try.prog 12 #[v] w (RStEnd l w) := by
  by_cases h0 : chk l = 0
  · refine (strip_yes v l hargs h0 w hv).mono ?_
    rintro e w' ⟨hb, ⟨h1, rfl⟩ | ⟨h1, v', vs, rfl, hm⟩⟩
    · exact absurd h0 h1
    · exact ⟨v', by rw [h0], hb, by unfold sL; rw [if_pos h0]; exact hm.mods⟩
  · refine (strip_no v l hmax hargs h0 w hv).mono ?_
    rintro e w' ⟨hb, ⟨h1, rfl⟩ | ⟨h1, v', vs, rfl, hm⟩⟩
    · exact ⟨_, rfl, hb, by unfold sL; rw [if_neg h0]; exact .none _ _⟩
    · exact absurd h1 h0
theorem rclose_any (v : Value) (l : List Md) (hmax : l.length ≤ 2100) (hargs : ∀ m ∈ l, m.a.length ≤ 10) (i : Int) (w : World) (hv : Mods w v l) :
    Calls Try.prog 8 #[v, .int .i64 i] w fun e w' => e = .returned (.tuple #[.int .i64 (clV l i), .int .i64 (clC l i)]) ∧ Below w.heap.size w w' :=
  (close_any v l hmax hargs i w hv).mono fun e w' h => cl_u h
end Go.Proofs.Ytjjjopopalcokaa
