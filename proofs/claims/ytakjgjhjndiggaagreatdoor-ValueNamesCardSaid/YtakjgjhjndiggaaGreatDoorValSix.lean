/-
  A variable that holds a value, cell by cell.
-/
import Derived.Test.YtakjgjhjndiggaaGreatDoorValSame
namespace Go.Proofs.YtakjgjhjndiggaaGreatDoor
open Go.RowKit
open VM
set_option linter.unusedVariables false
set_option linter.unusedSimpArgs false

/-- A variable's six cells. -/
def Six (w : World) (g : Nat) (a : Nd) (sl : Value) : Prop := w.heap[g]? = some (.cells #[.int .u8 a.k, .int .i64 a.n, .int .i64 a.d, .bool a.t, .string a.s, sl] 28 (0, 0))
theorem Six.later {w w1 : World} {g : Nat} {a : Nd} {sl : Value} (h : Six w g a sl) (hb : Below w.heap.size w w1) : Six w1 g a sl := below_new hb h
theorem Six.row {w : World} {g : Nat} {a : Nd} {sl : Value} (h : Six w g a sl) : Row6 w g 0 a sl := box_row h
theorem Six.lt {w : World} {g : Nat} {a : Nd} {sl : Value} (h : Six w g a sl) : g < w.heap.size := lt_of_block h
theorem Six.free {w : World} {g : Nat} {a : Nd} {sl : Value} (h : Six w g a sl) (o : Nat) : w.frozen? ⟨g, o, none⟩ = false := by
  unfold Six at h; simp [World.frozen?, h]
theorem Six.other {w : World} {g : Nat} {a : Nd} {sl : Value} (h : Six w g a sl) {p : Addr} (hp : g ≠ p.block) (u : Value) : Six (w.setCell p u) g a sl := heap_set_other h hp u
theorem Six.list {w : World} {g : Nat} {a : Nd} {sl : Value} (h : Six w g a sl) (u : Value) : Six (w.setCell ⟨g, 5, none⟩ u) g a u := by
  unfold Six at h ⊢
  simp only [World.setCell, Array.getElem?_modify, if_true, h]
  rfl
theorem Six.new (w : World) (a : Nd) (sl : Value) : Six (w.alloc (.cells #[.int .u8 a.k, .int .i64 a.n, .int .i64 a.d, .bool a.t, .string a.s, sl] 28)) w.heap.size a sl := heap_alloc_new _ _

/-- A value stored into a variable. -/
def sixSet (w : World) (g : Nat) (a : Nd) (sl : Value) : World :=
  (((((w.setCell ⟨g, 0, none⟩ (.int .u8 a.k)).setCell ⟨g, 1, none⟩ (.int .i64 a.n)).setCell ⟨g, 2, none⟩ (.int .i64 a.d)).setCell ⟨g, 3, none⟩ (.bool a.t)).setCell ⟨g, 4, none⟩ (.string a.s)).setCell ⟨g, 5, none⟩ sl
theorem sixSet_heap {w : World} {g b : Nat} (a : Nd) (sl : Value) (h : b ≠ g) : (sixSet w g a sl).heap[b]? = w.heap[b]? := by
  unfold sixSet
  rw [Below.heap_setCell _ _ _ _ h, Below.heap_setCell _ _ _ _ h, Below.heap_setCell _ _ _ _ h, Below.heap_setCell _ _ _ _ h, Below.heap_setCell _ _ _ _ h, Below.heap_setCell _ _ _ _ h]
theorem sixSet_cell {w : World} {g b : Nat} (a : Nd) (sl : Value) (o : Nat) (h : b ≠ g) : (sixSet w g a sl).cell? ⟨b, o, none⟩ = w.cell? ⟨b, o, none⟩ := cell_of_heap (sixSet_heap a sl h) o
theorem sixSet_below {B : Nat} {w w0 : World} {g : Nat} {a : Nd} {sl : Value} (h : Below B w0 w) (hg : B ≤ g) : Below B w0 (sixSet w g a sl) :=
  (((((h.setCell (p := ⟨g, 0, none⟩) hg _).setCell (p := ⟨g, 1, none⟩) hg _).setCell (p := ⟨g, 2, none⟩) hg _).setCell (p := ⟨g, 3, none⟩) hg _).setCell (p := ⟨g, 4, none⟩) hg _).setCell (p := ⟨g, 5, none⟩) hg _
theorem sixSet_six {w : World} {g : Nat} {b : Nd} {sm : Value} (h : Six w g b sm) (a : Nd) (sl : Value) : Six (sixSet w g a sl) g a sl := by
  unfold Six sixSet at *
  simp only [World.setCell, Array.getElem?_modify, if_true, h]
  rfl

end Go.Proofs.YtakjgjhjndiggaaGreatDoor
