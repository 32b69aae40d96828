/-
  Where a calculation of package ratio stands: its variables in memory, and the operands' slice.
-/
import Derived.Test.YtchjkjhkmhkjeaaDoorRatCalc
import Derived.Defers
namespace Go.Proofs.YtchjkjhkmhkjeaaDoor
open Go.RowKit
open RM
set_option linter.unusedVariables false
set_option linter.unusedSimpArgs false

/-- The error that is kept behind a list of operands. -/
def errAll (rs : List (Int × Int)) : Int := if rs.all (fun r => vld r.1 r.2) = true then 0 else 8

/-- Operands lie in block bs. -/
def Operands (w : World) (bs : Nat) (rs : List (Int × Int)) : Prop :=
  bs < w.heap.size ∧ ∀ i, (h : i < rs.length) → w.cell? ⟨bs, i * 2, none⟩ = some (.int .i64 rs[i].1) ∧ w.cell? ⟨bs, i * 2 + 1, none⟩ = some (.int .i64 rs[i].2)

theorem errAll_nil : errAll [] = 0 := rfl
theorem errAll_snoc (rs : List (Int × Int)) (k : Nat) (h : k < rs.length) :
    errAll (rs.take (k + 1)) = if errAll (rs.take k) = 0 then chk rs[k].1 rs[k].2 else 8 := by
  unfold errAll chk
  rw [List.take_succ_eq_append_getElem h, List.all_append]
  cases (List.take k rs).all (fun r => vld r.1 r.2) <;> cases hv : vld rs[k].1 rs[k].2 <;> simp [hv]
theorem errAll_or (rs : List (Int × Int)) : errAll rs = 0 ∨ errAll rs = 8 := by unfold errAll; split <;> simp

/-- Where a calculation stands: its result's variable, the error that it hands back, and the error that it keeps. -/
structure CalcAt (w : World) (res : Obj) (f : Int) (wr : World) : Prop where
  below : Below w.heap.size w wr
  hres : wr.heap[w.heap.size]? = some res
  hfault : wr.heap[w.heap.size + 1]? = some (.cells #[.int .i64 0] 24 (0, 0))
  hc : wr.heap[w.heap.size + 1 + 1]? = some (.cells #[.int .i64 f] 76 (0, 0))

theorem CalcAt.later {w wr w1 : World} {res : Obj} {f : Int} (h : CalcAt w res f wr) (hb : Below wr.heap.size wr w1) : CalcAt w res f w1 :=
  have hs := h.below.size
  ⟨h.below.trans (hb.mono hs), (hb.block _ (lt_of_block h.hres)).trans h.hres, (hb.block _ (lt_of_block h.hfault)).trans h.hfault, (hb.block _ (lt_of_block h.hc)).trans h.hc⟩
theorem CalcAt.alloc {w wr : World} {res : Obj} {f : Int} (h : CalcAt w res f wr) (o : Obj) : CalcAt w res f (wr.alloc o) :=
  h.later ((Below.refl _ _).alloc (Nat.le_refl _) o)
theorem CalcAt.keeps {w wr : World} {res : Obj} {f : Int} (h : CalcAt w res f wr) (g : Int) : CalcAt w res g (wr.setCell ⟨w.heap.size + 1 + 1, 0, none⟩ (.int .i64 g)) :=
  ⟨h.below.setCell (by show w.heap.size ≤ w.heap.size + 1 + 1; omega) _, heap_set_other h.hres (by show w.heap.size ≠ w.heap.size + 1 + 1; omega) _, heap_set_other h.hfault (by show w.heap.size + 1 ≠ w.heap.size + 1 + 1; omega) _, one_setCell h.hc⟩
theorem CalcAt.start (w : World) (res : Obj) : CalcAt w res 0 (((w.alloc res).alloc (.cells #[.int .i64 0] 24)).alloc (.cells #[.int .i64 0] 76)) := by
  refine ⟨(((Below.refl _ _).alloc (Nat.le_refl _) _).alloc (by simp) _).alloc (by simp; omega) _, ?_, ?_, ?_⟩
  · exact heap_alloc_old (heap_alloc_old (heap_alloc_new _ _) _) _
  · refine heap_alloc_old ?_ _
    have := heap_alloc_new (w.alloc res) (.cells #[.int .i64 0] 24)
    simpa using this
  · have := heap_alloc_new ((w.alloc res).alloc (.cells #[.int .i64 0] 24)) (.cells #[.int .i64 0] 76)
    simpa using this

theorem Operands.cells {w wr : World} {bs : Nat} {rs : List (Int × Int)} (h : Operands w bs rs) (hb : Below w.heap.size w wr) (i : Nat) (hi : i < rs.length) :
    wr.cell? ⟨bs, i * 2, none⟩ = some (.int .i64 rs[i].1) ∧ wr.cell? ⟨bs, i * 2 + 1, none⟩ = some (.int .i64 rs[i].2) :=
  ⟨(hb.cell (p := ⟨bs, i * 2, none⟩) h.1).trans (h.2 i hi).1, (hb.cell (p := ⟨bs, i * 2 + 1, none⟩) h.1).trans (h.2 i hi).2⟩



/-- Behind the deferred call: the result's variable and the error that is handed back. -/
structure FinAt (w : World) (res : Obj) (f : Int) (wr : World) : Prop where
  below : Below w.heap.size w wr
  hres : wr.heap[w.heap.size]? = some res
  hfault : wr.heap[w.heap.size + 1]? = some (.cells #[.int .i64 f] 24 (0, 0))

theorem two_setCell {w : World} {b : Nat} {x y : Value} {t : TypeId} (h : w.heap[b]? = some (.cells #[x, y] t (0, 0))) (u v : Value) :
    ((w.setCell ⟨b, 0, none⟩ u).setCell ⟨b, 1, none⟩ v).heap[b]? = some (.cells #[u, v] t (0, 0)) := by
  simp only [World.setCell, Array.getElem?_modify, if_true, h]
  rfl

theorem CalcAt.stores {w wr : World} {x y : Value} {t : TypeId} {f : Int} (h : CalcAt w (.cells #[x, y] t (0, 0)) f wr) (u v : Value) :
    CalcAt w (.cells #[u, v] t (0, 0)) f ((wr.setCell ⟨w.heap.size, 0, none⟩ u).setCell ⟨w.heap.size, 1, none⟩ v) :=
  ⟨(h.below.setCell (by exact Nat.le_refl _) _).setCell (by exact Nat.le_refl _) _, two_setCell h.hres u v,
   heap_set_other (heap_set_other h.hfault (by show w.heap.size + 1 ≠ w.heap.size; omega) _) (by show w.heap.size + 1 ≠ w.heap.size; omega) _,
   heap_set_other (heap_set_other h.hc (by show w.heap.size + 1 + 1 ≠ w.heap.size; omega) _) (by show w.heap.size + 1 + 1 ≠ w.heap.size; omega) _⟩

theorem CalcAt.store {w wr : World} {x : Value} {t : TypeId} {f : Int} (h : CalcAt w (.cells #[x] t (0, 0)) f wr) (u : Value) :
    CalcAt w (.cells #[u] t (0, 0)) f (wr.setCell ⟨w.heap.size, 0, none⟩ u) :=
  ⟨h.below.setCell (by exact Nat.le_refl _) _, one_setCell h.hres,
   heap_set_other h.hfault (by show w.heap.size + 1 ≠ w.heap.size; omega) _,
   heap_set_other h.hc (by show w.heap.size + 1 + 1 ≠ w.heap.size; omega) _⟩

/-- What a calculation hands back: the step's numbers where nothing failed, else zeros and the first error. -/
def outN (rs : List (Int × Int)) (n f : Int) : Int := if errAll rs = 0 ∧ f = 0 then n else 0
def outS (rs : List (Int × Int)) (n : ByteArray) (f : Int) : ByteArray := if errAll rs = 0 ∧ f = 0 then n else ByteArray.empty
def outE (rs : List (Int × Int)) (f : Int) : Int := if errAll rs = 0 then f else errAll rs
theorem outN_fine {rs : List (Int × Int)} (h : errAll rs = 0) (n : Int) : n = outN rs n 0 := by simp [outN, h]
theorem outN_fault {rs : List (Int × Int)} {f : Int} (h : f ≠ 0) (n : Int) : 0 = outN rs n f := by simp [outN, h]
theorem outN_bad {rs : List (Int × Int)} {f : Int} (h : errAll rs ≠ 0) (n : Int) : 0 = outN rs n f := by simp [outN, h]
theorem outS_fine {rs : List (Int × Int)} (h : errAll rs = 0) (n : ByteArray) : n = outS rs n 0 := by simp [outS, h]
theorem outS_fault {rs : List (Int × Int)} {f : Int} (h : f ≠ 0) (n : ByteArray) : ByteArray.empty = outS rs n f := by simp [outS, h]
theorem outS_bad {rs : List (Int × Int)} {f : Int} (h : errAll rs ≠ 0) (n : ByteArray) : ByteArray.empty = outS rs n f := by simp [outS, h]
theorem outE_fine {rs : List (Int × Int)} (h : errAll rs = 0) (f : Int) : f = outE rs f := by simp [outE, h]
theorem outE_bad {rs : List (Int × Int)} (h : errAll rs ≠ 0) (f : Int) : errAll rs = outE rs f := by simp [outE, h]

end Go.Proofs.YtchjkjhkmhkjeaaDoor
