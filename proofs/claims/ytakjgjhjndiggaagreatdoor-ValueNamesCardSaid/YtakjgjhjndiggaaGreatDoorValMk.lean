/-
  What the laws' makers of values hand back.
-/
import Derived.Test.YtakjgjhjndiggaaGreatDoorValCmpB
import Derived.Test.YtakjgjhjndiggaaGreatDoorValRfA
namespace Go.Proofs.YtakjgjhjndiggaaGreatDoor
open Go.RowKit Go.Shelf
open VM
set_option linter.unusedVariables false
set_option linter.unusedSimpArgs false

theorem cell_later {w w' : World} {b o : Nat} {v : Value} (h : w.cell? ⟨b, o, none⟩ = some v) (hb : Below w.heap.size w w') : w'.cell? ⟨b, o, none⟩ = some v :=
  (cell_of_heap (hb.block b (lt_of_cell h)) o).trans h
theorem below_chain {w w1 w2 : World} (h : Below w.heap.size w w1) (hb : Below w1.heap.size w1 w2) : Below w.heap.size w w2 := h.trans (hb.mono h.size)
theorem of_law (n d : Int) (w : World) : Calls Tryz.prog 13 #[.int .i64 n, .int .i64 d] w fun e w' => e = .returned (.agg #[.int .u8 1, .int .i64 n, .int .i64 d, .bool false, .string ⟨#[]⟩, .slice none 0 0]) ∧ Below w.heap.size w w' := by
  have S0 := Lib.hid (Six.new w ⟨0, 0, 0, false, ⟨#[]⟩⟩ (.slice none 0 0))
  have B0 : Hid (Below w.heap.size w (w.alloc (.cells #[.int .u8 0, .int .i64 0, .int .i64 0, .bool false, .string ⟨#[]⟩, .slice none 0 0] 28))) := Lib.hid ((Below.refl _ _).alloc (Nat.le_refl _) _)
  go_enter Tryz.func13, Tryz.ntmps13
  go_wp2_with fail
  refine (of_any n d _).mono ?_
  rintro e w1 ⟨rfl, hb1⟩
  have S1 := Lib.hid (S0.out.later hb1)
  have HB1 := Lib.hid (B0.out.trans (hb1.mono B0.out.size))
  clear hb1
  have l1 := S1.out.lt
  have q0 := S1.out.row.c0
  have q1 := S1.out.row.c1
  have q2 := S1.out.row.c2
  have q3 := S1.out.row.c3
  have q4 := S1.out.row.c4
  have q5 := S1.out.row.c5
  have f0 := S1.out.free 0
  have f1 := S1.out.free 1
  have f2 := S1.out.free 2
  have f3 := S1.out.free 3
  have f4 := S1.out.free 4
  have f5 := S1.out.free 5
  simp only [Nat.zero_add] at q1 q2 q3 q4 q5
  go_wp2_with fail
  have H6 := sixSet_six S1.out ⟨1, n, d, false, ⟨#[]⟩⟩ (.slice none 0 0)
  have HBw := sixSet_below (a := ⟨1, n, d, false, ⟨#[]⟩⟩) (sl := .slice none 0 0) HB1.out (Nat.le_refl _)
  unfold sixSet at H6 HBw
  have e0 := H6.row.c0
  have e1 := H6.row.c1
  have e2 := H6.row.c2
  have e3 := H6.row.c3
  have e4 := H6.row.c4
  have e5 := H6.row.c5
  simp only [Nat.zero_add] at e1 e2 e3 e4 e5
  exact bodyPost_ret (v := .agg #[.int .u8 1, .int .i64 n, .int .i64 d, .bool false, .string ⟨#[]⟩, .slice none 0 0]) (by simp [results, Tryz.results13, go_sem, q0, q1, q2, q3, q4, q5, l1, e0, e1, e2, e3, e4, e5] <;> rfl) rfl ⟨rfl, HBw⟩
theorem str_law (s : ByteArray) (w : World) : Calls Tryz.prog 14 #[.string s] w fun e w' => e = .returned (.agg #[.int .u8 3, .int .i64 0, .int .i64 0, .bool false, .string s, .slice none 0 0]) ∧ Below w.heap.size w w' := by
  have S0 := Lib.hid (Six.new w ⟨0, 0, 0, false, ⟨#[]⟩⟩ (.slice none 0 0))
  have B0 : Hid (Below w.heap.size w (w.alloc (.cells #[.int .u8 0, .int .i64 0, .int .i64 0, .bool false, .string ⟨#[]⟩, .slice none 0 0] 28))) := Lib.hid ((Below.refl _ _).alloc (Nat.le_refl _) _)
  go_enter Tryz.func14, Tryz.ntmps14
  go_wp2_with fail
  refine (str_any s _).mono ?_
  rintro e w1 ⟨rfl, hb1⟩
  have S1 := Lib.hid (S0.out.later hb1)
  have HB1 := Lib.hid (B0.out.trans (hb1.mono B0.out.size))
  clear hb1
  have l1 := S1.out.lt
  have q0 := S1.out.row.c0
  have q1 := S1.out.row.c1
  have q2 := S1.out.row.c2
  have q3 := S1.out.row.c3
  have q4 := S1.out.row.c4
  have q5 := S1.out.row.c5
  have f0 := S1.out.free 0
  have f1 := S1.out.free 1
  have f2 := S1.out.free 2
  have f3 := S1.out.free 3
  have f4 := S1.out.free 4
  have f5 := S1.out.free 5
  simp only [Nat.zero_add] at q1 q2 q3 q4 q5
  go_wp2_with fail
  have H6 := sixSet_six S1.out ⟨3, 0, 0, false, s⟩ (.slice none 0 0)
  have HBw := sixSet_below (a := ⟨3, 0, 0, false, s⟩) (sl := .slice none 0 0) HB1.out (Nat.le_refl _)
  unfold sixSet at H6 HBw
  have e0 := H6.row.c0
  have e1 := H6.row.c1
  have e2 := H6.row.c2
  have e3 := H6.row.c3
  have e4 := H6.row.c4
  have e5 := H6.row.c5
  simp only [Nat.zero_add] at e1 e2 e3 e4 e5
  exact bodyPost_ret (v := .agg #[.int .u8 3, .int .i64 0, .int .i64 0, .bool false, .string s, .slice none 0 0]) (by simp [results, Tryz.results14, go_sem, q0, q1, q2, q3, q4, q5, l1, e0, e1, e2, e3, e4, e5] <;> rfl) rfl ⟨rfl, HBw⟩
theorem list_law (p : Option Addr) (n cap : Nat) (w : World) : Calls Tryz.prog 11 #[.slice p n cap] w fun e w' => e = .returned (.agg #[.int .u8 4, .int .i64 0, .int .i64 0, .bool false, .string ⟨#[]⟩, .slice p n cap]) ∧ Below w.heap.size w w' := by
  have H6 := Six.new w ⟨4, 0, 0, false, ⟨#[]⟩⟩ (.slice p n cap)
  have e0 := H6.row.c0
  have e1 := H6.row.c1
  have e2 := H6.row.c2
  have e3 := H6.row.c3
  have e4 := H6.row.c4
  have e5 := H6.row.c5
  simp only [Nat.zero_add] at e1 e2 e3 e4 e5
  clear H6
  go_enter Tryz.func11, Tryz.ntmps11
  go_wp2_with fail
  exact bodyPost_ret (v := .agg #[.int .u8 4, .int .i64 0, .int .i64 0, .bool false, .string ⟨#[]⟩, .slice p n cap]) (by simp [results, Tryz.results11, go_sem, e0, e1, e2, e3, e4, e5] <;> rfl) rfl ⟨rfl, (Below.refl _ _).alloc (Nat.le_refl _) _⟩
end Go.Proofs.YtakjgjhjndiggaaGreatDoor
