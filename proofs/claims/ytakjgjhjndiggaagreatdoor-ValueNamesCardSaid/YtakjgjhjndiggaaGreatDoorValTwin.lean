/-
  What Twin hands back of a value without a list.
-/
import Derived.Test.YtakjgjhjndiggaaGreatDoorValSix
import Derived.Test.YtakjgjhjndiggaaGreatDoorShelfB
import Derived.Laws.EntriesVeiled
import Derived.Carry
import Derived.WalkSpells
import Derived.WalkLawsBesides
import Derived.Lib.LazyBuf
namespace Go.Proofs.YtakjgjhjndiggaaGreatDoor
open Go.RowKit Go.Shelf
open VM
set_option linter.unusedVariables false
set_option linter.unusedSimpArgs false

theorem nil_slice (w : World) : (binOp .eql 26 (.slice none 0 0) (.slice none 0 0)).run Tryz.prog w = .ok (.bool true) w := by
  first
    | exact Lib.run_eql_slice_nil w _ _ none 0 0 Tryz.underlying26
    | exact run_eql_slice_nil w _ _ none 0 0 0 0 Tryz.underlying26
    | exact Lib.run_eql_slice_nil w _ _ none 0 0 0 0 Tryz.underlying26
theorem clone_any (s : ByteArray) (hs : s.size ≤ 100000) (w : World) : Calls Tryz.prog 60 #[.string s] w fun e w' => e = .returned (.string s) ∧ Below w.heap.size w w' := by
  have K := Lib.hid (fun w => Tryz.stringslite_Clone s w (by omega))
  go_enter Tryz.func60, Tryz.ntmps60
  go_wp2_with fail
  refine (K.out _).mono ?_
  rintro e w1 ⟨rfl, hb⟩
  go_wp2_with fail
  go_ret
  exact ⟨rfl, hb⟩
set_option maxHeartbeats 1000000 in
set_option maxRecDepth 100000 in
theorem twin1_any (a : Nd) (hs : a.s.size ≤ 100000) (c1 c2 : Addr) (w : World) : Calls Tryz.prog 59 #[.agg #[.int .u8 a.k, .int .i64 a.n, .int .i64 a.d, .bool a.t, .string a.s, .slice none 0 0], .pointer (some c1), .pointer (some c2)] w fun e w' => e = .returned (.agg #[.int .u8 a.k, .int .i64 a.n, .int .i64 a.d, .bool a.t, .string a.s, .slice none 0 0]) ∧ Below w.heap.size w w' := by
  have K := Lib.hid (fun w => clone_any a.s hs w)
  have hnil := nil_slice
  have hb1 : Below w.heap.size w (w.alloc (.cells #[.int .u8 a.k, .int .i64 a.n, .int .i64 a.d, .bool a.t, .string a.s, .slice none 0 0] 28)) := (Below.refl _ _).alloc (Nat.le_refl _) _
  have hb2 : Below w.heap.size w ((w.alloc (.cells #[.int .u8 a.k, .int .i64 a.n, .int .i64 a.d, .bool a.t, .string a.s, .slice none 0 0] 28)).alloc (.cells #[.int .u8 0, .int .i64 0, .int .i64 0, .bool false, .string ⟨#[]⟩, .slice none 0 0] 28)) := hb1.alloc (by simp) _
  have hb3 : Below (w.alloc (.cells #[.int .u8 a.k, .int .i64 a.n, .int .i64 a.d, .bool a.t, .string a.s, .slice none 0 0] 28)).heap.size (w.alloc (.cells #[.int .u8 a.k, .int .i64 a.n, .int .i64 a.d, .bool a.t, .string a.s, .slice none 0 0] 28)) ((w.alloc (.cells #[.int .u8 a.k, .int .i64 a.n, .int .i64 a.d, .bool a.t, .string a.s, .slice none 0 0] 28)).alloc (.cells #[.int .u8 0, .int .i64 0, .int .i64 0, .bool false, .string ⟨#[]⟩, .slice none 0 0] 28)) := (Below.refl _ _).alloc (Nat.le_refl _) _
  have S1 := Lib.hid ((Six.new w a (.slice none 0 0)).later hb3)
  have S2 := Lib.hid (Six.new (w.alloc (.cells #[.int .u8 a.k, .int .i64 a.n, .int .i64 a.d, .bool a.t, .string a.s, .slice none 0 0] 28)) ⟨0, 0, 0, false, ⟨#[]⟩⟩ (.slice none 0 0))
  rw [World.size_alloc] at S2
  have B0 := Lib.hid hb2
  clear hb1 hb2 hb3
  go_enter Tryz.func59, Tryz.ntmps59
  go_wp2_with fail
  refine (K.out _).mono ?_
  rintro e w1 ⟨rfl, hb⟩
  have S3 := Lib.hid (S1.out.later hb)
  have S4 := Lib.hid (S2.out.later hb)
  have HB := Lib.hid (B0.out.trans (hb.mono B0.out.size))
  clear hb
  have l1 := S3.out.lt
  have q0 := S3.out.row.c0
  have q1 := S3.out.row.c1
  have q2 := S3.out.row.c2
  have q3 := S3.out.row.c3
  have q4 := S3.out.row.c4
  have q5 := S3.out.row.c5
  have f4 := S3.out.free 4
  have l2 := S4.out.lt
  have g0 := S4.out.row.c0
  have g1 := S4.out.row.c1
  have g2 := S4.out.row.c2
  have g3 := S4.out.row.c3
  have g4 := S4.out.row.c4
  have g5 := S4.out.row.c5
  have k0 := S4.out.free 0
  have k1 := S4.out.free 1
  have k2 := S4.out.free 2
  have k3 := S4.out.free 3
  have k4 := S4.out.free 4
  have k5 := S4.out.free 5
  simp only [Nat.zero_add] at q1 q2 q3 q4 q5 g1 g2 g3 g4 g5
  go_wp2_with fail
  have H6 := sixSet_six (show Six (w1.setCell ⟨w.heap.size, 4, none⟩ (.string a.s)) (w.heap.size + 1) ⟨0, 0, 0, false, ⟨#[]⟩⟩ (.slice none 0 0) from S4.out.other (by show w.heap.size + 1 ≠ w.heap.size; omega) _) a (.slice none 0 0)
  have HBw := sixSet_below (a := a) (sl := .slice none 0 0) (HB.out.setCell (p := ⟨w.heap.size, 4, none⟩) (Nat.le_refl _) (.string a.s)) (Nat.le_succ w.heap.size)
  unfold sixSet at H6 HBw
  have e0 := H6.row.c0
  have e1 := H6.row.c1
  have e2 := H6.row.c2
  have e3 := H6.row.c3
  have e4 := H6.row.c4
  have e5 := H6.row.c5
  simp only [Nat.zero_add] at e1 e2 e3 e4 e5
  exact bodyPost_ret (v := .agg #[.int .u8 a.k, .int .i64 a.n, .int .i64 a.d, .bool a.t, .string a.s, .slice none 0 0]) (by simp [results, Tryz.results59, go_sem, q0, q1, q2, q3, q4, q5, l1, e0, e1, e2, e3, e4, e5] <;> rfl) rfl ⟨rfl, HBw⟩
set_option maxHeartbeats 1000000 in
set_option maxRecDepth 100000 in
theorem twin_any (a : Nd) (hs : a.s.size ≤ 100000) (w : World) : Calls Tryz.prog 39 #[.agg #[.int .u8 a.k, .int .i64 a.n, .int .i64 a.d, .bool a.t, .string a.s, .slice none 0 0]] w fun e w' => e = .returned (.agg #[.int .u8 a.k, .int .i64 a.n, .int .i64 a.d, .bool a.t, .string a.s, .slice none 0 0]) ∧ Below w.heap.size w w' := by
  have hmf : ∀ (fn : Fn) (first cap : Array Value) (w : World), (Instr.makeFunc fn first cap).run Tryz.prog w = .ok (.func fn first cap) w := fun _ _ _ _ => rfl
  have hmm : ∀ (t : TypeId) (w : World), (Instr.makeMap t none).run Tryz.prog w = .ok (.map (some w.heap.size)) (w.alloc (.map #[] 0)) := fun t w => run_makeMap t w
  have K := Lib.hid (fun c1 c2 w => twin1_any a hs c1 c2 w)
  have hb1 : Below w.heap.size w (w.alloc (.cells #[.int .u8 a.k, .int .i64 a.n, .int .i64 a.d, .bool a.t, .string a.s, .slice none 0 0] 28)) := (Below.refl _ _).alloc (Nat.le_refl _) _
  have S2 := Lib.hid (Six.new (w.alloc (.cells #[.int .u8 a.k, .int .i64 a.n, .int .i64 a.d, .bool a.t, .string a.s, .slice none 0 0] 28)) ⟨0, 0, 0, false, ⟨#[]⟩⟩ (.slice none 0 0))
  rw [World.size_alloc] at S2
  have B0 := Lib.hid (hb1.alloc (by simp : w.heap.size ≤ _) (.cells #[.int .u8 0, .int .i64 0, .int .i64 0, .bool false, .string ⟨#[]⟩, .slice none 0 0] 28))
  have HW : Hid (∀ (w2 : World) (o3 o4 o5 : Obj), Below w2.heap.size w2 (((w2.alloc o3).alloc o4).alloc o5)) := Lib.hid fun w2 o3 o4 o5 => (((Below.refl _ _).alloc (Nat.le_refl _) _).alloc (by simp) _).alloc (by simp; omega) _
  clear hb1
  go_enter Tryz.func39, Tryz.ntmps39
  go_wp2_with fail
  refine (K.out _ _ _).mono ?_
  rintro e w1 ⟨rfl, hb⟩
  have S3 := Lib.hid ((S2.out.later (HW.out _ _ _ _)).later hb)
  have HB := Lib.hid (B0.out.trans (((HW.out _ _ _ _).trans (hb.mono (HW.out _ _ _ _).size)).mono B0.out.size))
  clear hb
  have l1 := S3.out.lt
  have q0 := S3.out.row.c0
  have q1 := S3.out.row.c1
  have q2 := S3.out.row.c2
  have q3 := S3.out.row.c3
  have q4 := S3.out.row.c4
  have q5 := S3.out.row.c5
  have f0 := S3.out.free 0
  have f1 := S3.out.free 1
  have f2 := S3.out.free 2
  have f3 := S3.out.free 3
  have f4 := S3.out.free 4
  have f5 := S3.out.free 5
  simp only [Nat.zero_add] at q1 q2 q3 q4 q5
  go_wp2_with fail
  have H6 := sixSet_six S3.out a (.slice none 0 0)
  have HBw := sixSet_below (a := a) (sl := .slice none 0 0) HB.out (Nat.le_succ _)
  unfold sixSet at H6 HBw
  have e0 := H6.row.c0
  have e1 := H6.row.c1
  have e2 := H6.row.c2
  have e3 := H6.row.c3
  have e4 := H6.row.c4
  have e5 := H6.row.c5
  simp only [Nat.zero_add] at e1 e2 e3 e4 e5
  exact bodyPost_ret (v := .agg #[.int .u8 a.k, .int .i64 a.n, .int .i64 a.d, .bool a.t, .string a.s, .slice none 0 0]) (by simp [results, Tryz.results39, go_sem, q0, q1, q2, q3, q4, q5, l1, e0, e1, e2, e3, e4, e5] <;> rfl) rfl ⟨rfl, HBw⟩
end Go.Proofs.YtakjgjhjndiggaaGreatDoor
