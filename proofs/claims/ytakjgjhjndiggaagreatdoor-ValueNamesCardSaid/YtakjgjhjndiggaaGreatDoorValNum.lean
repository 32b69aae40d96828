/-
  Numbers.
-/
import Derived.Test.YtakjgjhjndiggaaGreatDoorValRfN
import Derived.Test.YtakjgjhjndiggaaGreatDoorZRatText
import Derived.Test.YtakjgjhjndiggaaGreatDoorZRatRefAll
namespace Go.Proofs.YtakjgjhjndiggaaGreatDoor
open Go.RowKit Go.Shelf
open VM
open RM (mkN mkD mkE)
set_option linter.unusedVariables false
set_option linter.unusedSimpArgs false

set_option maxHeartbeats 2000000 in
theorem number_api (n d : Int) (h1 : -9223372036854775808 ≤ n) (h2 : n ≤ 9223372036854775807) (h3 : -9223372036854775808 ≤ d) (h4 : d ≤ 9223372036854775807) (w : World) : Calls Tryz.prog 19 #[.int .i64 n, .int .i64 d] w fun e w' => e = .returned (.tuple #[.agg #[.int .u8 (numR (mkN n d) (mkD n d) (mkE n d)).nd.k, .int .i64 (numR (mkN n d) (mkD n d) (mkE n d)).nd.n, .int .i64 (numR (mkN n d) (mkD n d) (mkE n d)).nd.d, .bool (numR (mkN n d) (mkD n d) (mkE n d)).nd.t, .string (numR (mkN n d) (mkD n d) (mkE n d)).nd.s, .slice none 0 0], .int .i64 (mkE n d)]) ∧ Below w.heap.size w w' := by
  have S0 := Lib.hid (Six.new w ⟨0, 0, 0, false, ⟨#[]⟩⟩ (.slice none 0 0))
  have B0 : Hid (Below w.heap.size w (w.alloc (.cells #[.int .u8 0, .int .i64 0, .int .i64 0, .bool false, .string ⟨#[]⟩, .slice none 0 0] 28))) := Lib.hid ((Below.refl _ _).alloc (Nat.le_refl _) _)
  have KM := Lib.hid (fun w => make_any n d h1 h2 h3 h4 w)
  have KV := Lib.hid (fun w => vnumber_any (mkN n d) (mkD n d) (mkE n d) w)
  generalize hR : numR (mkN n d) (mkD n d) (mkE n d) = R at *
  generalize mkN n d = N at *
  generalize mkD n d = E at *
  generalize mkE n d = f at *
  clear hR
  go_enter Tryz.func19, Tryz.ntmps19
  go_wp2_with fail
  refine (KM.out _).mono ?_
  rintro e w1 ⟨rfl, hb1⟩
  go_wp2_with fail
  refine (KV.out _).mono ?_
  rintro e w2 ⟨rfl, hb2⟩
  have S1 := Lib.hid ((S0.out.later hb1).later hb2)
  have HB1 := Lib.hid ((B0.out.trans (hb1.mono B0.out.size)).trans (hb2.mono (Nat.le_trans B0.out.size hb1.size)))
  clear hb1 hb2
  have l1 := S1.out.lt
  have q0 := S1.out.row.c0
  have q1 := S1.out.row.c1
  have q2 := S1.out.row.c2
  have q3 := S1.out.row.c3
  have q4 := S1.out.row.c4
  have q5 := S1.out.row.c5
  have f0 := S1.out.free 0
  have f1 := S1.out.free 1
  have f2 := S1.out.free 2
  have f3 := S1.out.free 3
  have f4 := S1.out.free 4
  have f5 := S1.out.free 5
  simp only [Nat.zero_add] at q1 q2 q3 q4 q5
  go_wp2_with fail
  have H6 := sixSet_six S1.out R.nd (.slice none 0 0)
  have HBw := sixSet_below (a := R.nd) (sl := (.slice none 0 0)) HB1.out (Nat.le_refl _)
  unfold sixSet at H6 HBw
  have e0 := H6.row.c0
  have e1 := H6.row.c1
  have e2 := H6.row.c2
  have e3 := H6.row.c3
  have e4 := H6.row.c4
  have e5 := H6.row.c5
  simp only [Nat.zero_add] at e1 e2 e3 e4 e5
  exact bodyPost_ret (v := .tuple #[.agg #[.int .u8 R.nd.k, .int .i64 R.nd.n, .int .i64 R.nd.d, .bool R.nd.t, .string R.nd.s, .slice none 0 0], .int .i64 f]) (by simp [results, Tryz.results19, go_sem, q0, q1, q2, q3, q4, q5, l1, e0, e1, e2, e3, e4, e5] <;> rfl) rfl ⟨rfl, HBw⟩
set_option maxHeartbeats 2000000 in
theorem refnumber_api (n d : Int) (h1 : -9223372036854775808 ≤ n) (h2 : n ≤ 9223372036854775807) (h3 : -9223372036854775808 ≤ d) (h4 : d ≤ 9223372036854775807) (w : World) : Calls Tryz.prog 28 #[.int .i64 n, .int .i64 d] w fun e w' => e = .returned (.tuple #[.agg #[.int .u8 (numR (mkN n d) (mkD n d) (mkE n d)).nd.k, .int .i64 (numR (mkN n d) (mkD n d) (mkE n d)).nd.n, .int .i64 (numR (mkN n d) (mkD n d) (mkE n d)).nd.d, .bool (numR (mkN n d) (mkD n d) (mkE n d)).nd.t, .string (numR (mkN n d) (mkD n d) (mkE n d)).nd.s, .slice none 0 0], .int .i64 (mkE n d)]) ∧ Below w.heap.size w w' := by
  have S0 := Lib.hid (Six.new w ⟨0, 0, 0, false, ⟨#[]⟩⟩ (.slice none 0 0))
  have B0 : Hid (Below w.heap.size w (w.alloc (.cells #[.int .u8 0, .int .i64 0, .int .i64 0, .bool false, .string ⟨#[]⟩, .slice none 0 0] 28))) := Lib.hid ((Below.refl _ _).alloc (Nat.le_refl _) _)
  have KM := Lib.hid (fun w => refmake_all n d h1 h2 h3 h4 w)
  have KV := Lib.hid (fun w => of_any (mkN n d) (mkD n d) w)
  have HN : Hid (numR (mkN n d) (mkD n d) (mkE n d) = if mkE n d = 0 then numV' (mkN n d) (mkD n d) else zerV) := Lib.hid rfl
  generalize hR : numR (mkN n d) (mkD n d) (mkE n d) = R at *
  generalize mkN n d = N at *
  generalize mkD n d = E at *
  generalize mkE n d = f at *
  clear hR
  go_enter Tryz.func28, Tryz.ntmps28
  go_wp2_with fail
  refine (KM.out _).mono ?_
  rintro e w1 ⟨rfl, hb1⟩
  obtain ⟨W1, hW1⟩ : ∃ W1, W1 = w1.alloc (.cells #[.int .i64 N, .int .i64 E] 25) := ⟨_, rfl⟩
  have hbw : Below w1.heap.size w1 W1 := by rw [hW1]; exact (Below.refl _ _).alloc (Nat.le_refl _) _
  have S1 := Lib.hid ((S0.out.later hb1).later hbw)
  have HB1 := Lib.hid ((B0.out.trans (hb1.mono B0.out.size)).trans (hbw.mono (Nat.le_trans B0.out.size hb1.size)))
  clear hb1 hbw
  by_cases hf : f = 0
  · have hf1 : ((f : Int) != 0) = false := by rw [hf]; rfl
    have hf2 : ((f : Int) == 0) = true := by rw [hf]; rfl
    have HRe := Lib.hid (HN.out.trans (if_pos hf))
    go_wp2_with fail
    rw [← hW1]
    refine (KV.out _).mono ?_
    rintro e w2 ⟨rfl, hb2⟩
    have S2 := Lib.hid (S1.out.later hb2)
    have HB2 := Lib.hid (HB1.out.trans (hb2.mono HB1.out.size))
    clear hb2 hW1
    have l1 := S2.out.lt
    have q0 := S2.out.row.c0
    have q1 := S2.out.row.c1
    have q2 := S2.out.row.c2
    have q3 := S2.out.row.c3
    have q4 := S2.out.row.c4
    have q5 := S2.out.row.c5
    have f0 := S2.out.free 0
    have f1 := S2.out.free 1
    have f2 := S2.out.free 2
    have f3 := S2.out.free 3
    have f4 := S2.out.free 4
    have f5 := S2.out.free 5
    simp only [Nat.zero_add] at q1 q2 q3 q4 q5
    go_wp2_with fail
    have H6 := sixSet_six S2.out ⟨1, N, E, false, ⟨#[]⟩⟩ (.slice none 0 0)
    have HBw := sixSet_below (a := ⟨1, N, E, false, ⟨#[]⟩⟩) (sl := (.slice none 0 0)) HB2.out (Nat.le_refl _)
    unfold sixSet at H6 HBw
    have e0 := H6.row.c0
    have e1 := H6.row.c1
    have e2 := H6.row.c2
    have e3 := H6.row.c3
    have e4 := H6.row.c4
    have e5 := H6.row.c5
    simp only [Nat.zero_add] at e1 e2 e3 e4 e5
    exact bodyPost_ret (v := .tuple #[.agg #[.int .u8 1, .int .i64 N, .int .i64 E, .bool false, .string ⟨#[]⟩, .slice none 0 0], .int .i64 0]) (by simp [results, Tryz.results28, go_sem, q0, q1, q2, q3, q4, q5, l1, e0, e1, e2, e3, e4, e5] <;> rfl) rfl ⟨by rw [HRe.out, hf]; rfl, HBw⟩
  · have hf1 : ((f : Int) != 0) = true := by simp [bne]; exact hf
    have hf2 : ((f : Int) == 0) = false := beq_eq_false_iff_ne.2 hf
    have HRe := Lib.hid (HN.out.trans (if_neg hf))
    have l1 := S1.out.lt
    have q0 := S1.out.row.c0
    have q1 := S1.out.row.c1
    have q2 := S1.out.row.c2
    have q3 := S1.out.row.c3
    have q4 := S1.out.row.c4
    have q5 := S1.out.row.c5
    have f0 := S1.out.free 0
    have f1 := S1.out.free 1
    have f2 := S1.out.free 2
    have f3 := S1.out.free 3
    have f4 := S1.out.free 4
    have f5 := S1.out.free 5
    simp only [Nat.zero_add] at q1 q2 q3 q4 q5
    rw [hW1] at l1 q0 q1 q2 q3 q4 q5 f0 f1 f2 f3 f4 f5 S1 HB1
    clear hW1
    go_wp2_with fail
    have H6 := sixSet_six S1.out ⟨0, 0, 0, false, ⟨#[]⟩⟩ (.slice none 0 0)
    have HBw := sixSet_below (a := ⟨0, 0, 0, false, ⟨#[]⟩⟩) (sl := (.slice none 0 0)) HB1.out (Nat.le_refl _)
    unfold sixSet at H6 HBw
    have e0 := H6.row.c0
    have e1 := H6.row.c1
    have e2 := H6.row.c2
    have e3 := H6.row.c3
    have e4 := H6.row.c4
    have e5 := H6.row.c5
    simp only [Nat.zero_add] at e1 e2 e3 e4 e5
    exact bodyPost_ret (v := .tuple #[.agg #[.int .u8 0, .int .i64 0, .int .i64 0, .bool false, .string ⟨#[]⟩, .slice none 0 0], .int .i64 f]) (by simp [results, Tryz.results28, go_sem, q0, q1, q2, q3, q4, q5, l1, e0, e1, e2, e3, e4, e5] <;> rfl) rfl ⟨by rw [HRe.out]; rfl, HBw⟩
end Go.Proofs.YtakjgjhjndiggaaGreatDoor
