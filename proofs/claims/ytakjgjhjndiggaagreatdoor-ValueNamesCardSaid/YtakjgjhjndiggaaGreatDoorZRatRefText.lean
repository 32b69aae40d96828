/-
  What the reference's Text hands back.
-/
import Derived.Test.YtakjgjhjndiggaaGreatDoorZRatDecimal
import Derived.Test.YtakjgjhjndiggaaGreatDoorZRatRefAll
import Derived.Lib.QuietBelow
import Derived.BigQuiet
namespace Go.Proofs.YtakjgjhjndiggaaGreatDoor
open Go.RowKit
open RM
set_option linter.unusedVariables false
set_option linter.unusedSimpArgs false

set_option maxHeartbeats 400000 in
theorem reftext_bad (an ad : Int) (hv : vld an ad = false) (w : World) :
    Calls Tryz.prog 72 #[.agg #[.int .i64 an, .int .i64 ad]] w fun e w' => e = .returned (.tuple #[.string ByteArray.empty, .int .i64 8]) ∧ Below w.heap.size w w' := by
  have h0 := fun w => refcheck_any an ad w
  rw [chk_not hv] at h0
  have K := Lib.hid h0
  clear h0
  go_enter Tryz.func72, Tryz.ntmps72
  go_wp2_with fail
  refine (K.out _).mono ?_
  rintro e w1 ⟨rfl, hb⟩
  have HB := Lib.hid (((Below.refl _ _).alloc (Nat.le_refl _) _).trans (hb.mono (by simp)))
  have e1 := Lib.hid (below_new hb (heap_alloc_new w (.cells #[.int .i64 an, .int .i64 ad] 25)))
  have l1 := lt_of_block e1.out
  have p1 := cell_two0 e1.out
  have q1 := cell_two1 e1.out
  clear hb
  go_wp2_with fail
  refine (K.out _).mono ?_
  rintro e w2 ⟨rfl, hb⟩
  have HB2 := Lib.hid (HB.out.trans (hb.mono HB.out.size))
  clear hb
  go_wp2_with fail
  go_ret2
  exact ⟨rfl, HB2.out⟩

set_option maxHeartbeats 400000 in
theorem reftext_fine (an ad : Int) (D : Int → ByteArray) (z : ByteArray) (hx : (D an).size ≤ 30) (hy : (D ad).size ≤ 30) (b1 : -1000000000 ≤ an) (b2 : an ≤ 1000000000) (b3 : 1 ≤ ad) (b4 : ad ≤ 1000000000) (hv : vld an ad = true) (hz : z = if ad = 1 then D an else D an ++ ((⟨#[47]⟩ : ByteArray) ++ D ad)) (w : World)
    (h1 : ∀ n, -9223372036854775807 ≤ n → n ≤ 9223372036854775807 → ∀ w, Calls Tryz.prog 101 #[.int .i64 n] w fun e w' => e = .returned (.string (D n)) ∧ Below w.heap.size w w') :
    Calls Tryz.prog 72 #[.agg #[.int .i64 an, .int .i64 ad]] w fun e w' => e = .returned (.tuple #[.string z, .int .i64 0]) ∧ Below w.heap.size w w' := by
  have h0 := fun w => refcheck_any an ad w
  rw [chk_valid hv] at h0
  have K := Lib.hid h0
  have K1 := Lib.hid h1
  have HZ := Lib.hid hz
  clear h0 h1 hz
  by_cases hd : ad = 1
  · have hq : (ad == 1) = true := by rw [hd]; rfl
    have HD := Lib.hid hd
    clear hd
    go_enter Tryz.func72, Tryz.ntmps72
    go_wp2_with fail
    refine (K.out _).mono ?_
    rintro e w1 ⟨rfl, hb⟩
    have HB := Lib.hid (((Below.refl _ _).alloc (Nat.le_refl _) _).trans (hb.mono (by simp)))
    have e1 := Lib.hid (below_new hb (heap_alloc_new w (.cells #[.int .i64 an, .int .i64 ad] 25)))
    have l1 := lt_of_block e1.out
    have p1 := cell_two0 e1.out
    have q1 := cell_two1 e1.out
    clear hb
    go_wp2_with fail
    refine (K1.out _ (by omega) (by omega) _).mono ?_
    rintro e w2 ⟨rfl, hb⟩
    have HB2 := Lib.hid (HB.out.trans (hb.mono HB.out.size))
    clear hb
    go_wp2_with fail
    go_ret2
    exact ⟨by rw [HZ.out, if_pos HD.out]; rfl, HB2.out⟩
  · have hq : (ad == 1) = false := by rw [beq_eq_false_iff_ne]; exact hd
    have HD := Lib.hid hd
    clear hd
    go_enter Tryz.func72, Tryz.ntmps72
    go_wp2_with fail
    refine (K.out _).mono ?_
    rintro e w1 ⟨rfl, hb⟩
    have HB := Lib.hid (((Below.refl _ _).alloc (Nat.le_refl _) _).trans (hb.mono (by simp)))
    have e1 := Lib.hid (below_new hb (heap_alloc_new w (.cells #[.int .i64 an, .int .i64 ad] 25)))
    have l1 := lt_of_block e1.out
    have p1 := cell_two0 e1.out
    have q1 := cell_two1 e1.out
    clear hb
    have r1 := fun d os => cell_regrown p1 d os
    have s1 := fun d os => cell_regrown q1 d os
    go_wp2_with fail
    refine wp_region_quiet_below (by kernel_rfl) (by kernel_rfl) ?_
    repeat (any_goals (first | go_big_quiet_step (first | (go_at_call 101; exact Calls.regrown_of (K1.out _ (by omega) (by omega) _))) | quiet_step (first | (go_at_call 101; exact Calls.regrown_of (K1.out _ (by omega) (by omega) _)))))
    refine wpQuiet_nil ?_
    intro _ hw'
    obtain ⟨⟨dq, osq⟩, hw''⟩ := hw'
    subst hw''
    go_wp2_with fail
    go_ret2
    exact ⟨by rw [HZ.out, if_neg HD.out]; simp [ByteArray.append_assoc], HB.out.trans ((below_regrown _ _ _).mono HB.out.size)⟩

theorem reftext_any (an ad : Int) (w : World) :
    Calls Tryz.prog 72 #[.agg #[.int .i64 an, .int .i64 ad]] w fun e w' => e = .returned (.tuple #[.string (outS [(an, ad)] (textB an ad) 0), .int .i64 (okE (vld an ad))]) ∧ Below w.heap.size w w' := by
  cases hv : vld an ad with
  | false =>
    have h := reftext_bad an ad hv w
    rwa [show outS [(an, ad)] (textB an ad) 0 = ByteArray.empty by simp [outS, errAll_one, hv]]
  | true =>
    obtain ⟨a1, a2, a3, a4, _⟩ := vld_iff.1 hv
    rw [show outS [(an, ad)] (textB an ad) 0 = textB an ad by simp [outS, errAll_one, hv]]
    have s1 := Lib.itoa_length_le an (by omega) (by omega)
    have s2 := Lib.itoa_length_le ad (by omega) (by omega)
    refine reftext_fine an ad (fun n => ⟨(Lib.itoa n).toArray⟩) _ (by show (Lib.itoa an).toArray.size ≤ 30; simp; omega) (by show (Lib.itoa ad).toArray.size ≤ 30; simp; omega) a3 a4 a1 a2 hv ?_ w (fun n h1 h2 w => decimal_any n h1 h2 w)
    unfold textB textL
    split
    · rfl
    · apply ByteArray.ext; simp [ByteArray.data_append]
end Go.Proofs.YtakjgjhjndiggaaGreatDoor
