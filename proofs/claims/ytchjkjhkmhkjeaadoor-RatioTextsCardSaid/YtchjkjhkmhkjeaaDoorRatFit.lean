/-
  What the laws share: fit, and operations on valid ratios.
-/
import Derived.Test.YtchjkjhkmhkjeaaDoorRatAlive
import Derived.Test.YtchjkjhkmhkjeaaDoorRatAlg
import Derived.Test.YtchjkjhkmhkjeaaDoorRatRef
namespace Go.Proofs.YtchjkjhkmhkjeaaDoor
open Go.RowKit
open RM
set_option linter.unusedVariables false
set_option linter.unusedSimpArgs false

theorem ret_bool {a b : Bool} (h : a = b) : Ending.returned (.bool a) = .returned (.bool b) := by rw [h]
set_option maxHeartbeats 400000 in
theorem fit_any (an ad bn bd : Int) (w : World) :
    Calls Tryd.prog 22 #[.agg #[.int .i64 an, .int .i64 ad], .agg #[.int .i64 bn, .int .i64 bd]] w fun e w' => e = .returned (.bool (vld an ad && vld bn bd)) ∧ Below w.heap.size w w' := by
  have hb : (both an ad bn bd == 0) = (vld an ad && vld bn bd) := by
    cases h : (vld an ad && vld bn bd) <;> simp [both, h]
  have Hb := Lib.hid hb
  clear hb
  go_enter Tryd.func22, Tryd.ntmps22
  go_wp2_with fail
  refine (both_any an ad bn bd _).mono ?_
  rintro e w1 ⟨rfl, hb1⟩
  have HB := Lib.hid hb1
  clear hb1
  go_wp2_with fail
  go_ret
  exact ⟨ret_bool Hb.out, by exact Below.trans (((Below.refl _ _).alloc (Nat.le_refl _) _).alloc (by simp) _) (HB.out.mono (by simp; omega))⟩
theorem fit_yes {an ad bn bd : Int} (ha : vld an ad = true) (hb : vld bn bd = true) (w : World) :
    Calls Tryd.prog 22 #[.agg #[.int .i64 an, .int .i64 ad], .agg #[.int .i64 bn, .int .i64 bd]] w fun e w' => e = .returned (.bool true) ∧ Below w.heap.size w w' := by
  have h := fit_any an ad bn bd w; rw [ha, hb] at h; exact h
theorem fit_no {an ad bn bd : Int} (h : (vld an ad && vld bn bd) = false) (w : World) :
    Calls Tryd.prog 22 #[.agg #[.int .i64 an, .int .i64 ad], .agg #[.int .i64 bn, .int .i64 bd]] w fun e w' => e = .returned (.bool false) ∧ Below w.heap.size w w' := by
  have h' := fit_any an ad bn bd w; rw [h] at h'; exact h'

theorem add_valid {an ad bn bd : Int} (ha : vld an ad = true) (hb : vld bn bd = true) (w : World) :
    Calls Tryd.prog 18 #[.agg #[.int .i64 an, .int .i64 ad], .agg #[.int .i64 bn, .int .i64 bd]] w fun e w' => e = .returned (.tuple #[.agg #[.int .i64 (mkN (an * bd + bn * ad) (ad * bd)), .int .i64 (mkD (an * bd + bn * ad) (ad * bd))], .int .i64 (mkE (an * bd + bn * ad) (ad * bd))]) ∧ Below w.heap.size w w' := by
  have h := add_any an ad bn bd w
  simpa only [ha, hb, Bool.and_self, op2N, op2D, op2E, if_true] using h
theorem sub_valid {an ad bn bd : Int} (ha : vld an ad = true) (hb : vld bn bd = true) (w : World) :
    Calls Tryd.prog 24 #[.agg #[.int .i64 an, .int .i64 ad], .agg #[.int .i64 bn, .int .i64 bd]] w fun e w' => e = .returned (.tuple #[.agg #[.int .i64 (mkN (an * bd - bn * ad) (ad * bd)), .int .i64 (mkD (an * bd - bn * ad) (ad * bd))], .int .i64 (mkE (an * bd - bn * ad) (ad * bd))]) ∧ Below w.heap.size w w' := by
  have h := sub_any an ad bn bd w
  simpa only [ha, hb, Bool.and_self, op2N, op2D, op2E, if_true] using h
theorem mul_valid {an ad bn bd : Int} (ha : vld an ad = true) (hb : vld bn bd = true) (w : World) :
    Calls Tryd.prog 23 #[.agg #[.int .i64 an, .int .i64 ad], .agg #[.int .i64 bn, .int .i64 bd]] w fun e w' => e = .returned (.tuple #[.agg #[.int .i64 (mkN (an * bn) (ad * bd)), .int .i64 (mkD (an * bn) (ad * bd))], .int .i64 (mkE (an * bn) (ad * bd))]) ∧ Below w.heap.size w w' := by
  have h := mul_any an ad bn bd w
  simpa only [ha, hb, Bool.and_self, op2N, op2D, op2E, if_true] using h
theorem div_valid {an ad bn bd : Int} (ha : vld an ad = true) (hb : vld bn bd = true) (w : World) :
    Calls Tryd.prog 16 #[.agg #[.int .i64 an, .int .i64 ad], .agg #[.int .i64 bn, .int .i64 bd]] w fun e w' => e = .returned (.tuple #[.agg #[.int .i64 (mkN (an * bd) (ad * bn)), .int .i64 (mkD (an * bd) (ad * bn))], .int .i64 (mkE (an * bd) (ad * bn))]) ∧ Below w.heap.size w w' := by
  have h := div_any an ad bn bd w
  simpa only [ha, hb, Bool.and_self, op2N, op2D, op2E, if_true] using h
end Go.Proofs.YtchjkjhkmhkjeaaDoor
