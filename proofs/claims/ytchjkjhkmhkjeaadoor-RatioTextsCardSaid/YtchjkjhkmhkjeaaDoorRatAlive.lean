/-
  The chapter's examples, as the laws ask for them.
-/
import Derived.Test.YtchjkjhkmhkjeaaDoorRatText
import Derived.Lib.QuietBelow
import Derived.BigQuiet
namespace Go.Proofs.YtchjkjhkmhkjeaaDoor
open Go.RowKit
open RM
set_option linter.unusedVariables false
set_option linter.unusedSimpArgs false

set_option maxHeartbeats 400000 in
theorem part_any (n d : Int) (w : World) :
    Calls Tryd.prog 17 #[.int .i64 n, .int .i64 d] w fun e w' => e = .returned (.agg #[.int .i64 n, .int .i64 d]) ∧ Below w.heap.size w w' := by
  go_enter Tryd.func17, Tryd.ntmps17
  go_wp2_with fail
  exact bodyPost_ret (v := .agg #[.int .i64 n, .int .i64 d]) (by simp [results, Tryd.results17, go_sem]) rfl ⟨rfl, by repeat (first | exact Below.refl _ _ | exact (Below.refl _ _).alloc (Nat.le_refl _) _)⟩

theorem ex_add (w : World) : Calls Tryd.prog 18 #[.agg #[.int .i64 1, .int .i64 2], .agg #[.int .i64 1, .int .i64 3]] w fun e w' => e = .returned (.tuple #[.agg #[.int .i64 5, .int .i64 6], .int .i64 0]) ∧ Below w.heap.size w w' := by
  have h := add_any 1 2 1 3 w
  rw [show op2N (vld 1 2 && vld 1 3) (1 * 3 + 1 * 2) (2 * 3) = 5 by decide +kernel, show op2D (vld 1 2 && vld 1 3) (1 * 3 + 1 * 2) (2 * 3) = 6 by decide +kernel, show op2E (vld 1 2 && vld 1 3) (1 * 3 + 1 * 2) (2 * 3) = 0 by decide +kernel] at h
  exact h
theorem ex_sub (w : World) : Calls Tryd.prog 24 #[.agg #[.int .i64 1, .int .i64 2], .agg #[.int .i64 1, .int .i64 3]] w fun e w' => e = .returned (.tuple #[.agg #[.int .i64 1, .int .i64 6], .int .i64 0]) ∧ Below w.heap.size w w' := by
  have h := sub_any 1 2 1 3 w
  rw [show op2N (vld 1 2 && vld 1 3) (1 * 3 - 1 * 2) (2 * 3) = 1 by decide +kernel, show op2D (vld 1 2 && vld 1 3) (1 * 3 - 1 * 2) (2 * 3) = 6 by decide +kernel, show op2E (vld 1 2 && vld 1 3) (1 * 3 - 1 * 2) (2 * 3) = 0 by decide +kernel] at h
  exact h
theorem ex_mul (w : World) : Calls Tryd.prog 23 #[.agg #[.int .i64 1, .int .i64 2], .agg #[.int .i64 1, .int .i64 3]] w fun e w' => e = .returned (.tuple #[.agg #[.int .i64 1, .int .i64 6], .int .i64 0]) ∧ Below w.heap.size w w' := by
  have h := mul_any 1 2 1 3 w
  rw [show op2N (vld 1 2 && vld 1 3) (1 * 1) (2 * 3) = 1 by decide +kernel, show op2D (vld 1 2 && vld 1 3) (1 * 1) (2 * 3) = 6 by decide +kernel, show op2E (vld 1 2 && vld 1 3) (1 * 1) (2 * 3) = 0 by decide +kernel] at h
  exact h
theorem ex_div (w : World) : Calls Tryd.prog 16 #[.agg #[.int .i64 1, .int .i64 2], .agg #[.int .i64 1, .int .i64 3]] w fun e w' => e = .returned (.tuple #[.agg #[.int .i64 3, .int .i64 2], .int .i64 0]) ∧ Below w.heap.size w w' := by
  have h := div_any 1 2 1 3 w
  rw [show op2N (vld 1 2 && vld 1 3) (1 * 3) (2 * 1) = 3 by decide +kernel, show op2D (vld 1 2 && vld 1 3) (1 * 3) (2 * 1) = 2 by decide +kernel, show op2E (vld 1 2 && vld 1 3) (1 * 3) (2 * 1) = 0 by decide +kernel] at h
  exact h
theorem ex_big (w : World) : Calls Tryd.prog 18 #[.agg #[.int .i64 1, .int .i64 1000000000], .agg #[.int .i64 1, .int .i64 999999999]] w fun e w' => e = .returned (.tuple #[.agg #[.int .i64 0, .int .i64 0], .int .i64 16]) ∧ Below w.heap.size w w' := by
  have h := add_any 1 1000000000 1 999999999 w
  rw [show op2N (vld 1 1000000000 && vld 1 999999999) (1 * 999999999 + 1 * 1000000000) (1000000000 * 999999999) = 0 by decide +kernel, show op2D (vld 1 1000000000 && vld 1 999999999) (1 * 999999999 + 1 * 1000000000) (1000000000 * 999999999) = 0 by decide +kernel, show op2E (vld 1 1000000000 && vld 1 999999999) (1 * 999999999 + 1 * 1000000000) (1000000000 * 999999999) = 16 by decide +kernel] at h
  exact h
theorem ex_floor (w : World) : Calls Tryd.prog 26 #[.agg #[.int .i64 (-7), .int .i64 2]] w fun e w' => e = .returned (.tuple #[.int .i64 (-4), .int .i64 0]) ∧ Below w.heap.size w w' := by
  have h := floorR_any (-7) 2 w
  rw [show okN (vld (-7) 2) (-7 / 2) = -4 by decide +kernel, show okE (vld (-7) 2) = 0 by decide +kernel] at h
  exact h
theorem ex_ceil (w : World) : Calls Tryd.prog 27 #[.agg #[.int .i64 (-7), .int .i64 2]] w fun e w' => e = .returned (.tuple #[.int .i64 (-3), .int .i64 0]) ∧ Below w.heap.size w w' := by
  have h := ceilR_any (-7) 2 w
  rw [show okN (vld (-7) 2) (-(- -7 / 2)) = -3 by decide +kernel, show okE (vld (-7) 2) = 0 by decide +kernel] at h
  exact h
theorem ex_make (w : World) : Calls Tryd.prog 10 #[.int .i64 6, .int .i64 (-4)] w fun e w' => e = .returned (.tuple #[.agg #[.int .i64 (-3), .int .i64 2], .int .i64 0]) ∧ Below w.heap.size w w' := by
  have h := make_any 6 (-4) (by omega) (by omega) (by omega) (by omega) w
  rw [show mkN 6 (-4) = -3 by decide +kernel, show mkD 6 (-4) = 2 by decide +kernel, show mkE 6 (-4) = 0 by decide +kernel] at h
  exact h
theorem ex_text (w : World) (ht : Tab w) : Calls Tryd.prog 12 #[.agg #[.int .i64 (-3), .int .i64 2]] w fun e w' => e = .returned (.tuple #[.string ⟨#[45, 51, 47, 50]⟩, .int .i64 0]) ∧ Below w.heap.size w w' := by
  have h := text_any (-3) 2 w ht
  have e1 : outS [(-3, 2)] (textB (-3) 2) 0 = (⟨#[45, 51, 47, 50]⟩ : ByteArray) := by
    rw [← outS_fine (by rw [errAll_one]; decide +kernel)]
    have a : Lib.itoa (-3) = [45, 51] := by simp [Lib.itoa, Lib.decDigits_one (i := 3) (by omega)]
    have b : Lib.itoa 2 = [50] := by simp [Lib.itoa, Lib.decDigits_one (i := 2) (by omega)]
    simp [textB, textL, a, b]
  rw [e1, show okE (vld (-3) 2) = 0 by decide +kernel] at h
  exact h

set_option maxRecDepth 100000 in
set_option maxHeartbeats 2000000 in
theorem alive_any (w : World) (ht : Tab w) :
    Calls Tryd.prog 20 #[] w fun e w' => e = .returned (.bool true) ∧ Below w.heap.size w w' := by
  have HT0 := Lib.hid ht
  have B0 := Lib.hid (Below.refl w.heap.size w)
  clear ht
  go_enter Tryd.func20, Tryd.ntmps20
  go_wp2_with fail
  refine (part_any (1) (2) _).mono ?_
  rintro e w1 ⟨rfl, hb⟩
  have HT1 := Lib.hid (Tab.later HT0.out hb)
  have B1 := Lib.hid (B0.out.trans (hb.mono B0.out.size))
  clear hb B0 HT0  
  go_wp2_with fail
  refine (part_any (1) (3) _).mono ?_
  rintro e w2 ⟨rfl, hb⟩
  have HT2 := Lib.hid (Tab.later HT1.out hb)
  have B2 := Lib.hid (B1.out.trans (hb.mono B1.out.size))
  clear hb B1 HT1  
  go_wp2_with fail
  refine (ex_add _).mono ?_
  rintro e w3 ⟨rfl, hb⟩
  have HT3 := Lib.hid (Tab.later HT2.out hb)
  have B3 := Lib.hid (B2.out.trans (hb.mono B2.out.size))
  clear hb B2 HT2  
  go_wp2_with fail
  refine (part_any (1) (2) _).mono ?_
  rintro e w4 ⟨rfl, hb⟩
  have E0_4 := Lib.hid (below_new hb (heap_alloc_new w3 (.cells #[.int .i64 5, .int .i64 6] 23)))
  have HT4 := Lib.hid ((Tab.later HT3.out ((Below.refl _ _).alloc (Nat.le_refl _) (.cells #[.int .i64 5, .int .i64 6] 23))).later hb)
  have B4 := Lib.hid ((B3.out.alloc B3.out.size (.cells #[.int .i64 5, .int .i64 6] 23)).trans (hb.mono (Nat.le_trans B3.out.size (by simp))))
  clear hb B3 HT3  
  go_wp2_with fail
  refine (part_any (1) (3) _).mono ?_
  rintro e w5 ⟨rfl, hb⟩
  have E0_5 := Lib.hid (below_new hb (E0_4).out)
  have HT5 := Lib.hid (Tab.later HT4.out hb)
  have B5 := Lib.hid (B4.out.trans (hb.mono B4.out.size))
  clear hb B4 HT4 E0_4 
  go_wp2_with fail
  refine (ex_sub _).mono ?_
  rintro e w6 ⟨rfl, hb⟩
  have E0_6 := Lib.hid (below_new hb (E0_5).out)
  have HT6 := Lib.hid (Tab.later HT5.out hb)
  have B6 := Lib.hid (B5.out.trans (hb.mono B5.out.size))
  clear hb B5 HT5 E0_5 
  go_wp2_with fail
  refine (part_any (1) (2) _).mono ?_
  rintro e w7 ⟨rfl, hb⟩
  have E0_7 := Lib.hid (below_new hb (heap_alloc_old (E0_6).out _))
  have E1_7 := Lib.hid (below_new hb (heap_alloc_new w6 (.cells #[.int .i64 1, .int .i64 6] 23)))
  have HT7 := Lib.hid ((Tab.later HT6.out ((Below.refl _ _).alloc (Nat.le_refl _) (.cells #[.int .i64 1, .int .i64 6] 23))).later hb)
  have B7 := Lib.hid ((B6.out.alloc B6.out.size (.cells #[.int .i64 1, .int .i64 6] 23)).trans (hb.mono (Nat.le_trans B6.out.size (by simp))))
  clear hb B6 HT6 E0_6 
  go_wp2_with fail
  refine (part_any (1) (3) _).mono ?_
  rintro e w8 ⟨rfl, hb⟩
  have E0_8 := Lib.hid (below_new hb (E0_7).out)
  have E1_8 := Lib.hid (below_new hb (E1_7).out)
  have HT8 := Lib.hid (Tab.later HT7.out hb)
  have B8 := Lib.hid (B7.out.trans (hb.mono B7.out.size))
  clear hb B7 HT7 E0_7 E1_7 
  go_wp2_with fail
  refine (ex_mul _).mono ?_
  rintro e w9 ⟨rfl, hb⟩
  have E0_9 := Lib.hid (below_new hb (E0_8).out)
  have E1_9 := Lib.hid (below_new hb (E1_8).out)
  have HT9 := Lib.hid (Tab.later HT8.out hb)
  have B9 := Lib.hid (B8.out.trans (hb.mono B8.out.size))
  clear hb B8 HT8 E0_8 E1_8 
  go_wp2_with fail
  refine (part_any (1) (2) _).mono ?_
  rintro e w10 ⟨rfl, hb⟩
  have E0_10 := Lib.hid (below_new hb (heap_alloc_old (E0_9).out _))
  have E1_10 := Lib.hid (below_new hb (heap_alloc_old (E1_9).out _))
  have E2_10 := Lib.hid (below_new hb (heap_alloc_new w9 (.cells #[.int .i64 1, .int .i64 6] 23)))
  have HT10 := Lib.hid ((Tab.later HT9.out ((Below.refl _ _).alloc (Nat.le_refl _) (.cells #[.int .i64 1, .int .i64 6] 23))).later hb)
  have B10 := Lib.hid ((B9.out.alloc B9.out.size (.cells #[.int .i64 1, .int .i64 6] 23)).trans (hb.mono (Nat.le_trans B9.out.size (by simp))))
  clear hb B9 HT9 E0_9 E1_9 
  go_wp2_with fail
  refine (part_any (1) (3) _).mono ?_
  rintro e w11 ⟨rfl, hb⟩
  have E0_11 := Lib.hid (below_new hb (E0_10).out)
  have E1_11 := Lib.hid (below_new hb (E1_10).out)
  have E2_11 := Lib.hid (below_new hb (E2_10).out)
  have HT11 := Lib.hid (Tab.later HT10.out hb)
  have B11 := Lib.hid (B10.out.trans (hb.mono B10.out.size))
  clear hb B10 HT10 E0_10 E1_10 E2_10 
  go_wp2_with fail
  refine (ex_div _).mono ?_
  rintro e w12 ⟨rfl, hb⟩
  have E0_12 := Lib.hid (below_new hb (E0_11).out)
  have E1_12 := Lib.hid (below_new hb (E1_11).out)
  have E2_12 := Lib.hid (below_new hb (E2_11).out)
  have HT12 := Lib.hid (Tab.later HT11.out hb)
  have B12 := Lib.hid (B11.out.trans (hb.mono B11.out.size))
  clear hb B11 HT11 E0_11 E1_11 E2_11 
  go_wp2_with fail
  refine (part_any (-7) (2) _).mono ?_
  rintro e w13 ⟨rfl, hb⟩
  have E0_13 := Lib.hid (below_new hb (heap_alloc_old (E0_12).out _))
  have E1_13 := Lib.hid (below_new hb (heap_alloc_old (E1_12).out _))
  have E2_13 := Lib.hid (below_new hb (heap_alloc_old (E2_12).out _))
  have E3_13 := Lib.hid (below_new hb (heap_alloc_new w12 (.cells #[.int .i64 3, .int .i64 2] 23)))
  have HT13 := Lib.hid ((Tab.later HT12.out ((Below.refl _ _).alloc (Nat.le_refl _) (.cells #[.int .i64 3, .int .i64 2] 23))).later hb)
  have B13 := Lib.hid ((B12.out.alloc B12.out.size (.cells #[.int .i64 3, .int .i64 2] 23)).trans (hb.mono (Nat.le_trans B12.out.size (by simp))))
  clear hb B12 HT12 E0_12 E1_12 E2_12 
  go_wp2_with fail
  refine (ex_floor _).mono ?_
  rintro e w14 ⟨rfl, hb⟩
  have E0_14 := Lib.hid (below_new hb (E0_13).out)
  have E1_14 := Lib.hid (below_new hb (E1_13).out)
  have E2_14 := Lib.hid (below_new hb (E2_13).out)
  have E3_14 := Lib.hid (below_new hb (E3_13).out)
  have HT14 := Lib.hid (Tab.later HT13.out hb)
  have B14 := Lib.hid (B13.out.trans (hb.mono B13.out.size))
  clear hb B13 HT13 E0_13 E1_13 E2_13 E3_13 
  go_wp2_with fail
  refine (part_any (-7) (2) _).mono ?_
  rintro e w15 ⟨rfl, hb⟩
  have E0_15 := Lib.hid (below_new hb (E0_14).out)
  have E1_15 := Lib.hid (below_new hb (E1_14).out)
  have E2_15 := Lib.hid (below_new hb (E2_14).out)
  have E3_15 := Lib.hid (below_new hb (E3_14).out)
  have HT15 := Lib.hid (Tab.later HT14.out hb)
  have B15 := Lib.hid (B14.out.trans (hb.mono B14.out.size))
  clear hb B14 HT14 E0_14 E1_14 E2_14 E3_14 
  go_wp2_with fail
  refine (ex_ceil _).mono ?_
  rintro e w16 ⟨rfl, hb⟩
  have E0_16 := Lib.hid (below_new hb (E0_15).out)
  have E1_16 := Lib.hid (below_new hb (E1_15).out)
  have E2_16 := Lib.hid (below_new hb (E2_15).out)
  have E3_16 := Lib.hid (below_new hb (E3_15).out)
  have HT16 := Lib.hid (Tab.later HT15.out hb)
  have B16 := Lib.hid (B15.out.trans (hb.mono B15.out.size))
  clear hb B15 HT15 E0_15 E1_15 E2_15 E3_15 
  go_wp2_with fail
  refine (ex_make _).mono ?_
  rintro e w17 ⟨rfl, hb⟩
  have E0_17 := Lib.hid (below_new hb (E0_16).out)
  have E1_17 := Lib.hid (below_new hb (E1_16).out)
  have E2_17 := Lib.hid (below_new hb (E2_16).out)
  have E3_17 := Lib.hid (below_new hb (E3_16).out)
  have HT17 := Lib.hid (Tab.later HT16.out hb)
  have B17 := Lib.hid (B16.out.trans (hb.mono B16.out.size))
  clear hb B16 HT16 E0_16 E1_16 E2_16 E3_16 
  go_wp2_with fail
  refine (part_any (1) (1000000000) _).mono ?_
  rintro e w18 ⟨rfl, hb⟩
  have E0_18 := Lib.hid (below_new hb (heap_alloc_old (E0_17).out _))
  have E1_18 := Lib.hid (below_new hb (heap_alloc_old (E1_17).out _))
  have E2_18 := Lib.hid (below_new hb (heap_alloc_old (E2_17).out _))
  have E3_18 := Lib.hid (below_new hb (heap_alloc_old (E3_17).out _))
  have E4_18 := Lib.hid (below_new hb (heap_alloc_new w17 (.cells #[.int .i64 (-3), .int .i64 2] 23)))
  have HT18 := Lib.hid ((Tab.later HT17.out ((Below.refl _ _).alloc (Nat.le_refl _) (.cells #[.int .i64 (-3), .int .i64 2] 23))).later hb)
  have B18 := Lib.hid ((B17.out.alloc B17.out.size (.cells #[.int .i64 (-3), .int .i64 2] 23)).trans (hb.mono (Nat.le_trans B17.out.size (by simp))))
  clear hb B17 HT17 E0_17 E1_17 E2_17 E3_17 
  go_wp2_with fail
  refine (part_any (1) (999999999) _).mono ?_
  rintro e w19 ⟨rfl, hb⟩
  have E0_19 := Lib.hid (below_new hb (E0_18).out)
  have E1_19 := Lib.hid (below_new hb (E1_18).out)
  have E2_19 := Lib.hid (below_new hb (E2_18).out)
  have E3_19 := Lib.hid (below_new hb (E3_18).out)
  have E4_19 := Lib.hid (below_new hb (E4_18).out)
  have HT19 := Lib.hid (Tab.later HT18.out hb)
  have B19 := Lib.hid (B18.out.trans (hb.mono B18.out.size))
  clear hb B18 HT18 E0_18 E1_18 E2_18 E3_18 E4_18 
  go_wp2_with fail
  refine (ex_big _).mono ?_
  rintro e w20 ⟨rfl, hb⟩
  have E0_20 := Lib.hid (below_new hb (E0_19).out)
  have E1_20 := Lib.hid (below_new hb (E1_19).out)
  have E2_20 := Lib.hid (below_new hb (E2_19).out)
  have E3_20 := Lib.hid (below_new hb (E3_19).out)
  have E4_20 := Lib.hid (below_new hb (E4_19).out)
  have HT20 := Lib.hid (Tab.later HT19.out hb)
  have B20 := Lib.hid (B19.out.trans (hb.mono B19.out.size))
  clear hb B19 HT19 E0_19 E1_19 E2_19 E3_19 E4_19 
  go_wp2_with fail
  refine (part_any (-3) (2) _).mono ?_
  rintro e w21 ⟨rfl, hb⟩
  have E0_21 := Lib.hid (below_new hb (heap_alloc_old (E0_20).out _))
  have E1_21 := Lib.hid (below_new hb (heap_alloc_old (E1_20).out _))
  have E2_21 := Lib.hid (below_new hb (heap_alloc_old (E2_20).out _))
  have E3_21 := Lib.hid (below_new hb (heap_alloc_old (E3_20).out _))
  have E4_21 := Lib.hid (below_new hb (heap_alloc_old (E4_20).out _))
  have E5_21 := Lib.hid (below_new hb (heap_alloc_new w20 (.cells #[.int .i64 0, .int .i64 0] 23)))
  have HT21 := Lib.hid ((Tab.later HT20.out ((Below.refl _ _).alloc (Nat.le_refl _) (.cells #[.int .i64 0, .int .i64 0] 23))).later hb)
  have B21 := Lib.hid ((B20.out.alloc B20.out.size (.cells #[.int .i64 0, .int .i64 0] 23)).trans (hb.mono (Nat.le_trans B20.out.size (by simp))))
  clear hb B20 HT20 E0_20 E1_20 E2_20 E3_20 E4_20 
  go_wp2_with fail
  refine (ex_text _ (by exact HT21.out)).mono ?_
  rintro e w22 ⟨rfl, hb⟩
  have E0_22 := Lib.hid (below_new hb (E0_21).out)
  have E1_22 := Lib.hid (below_new hb (E1_21).out)
  have E2_22 := Lib.hid (below_new hb (E2_21).out)
  have E3_22 := Lib.hid (below_new hb (E3_21).out)
  have E4_22 := Lib.hid (below_new hb (E4_21).out)
  have E5_22 := Lib.hid (below_new hb (E5_21).out)
  have HT22 := Lib.hid (Tab.later HT21.out hb)
  have B22 := Lib.hid (B21.out.trans (hb.mono B21.out.size))
  clear hb B21 HT21 E0_21 E1_21 E2_21 E3_21 E4_21 E5_21 
  have l0_22 := lt_of_block E0_22.out
  have p0_22 := cell_two0 E0_22.out
  have q0_22 := cell_two1 E0_22.out
  have l1_22 := lt_of_block E1_22.out
  have p1_22 := cell_two0 E1_22.out
  have q1_22 := cell_two1 E1_22.out
  have l2_22 := lt_of_block E2_22.out
  have p2_22 := cell_two0 E2_22.out
  have q2_22 := cell_two1 E2_22.out
  have l3_22 := lt_of_block E3_22.out
  have p3_22 := cell_two0 E3_22.out
  have q3_22 := cell_two1 E3_22.out
  have l4_22 := lt_of_block E4_22.out
  have p4_22 := cell_two0 E4_22.out
  have q4_22 := cell_two1 E4_22.out
  have r0_22 := fun d os => cell_regrown p0_22 d os
  have s0_22 := fun d os => cell_regrown q0_22 d os
  have r1_22 := fun d os => cell_regrown p1_22 d os
  have s1_22 := fun d os => cell_regrown q1_22 d os
  have r2_22 := fun d os => cell_regrown p2_22 d os
  have s2_22 := fun d os => cell_regrown q2_22 d os
  have r3_22 := fun d os => cell_regrown p3_22 d os
  have s3_22 := fun d os => cell_regrown q3_22 d os
  have r4_22 := fun d os => cell_regrown p4_22 d os
  have s4_22 := fun d os => cell_regrown q4_22 d os
  go_wp2_with fail
  refine wp_region_quiet_below (by kernel_rfl) (by kernel_rfl) ?_
  repeat (any_goals (first | go_big_quiet_step (first | (go_at_call 17; exact Calls.regrown_of (part_any _ _ _))) | quiet_step (first | (go_at_call 17; exact Calls.regrown_of (part_any _ _ _)))))
  refine wpQuiet_nil ?_
  intro _ hw'
  obtain ⟨⟨dq, osq⟩, hw''⟩ := hw'
  subst hw''
  go_wp2_with fail
  go_ret
  exact ⟨rfl, B22.out.trans ((below_regrown _ _ _).mono B22.out.size)⟩
end Go.Proofs.YtchjkjhkmhkjeaaDoor
