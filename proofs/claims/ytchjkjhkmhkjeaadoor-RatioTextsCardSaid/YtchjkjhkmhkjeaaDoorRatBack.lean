/-
  Walks of RatioBack.
-/
import Derived.Test.YtchjkjhkmhkjeaaDoorRatFit
import Derived.Test.YtchjkjhkmhkjeaaDoorRatParse
namespace Go.Proofs.YtchjkjhkmhkjeaaDoor
open Go.RowKit
open RM
set_option linter.unusedVariables false
set_option linter.unusedSimpArgs false

set_option maxHeartbeats 1000000 in
theorem back_unfit (an ad k : Int) (hv : (vld an ad && vld an ad) = false) (w : World) (ht : Tab w) :
    Calls Tryd.prog 8 #[.agg #[.int .i64 an, .int .i64 ad], .int .i8 k] w fun e w' => e = .returned (.bool true) ∧ Below w.heap.size w w' := by
  have HV := Lib.hid hv
  clear hv
  have HT := Lib.hid ht
  clear ht
  go_enter Tryd.func8, Tryd.ntmps8
  go_wp2_with fail
  obtain ⟨w0, hw0⟩ : ∃ w0, w0 = (w.alloc (.cells #[.int .i64 an, .int .i64 ad] 23)) := ⟨_, rfl⟩
  have E0_0 : Hid (w0.heap[w.heap.size]? = some (.cells #[.int .i64 an, .int .i64 ad] 23 (0, 0))) := by
    show _ = _
    rw [hw0]
    have := heap_alloc_new w (.cells #[.int .i64 an, .int .i64 ad] 23)
    simpa using this
  have B0 : Hid (Below w.heap.size w w0) := by
    show Below _ _ _
    rw [hw0]
    exact ((Below.refl _ _).alloc (Nat.le_refl _) _)
  have HT0 := Lib.hid (Tab.later HT.out (B0.out.mono (Nat.le_refl _)))
  rw [← hw0]
  clear hw0 HT
  refine (alive_any _ (by exact HT0.out)).mono ?_
  rintro e w1 ⟨rfl, hb⟩
  have E0_1 := Lib.hid (below_new hb (E0_0).out)
  have HT1 := Lib.hid (Tab.later HT0.out hb)
  have B1 := Lib.hid (B0.out.trans (hb.mono B0.out.size))
  clear hb B0 HT0 E0_0 
  have l0_1 := lt_of_block E0_1.out
  have p0_1 := cell_two0 E0_1.out
  have q0_1 := cell_two1 E0_1.out
  go_wp2_with fail
  refine (fit_no HV.out _).mono ?_
  rintro e w2 ⟨rfl, hb⟩
  have E0_2 := Lib.hid (below_new hb (E0_1).out)
  have HT2 := Lib.hid (Tab.later HT1.out hb)
  have B2 := Lib.hid (B1.out.trans (hb.mono B1.out.size))
  clear hb B1 HT1 E0_1 l0_1 p0_1 q0_1
  go_wp2_with fail
  go_ret
  exact ⟨rfl, B2.out⟩

set_option maxHeartbeats 1000000 in
theorem back_zero (an ad k : Int) (hv : vld an ad = true) (hk : (k == 0) = true) (w : World) (ht : Tab w) :
    Calls Tryd.prog 8 #[.agg #[.int .i64 an, .int .i64 ad], .int .i8 k] w fun e w' => e = .returned (.bool true) ∧ Below w.heap.size w w' := by
  have HV := Lib.hid hv
  clear hv
  have HT := Lib.hid ht
  clear ht
  go_enter Tryd.func8, Tryd.ntmps8
  go_wp2_with fail
  obtain ⟨w0, hw0⟩ : ∃ w0, w0 = (w.alloc (.cells #[.int .i64 an, .int .i64 ad] 23)) := ⟨_, rfl⟩
  have E0_0 : Hid (w0.heap[w.heap.size]? = some (.cells #[.int .i64 an, .int .i64 ad] 23 (0, 0))) := by
    show _ = _
    rw [hw0]
    have := heap_alloc_new w (.cells #[.int .i64 an, .int .i64 ad] 23)
    simpa using this
  have B0 : Hid (Below w.heap.size w w0) := by
    show Below _ _ _
    rw [hw0]
    exact ((Below.refl _ _).alloc (Nat.le_refl _) _)
  have HT0 := Lib.hid (Tab.later HT.out (B0.out.mono (Nat.le_refl _)))
  rw [← hw0]
  clear hw0 HT
  refine (alive_any _ (by exact HT0.out)).mono ?_
  rintro e w1 ⟨rfl, hb⟩
  have E0_1 := Lib.hid (below_new hb (E0_0).out)
  have HT1 := Lib.hid (Tab.later HT0.out hb)
  have B1 := Lib.hid (B0.out.trans (hb.mono B0.out.size))
  clear hb B0 HT0 E0_0 
  have l0_1 := lt_of_block E0_1.out
  have p0_1 := cell_two0 E0_1.out
  have q0_1 := cell_two1 E0_1.out
  go_wp2_with fail
  refine (fit_yes HV.out HV.out _).mono ?_
  rintro e w2 ⟨rfl, hb⟩
  have E0_2 := Lib.hid (below_new hb (E0_1).out)
  have HT2 := Lib.hid (Tab.later HT1.out hb)
  have B2 := Lib.hid (B1.out.trans (hb.mono B1.out.size))
  clear hb B1 HT1 E0_1 l0_1 p0_1 q0_1
  go_wp2_with fail
  go_ret
  exact ⟨rfl, B2.out⟩

set_option maxHeartbeats 2000000 in
theorem back_main (an ad k : Int) (x : ByteArray) (hv : vld an ad = true) (hk : (k == 0) = false) (k1 : -128 ≤ k) (k2 : k ≤ 127) (b1 : -9223372036854775808 ≤ an * k) (b2 : an * k ≤ 9223372036854775807) (b3 : -9223372036854775808 ≤ ad * k) (b4 : ad * k ≤ 9223372036854775807) (w : World) (ht : Tab w) (hl : Len w)
    (h1 : ∀ w, Tab w → Calls Tryd.prog 12 #[.agg #[.int .i64 an, .int .i64 ad]] w fun e w' => e = .returned (.tuple #[.string x, .int .i64 0]) ∧ Below w.heap.size w w')
    (h2 : ∀ w, Tab w → Len w → Calls Tryd.prog 14 #[.string x] w fun e w' => e = .returned (.tuple #[.agg #[.int .i64 an, .int .i64 ad], .int .i64 0]) ∧ Below w.heap.size w w')
    (h3 : ∀ w, Calls Tryd.prog 10 #[.int .i64 (an * k), .int .i64 (ad * k)] w fun e w' => e = .returned (.tuple #[.agg #[.int .i64 an, .int .i64 ad], .int .i64 0]) ∧ Below w.heap.size w w') :
    Calls Tryd.prog 8 #[.agg #[.int .i64 an, .int .i64 ad], .int .i8 k] w fun e w' => e = .returned (.bool true) ∧ Below w.heap.size w w' := by
  have K1 := Lib.hid h1
  have K2 := Lib.hid h2
  have K3 := Lib.hid h3
  have HV := Lib.hid hv
  have HL := Lib.hid hl
  clear h1 h2 h3 hv hl
  have HT := Lib.hid ht
  clear ht
  go_enter Tryd.func8, Tryd.ntmps8
  go_wp2_with fail
  obtain ⟨w0, hw0⟩ : ∃ w0, w0 = (w.alloc (.cells #[.int .i64 an, .int .i64 ad] 23)) := ⟨_, rfl⟩
  have E0_0 : Hid (w0.heap[w.heap.size]? = some (.cells #[.int .i64 an, .int .i64 ad] 23 (0, 0))) := by
    show _ = _
    rw [hw0]
    have := heap_alloc_new w (.cells #[.int .i64 an, .int .i64 ad] 23)
    simpa using this
  have B0 : Hid (Below w.heap.size w w0) := by
    show Below _ _ _
    rw [hw0]
    exact ((Below.refl _ _).alloc (Nat.le_refl _) _)
  have HT0 := Lib.hid (Tab.later HT.out (B0.out.mono (Nat.le_refl _)))
  rw [← hw0]
  clear hw0 HT
  refine (alive_any _ (by exact HT0.out)).mono ?_
  rintro e w1 ⟨rfl, hb⟩
  have E0_1 := Lib.hid (below_new hb (E0_0).out)
  have HT1 := Lib.hid (Tab.later HT0.out hb)
  have B1 := Lib.hid (B0.out.trans (hb.mono B0.out.size))
  clear hb B0 HT0 E0_0 
  have l0_1 := lt_of_block E0_1.out
  have p0_1 := cell_two0 E0_1.out
  have q0_1 := cell_two1 E0_1.out
  go_wp2_with fail
  refine (fit_yes HV.out HV.out _).mono ?_
  rintro e w2 ⟨rfl, hb⟩
  have E0_2 := Lib.hid (below_new hb (E0_1).out)
  have HT2 := Lib.hid (Tab.later HT1.out hb)
  have B2 := Lib.hid (B1.out.trans (hb.mono B1.out.size))
  clear hb B1 HT1 E0_1 l0_1 p0_1 q0_1
  have l0_2 := lt_of_block E0_2.out
  have p0_2 := cell_two0 E0_2.out
  have q0_2 := cell_two1 E0_2.out
  go_wp2_with fail
  refine (K1.out _ (by exact HT2.out)).mono ?_
  rintro e w3 ⟨rfl, hb⟩
  have E0_3 := Lib.hid (below_new hb (E0_2).out)
  have HT3 := Lib.hid (Tab.later HT2.out hb)
  have B3 := Lib.hid (B2.out.trans (hb.mono B2.out.size))
  clear hb B2 HT2 E0_2 l0_2 p0_2 q0_2
  have l0_3 := lt_of_block E0_3.out
  have p0_3 := cell_two0 E0_3.out
  have q0_3 := cell_two1 E0_3.out
  go_wp2_with fail
  refine (K2.out _ (by exact HT3.out) (HL.out.later B3.out)).mono ?_
  rintro e w4 ⟨rfl, hb⟩
  have E0_4 := Lib.hid (below_new hb (E0_3).out)
  have HT4 := Lib.hid (Tab.later HT3.out hb)
  have B4 := Lib.hid (B3.out.trans (hb.mono B3.out.size))
  clear hb B3 HT3 E0_3 l0_3 p0_3 q0_3
  have l0_4 := lt_of_block E0_4.out
  have p0_4 := cell_two0 E0_4.out
  have q0_4 := cell_two1 E0_4.out
  go_wp2_with fail
  refine (K3.out _).mono ?_
  rintro e w5 ⟨rfl, hb⟩
  have E0_5 := Lib.hid (below_new hb (heap_alloc_old (E0_4).out _))
  have E1_5 := Lib.hid (below_new hb (heap_alloc_new w4 (.cells #[.int .i64 an, .int .i64 ad] 23)))
  have HT5 := Lib.hid ((Tab.later HT4.out ((Below.refl _ _).alloc (Nat.le_refl _) (.cells #[.int .i64 an, .int .i64 ad] 23))).later hb)
  have B5 := Lib.hid ((B4.out.alloc B4.out.size (.cells #[.int .i64 an, .int .i64 ad] 23)).trans (hb.mono (Nat.le_trans B4.out.size (by simp))))
  clear hb B4 HT4 E0_4 l0_4 p0_4 q0_4
  have l0_5 := lt_of_block E0_5.out
  have p0_5 := cell_two0 E0_5.out
  have q0_5 := cell_two1 E0_5.out
  have l1_5 := lt_of_block E1_5.out
  have p1_5 := cell_two0 E1_5.out
  have q1_5 := cell_two1 E1_5.out
  go_wp2_with fail
  go_ret
  exact ⟨rfl, B5.out.alloc B5.out.size _⟩

end Go.Proofs.YtchjkjhkmhkjeaaDoor
