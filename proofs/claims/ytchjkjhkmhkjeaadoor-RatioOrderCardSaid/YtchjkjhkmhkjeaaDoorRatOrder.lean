/-
  The walk of RatioOrder.
-/
import Derived.Test.YtchjkjhkmhkjeaaDoorRatFit
namespace Go.Proofs.YtchjkjhkmhkjeaaDoor
open Go.RowKit
open RM
set_option linter.unusedVariables false
set_option linter.unusedSimpArgs false

set_option maxHeartbeats 2000000 in
theorem order_unfit (an ad bn bd : Int) (hv : (vld an ad && vld bn bd) = false) (w : World) (ht : Tab w) :
    Calls Tryd.prog 7 #[.agg #[.int .i64 an, .int .i64 ad], .agg #[.int .i64 bn, .int .i64 bd]] w fun e w' => e = .returned (.bool true) ∧ Below w.heap.size w w' := by
  have HT := Lib.hid ht
  clear ht
  go_enter Tryd.func7, Tryd.ntmps7
  go_wp2_with fail
  obtain ⟨w0, hw0⟩ : ∃ w0, w0 = ((w.alloc (.cells #[.int .i64 an, .int .i64 ad] 23)).alloc (.cells #[.int .i64 bn, .int .i64 bd] 23)) := ⟨_, rfl⟩
  have E0_0 : Hid (w0.heap[w.heap.size]? = some (.cells #[.int .i64 an, .int .i64 ad] 23 (0, 0))) := by
    show _ = _
    rw [hw0]
    refine heap_alloc_old ?_ _
    have := heap_alloc_new w (.cells #[.int .i64 an, .int .i64 ad] 23)
    simpa using this
  have E1_0 : Hid (w0.heap[w.heap.size + 1]? = some (.cells #[.int .i64 bn, .int .i64 bd] 23 (0, 0))) := by
    show _ = _
    rw [hw0]
    have := heap_alloc_new (w.alloc (.cells #[.int .i64 an, .int .i64 ad] 23)) (.cells #[.int .i64 bn, .int .i64 bd] 23)
    simpa using this
  have B0 : Hid (Below w.heap.size w w0) := by
    show Below _ _ _
    rw [hw0]
    exact (((Below.refl _ _).alloc (Nat.le_refl _) _).alloc (by simp <;> omega) _)
  have HT0 := Lib.hid (Tab.later HT.out (B0.out.mono (Nat.le_refl _)))
  rw [← hw0]
  clear hw0 HT
  refine (alive_any _ (by exact HT0.out)).mono ?_
  rintro e w1 ⟨rfl, hb⟩
  have E0_1 := Lib.hid (below_new hb (E0_0).out)
  have E1_1 := Lib.hid (below_new hb (E1_0).out)
  have HT1 := Lib.hid (Tab.later HT0.out hb)
  have B1 := Lib.hid (B0.out.trans (hb.mono B0.out.size))
  clear hb B0 HT0 E0_0 E1_0 
  have l0_1 := lt_of_block E0_1.out
  have p0_1 := cell_two0 E0_1.out
  have q0_1 := cell_two1 E0_1.out
  have l1_1 := lt_of_block E1_1.out
  have p1_1 := cell_two0 E1_1.out
  have q1_1 := cell_two1 E1_1.out
  go_wp2_with fail
  refine (fit_no hv _).mono ?_
  rintro e w2 ⟨rfl, hb⟩
  have E0_2 := Lib.hid (below_new hb (E0_1).out)
  have E1_2 := Lib.hid (below_new hb (E1_1).out)
  have HT2 := Lib.hid (Tab.later HT1.out hb)
  have B2 := Lib.hid (B1.out.trans (hb.mono B1.out.size))
  clear hb B1 HT1 E0_1 E1_1 l0_1 p0_1 q0_1 l1_1 p1_1 q1_1
  go_wp2_with fail
  go_ret
  exact ⟨rfl, B2.out⟩

set_option maxRecDepth 100000 in
set_option maxHeartbeats 8000000 in
theorem order_same (an ad kn kd ke lo hi : Int) (hv : vld an ad = true ∧ vld an ad = true) (s1 : decide (0 < kn) = false)
    (l1 : -1000000000 ≤ lo) (l2 : lo ≤ 1000000000) (l3 : -1000000000 ≤ hi) (l4 : hi ≤ 1000000000) (d1 : 1 ≤ ad) (d2 : ad ≤ 1000000000)
    (o1 : lo ≤ hi) (o2 : (hi - lo == min 1 (ad - 1)) = true) (o3 : lo * ad ≤ an) (o4 : an ≤ hi * ad) (m1 : -1000000000000000000 ≤ lo * ad) (m2 : lo * ad ≤ 1000000000000000000) (m3 : -1000000000000000000 ≤ hi * ad) (m4 : hi * ad ≤ 1000000000000000000)
    (h1 : (∀ w, Calls Tryd.prog 25 #[.agg #[.int .i64 an, .int .i64 ad], .agg #[.int .i64 an, .int .i64 ad]] w fun e w' => e = .returned (.tuple #[.int .i64 0, .int .i64 0]) ∧ Below w.heap.size w w'))
    (h2 : (∀ w, Calls Tryd.prog 25 #[.agg #[.int .i64 an, .int .i64 ad], .agg #[.int .i64 an, .int .i64 ad]] w fun e w' => e = .returned (.tuple #[.int .i64 0, .int .i64 0]) ∧ Below w.heap.size w w'))
    (h3 : (∀ w, Calls Tryd.prog 24 #[.agg #[.int .i64 an, .int .i64 ad], .agg #[.int .i64 an, .int .i64 ad]] w fun e w' => e = .returned (.tuple #[.agg #[.int .i64 kn, .int .i64 kd], .int .i64 0]) ∧ Below w.heap.size w w'))
    (h4 : (∀ w, Calls Tryd.prog 26 #[.agg #[.int .i64 an, .int .i64 ad]] w fun e w' => e = .returned (.tuple #[.int .i64 lo, .int .i64 0]) ∧ Below w.heap.size w w'))
    (h5 : (∀ w, Calls Tryd.prog 27 #[.agg #[.int .i64 an, .int .i64 ad]] w fun e w' => e = .returned (.tuple #[.int .i64 hi, .int .i64 0]) ∧ Below w.heap.size w w')) (w : World) (ht : Tab w) :
    Calls Tryd.prog 7 #[.agg #[.int .i64 an, .int .i64 ad], .agg #[.int .i64 an, .int .i64 ad]] w fun e w' => e = .returned (.bool true) ∧ Below w.heap.size w w' := by
  have K1 := Lib.hid h1
  have K2 := Lib.hid h2
  have K3 := Lib.hid h3
  have K4 := Lib.hid h4
  have K5 := Lib.hid h5
  have F := Lib.hid hv
  clear hv h1 h2 h3 h4 h5
  have HT := Lib.hid ht
  clear ht
  go_enter Tryd.func7, Tryd.ntmps7
  go_wp2_with fail
  obtain ⟨w0, hw0⟩ : ∃ w0, w0 = ((w.alloc (.cells #[.int .i64 an, .int .i64 ad] 23)).alloc (.cells #[.int .i64 an, .int .i64 ad] 23)) := ⟨_, rfl⟩
  have E0_0 : Hid (w0.heap[w.heap.size]? = some (.cells #[.int .i64 an, .int .i64 ad] 23 (0, 0))) := by
    show _ = _
    rw [hw0]
    refine heap_alloc_old ?_ _
    have := heap_alloc_new w (.cells #[.int .i64 an, .int .i64 ad] 23)
    simpa using this
  have E1_0 : Hid (w0.heap[w.heap.size + 1]? = some (.cells #[.int .i64 an, .int .i64 ad] 23 (0, 0))) := by
    show _ = _
    rw [hw0]
    have := heap_alloc_new (w.alloc (.cells #[.int .i64 an, .int .i64 ad] 23)) (.cells #[.int .i64 an, .int .i64 ad] 23)
    simpa using this
  have B0 : Hid (Below w.heap.size w w0) := by
    show Below _ _ _
    rw [hw0]
    exact (((Below.refl _ _).alloc (Nat.le_refl _) _).alloc (by simp <;> omega) _)
  have HT0 := Lib.hid (Tab.later HT.out (B0.out.mono (Nat.le_refl _)))
  rw [← hw0]
  clear hw0 HT
  refine (alive_any _ (by exact HT0.out)).mono ?_
  rintro e w1 ⟨rfl, hb⟩
  have E0_1 := Lib.hid (below_new hb (E0_0).out)
  have E1_1 := Lib.hid (below_new hb (E1_0).out)
  have HT1 := Lib.hid (Tab.later HT0.out hb)
  have B1 := Lib.hid (B0.out.trans (hb.mono B0.out.size))
  clear hb B0 HT0 E0_0 E1_0 
  have l0_1 := lt_of_block E0_1.out
  have p0_1 := cell_two0 E0_1.out
  have q0_1 := cell_two1 E0_1.out
  have l1_1 := lt_of_block E1_1.out
  have p1_1 := cell_two0 E1_1.out
  have q1_1 := cell_two1 E1_1.out
  go_wp2_with fail
  refine (fit_yes F.out.1 F.out.2 _).mono ?_
  rintro e w2 ⟨rfl, hb⟩
  have E0_2 := Lib.hid (below_new hb (E0_1).out)
  have E1_2 := Lib.hid (below_new hb (E1_1).out)
  have HT2 := Lib.hid (Tab.later HT1.out hb)
  have B2 := Lib.hid (B1.out.trans (hb.mono B1.out.size))
  clear hb B1 HT1 E0_1 E1_1 l0_1 p0_1 q0_1 l1_1 p1_1 q1_1
  have l0_2 := lt_of_block E0_2.out
  have p0_2 := cell_two0 E0_2.out
  have q0_2 := cell_two1 E0_2.out
  have l1_2 := lt_of_block E1_2.out
  have p1_2 := cell_two0 E1_2.out
  have q1_2 := cell_two1 E1_2.out
  go_wp2_with fail
  refine (K1.out _).mono ?_
  rintro e w3 ⟨rfl, hb⟩
  have E0_3 := Lib.hid (below_new hb (E0_2).out)
  have E1_3 := Lib.hid (below_new hb (E1_2).out)
  have HT3 := Lib.hid (Tab.later HT2.out hb)
  have B3 := Lib.hid (B2.out.trans (hb.mono B2.out.size))
  clear hb B2 HT2 E0_2 E1_2 l0_2 p0_2 q0_2 l1_2 p1_2 q1_2
  have l0_3 := lt_of_block E0_3.out
  have p0_3 := cell_two0 E0_3.out
  have q0_3 := cell_two1 E0_3.out
  have l1_3 := lt_of_block E1_3.out
  have p1_3 := cell_two0 E1_3.out
  have q1_3 := cell_two1 E1_3.out
  go_wp2_with fail
  refine (K2.out _).mono ?_
  rintro e w4 ⟨rfl, hb⟩
  have E0_4 := Lib.hid (below_new hb (E0_3).out)
  have E1_4 := Lib.hid (below_new hb (E1_3).out)
  have HT4 := Lib.hid (Tab.later HT3.out hb)
  have B4 := Lib.hid (B3.out.trans (hb.mono B3.out.size))
  clear hb B3 HT3 E0_3 E1_3 l0_3 p0_3 q0_3 l1_3 p1_3 q1_3
  have l0_4 := lt_of_block E0_4.out
  have p0_4 := cell_two0 E0_4.out
  have q0_4 := cell_two1 E0_4.out
  have l1_4 := lt_of_block E1_4.out
  have p1_4 := cell_two0 E1_4.out
  have q1_4 := cell_two1 E1_4.out
  go_wp2_with fail
  refine (K3.out _).mono ?_
  rintro e w5 ⟨rfl, hb⟩
  have E0_5 := Lib.hid (below_new hb (E0_4).out)
  have E1_5 := Lib.hid (below_new hb (E1_4).out)
  have HT5 := Lib.hid (Tab.later HT4.out hb)
  have B5 := Lib.hid (B4.out.trans (hb.mono B4.out.size))
  clear hb B4 HT4 E0_4 E1_4 l0_4 p0_4 q0_4 l1_4 p1_4 q1_4
  have l0_5 := lt_of_block E0_5.out
  have p0_5 := cell_two0 E0_5.out
  have q0_5 := cell_two1 E0_5.out
  have l1_5 := lt_of_block E1_5.out
  have p1_5 := cell_two0 E1_5.out
  have q1_5 := cell_two1 E1_5.out
  go_wp2_with fail
  refine (K4.out _).mono ?_
  rintro e w6 ⟨rfl, hb⟩
  have E0_6 := Lib.hid (below_new hb (heap_alloc_old (E0_5).out _))
  have E1_6 := Lib.hid (below_new hb (heap_alloc_old (E1_5).out _))
  have E2_6 := Lib.hid (below_new hb (heap_alloc_new w5 (.cells #[.int .i64 kn, .int .i64 kd] 23)))
  have HT6 := Lib.hid ((Tab.later HT5.out ((Below.refl _ _).alloc (Nat.le_refl _) (.cells #[.int .i64 kn, .int .i64 kd] 23))).later hb)
  have B6 := Lib.hid ((B5.out.alloc B5.out.size (.cells #[.int .i64 kn, .int .i64 kd] 23)).trans (hb.mono (Nat.le_trans B5.out.size (by simp))))
  clear hb B5 HT5 E0_5 E1_5 l0_5 p0_5 q0_5 l1_5 p1_5 q1_5
  have l0_6 := lt_of_block E0_6.out
  have p0_6 := cell_two0 E0_6.out
  have q0_6 := cell_two1 E0_6.out
  have l1_6 := lt_of_block E1_6.out
  have p1_6 := cell_two0 E1_6.out
  have q1_6 := cell_two1 E1_6.out
  have l2_6 := lt_of_block E2_6.out
  have p2_6 := cell_two0 E2_6.out
  have q2_6 := cell_two1 E2_6.out
  go_wp2_with fail
  refine (K5.out _).mono ?_
  rintro e w7 ⟨rfl, hb⟩
  have E0_7 := Lib.hid (below_new hb (E0_6).out)
  have E1_7 := Lib.hid (below_new hb (E1_6).out)
  have E2_7 := Lib.hid (below_new hb (E2_6).out)
  have HT7 := Lib.hid (Tab.later HT6.out hb)
  have B7 := Lib.hid (B6.out.trans (hb.mono B6.out.size))
  clear hb B6 HT6 E0_6 E1_6 E2_6 l0_6 p0_6 q0_6 l1_6 p1_6 q1_6 l2_6 p2_6 q2_6
  have l0_7 := lt_of_block E0_7.out
  have p0_7 := cell_two0 E0_7.out
  have q0_7 := cell_two1 E0_7.out
  have l1_7 := lt_of_block E1_7.out
  have p1_7 := cell_two0 E1_7.out
  have q1_7 := cell_two1 E1_7.out
  have l2_7 := lt_of_block E2_7.out
  have p2_7 := cell_two0 E2_7.out
  have q2_7 := cell_two1 E2_7.out
  go_wp2_with fail
  go_ret
  exact ⟨rfl, B7.out⟩

set_option maxRecDepth 100000 in
set_option maxHeartbeats 8000000 in
theorem order_gt_num_ok (an ad bn bd kn kd ke lo hi : Int) (hv : vld an ad = true ∧ vld bn bd = true) (hne : (an == bn) = false) (s1 : decide (0 < kn) = true)
    (l1 : -1000000000 ≤ lo) (l2 : lo ≤ 1000000000) (l3 : -1000000000 ≤ hi) (l4 : hi ≤ 1000000000) (d1 : 1 ≤ ad) (d2 : ad ≤ 1000000000)
    (o1 : lo ≤ hi) (o2 : (hi - lo == min 1 (ad - 1)) = true) (o3 : lo * ad ≤ an) (o4 : an ≤ hi * ad) (m1 : -1000000000000000000 ≤ lo * ad) (m2 : lo * ad ≤ 1000000000000000000) (m3 : -1000000000000000000 ≤ hi * ad) (m4 : hi * ad ≤ 1000000000000000000)
    (h1 : (∀ w, Calls Tryd.prog 25 #[.agg #[.int .i64 an, .int .i64 ad], .agg #[.int .i64 bn, .int .i64 bd]] w fun e w' => e = .returned (.tuple #[.int .i64 1, .int .i64 0]) ∧ Below w.heap.size w w'))
    (h2 : (∀ w, Calls Tryd.prog 25 #[.agg #[.int .i64 bn, .int .i64 bd], .agg #[.int .i64 an, .int .i64 ad]] w fun e w' => e = .returned (.tuple #[.int .i64 (-1), .int .i64 0]) ∧ Below w.heap.size w w'))
    (h3 : (∀ w, Calls Tryd.prog 24 #[.agg #[.int .i64 an, .int .i64 ad], .agg #[.int .i64 bn, .int .i64 bd]] w fun e w' => e = .returned (.tuple #[.agg #[.int .i64 kn, .int .i64 kd], .int .i64 0]) ∧ Below w.heap.size w w'))
    (h4 : (∀ w, Calls Tryd.prog 26 #[.agg #[.int .i64 an, .int .i64 ad]] w fun e w' => e = .returned (.tuple #[.int .i64 lo, .int .i64 0]) ∧ Below w.heap.size w w'))
    (h5 : (∀ w, Calls Tryd.prog 27 #[.agg #[.int .i64 an, .int .i64 ad]] w fun e w' => e = .returned (.tuple #[.int .i64 hi, .int .i64 0]) ∧ Below w.heap.size w w')) (w : World) (ht : Tab w) :
    Calls Tryd.prog 7 #[.agg #[.int .i64 an, .int .i64 ad], .agg #[.int .i64 bn, .int .i64 bd]] w fun e w' => e = .returned (.bool true) ∧ Below w.heap.size w w' := by
  have K1 := Lib.hid h1
  have K2 := Lib.hid h2
  have K3 := Lib.hid h3
  have K4 := Lib.hid h4
  have K5 := Lib.hid h5
  have F := Lib.hid hv
  clear hv h1 h2 h3 h4 h5
  have HT := Lib.hid ht
  clear ht
  go_enter Tryd.func7, Tryd.ntmps7
  go_wp2_with fail
  obtain ⟨w0, hw0⟩ : ∃ w0, w0 = ((w.alloc (.cells #[.int .i64 an, .int .i64 ad] 23)).alloc (.cells #[.int .i64 bn, .int .i64 bd] 23)) := ⟨_, rfl⟩
  have E0_0 : Hid (w0.heap[w.heap.size]? = some (.cells #[.int .i64 an, .int .i64 ad] 23 (0, 0))) := by
    show _ = _
    rw [hw0]
    refine heap_alloc_old ?_ _
    have := heap_alloc_new w (.cells #[.int .i64 an, .int .i64 ad] 23)
    simpa using this
  have E1_0 : Hid (w0.heap[w.heap.size + 1]? = some (.cells #[.int .i64 bn, .int .i64 bd] 23 (0, 0))) := by
    show _ = _
    rw [hw0]
    have := heap_alloc_new (w.alloc (.cells #[.int .i64 an, .int .i64 ad] 23)) (.cells #[.int .i64 bn, .int .i64 bd] 23)
    simpa using this
  have B0 : Hid (Below w.heap.size w w0) := by
    show Below _ _ _
    rw [hw0]
    exact (((Below.refl _ _).alloc (Nat.le_refl _) _).alloc (by simp <;> omega) _)
  have HT0 := Lib.hid (Tab.later HT.out (B0.out.mono (Nat.le_refl _)))
  rw [← hw0]
  clear hw0 HT
  refine (alive_any _ (by exact HT0.out)).mono ?_
  rintro e w1 ⟨rfl, hb⟩
  have E0_1 := Lib.hid (below_new hb (E0_0).out)
  have E1_1 := Lib.hid (below_new hb (E1_0).out)
  have HT1 := Lib.hid (Tab.later HT0.out hb)
  have B1 := Lib.hid (B0.out.trans (hb.mono B0.out.size))
  clear hb B0 HT0 E0_0 E1_0 
  have l0_1 := lt_of_block E0_1.out
  have p0_1 := cell_two0 E0_1.out
  have q0_1 := cell_two1 E0_1.out
  have l1_1 := lt_of_block E1_1.out
  have p1_1 := cell_two0 E1_1.out
  have q1_1 := cell_two1 E1_1.out
  go_wp2_with fail
  refine (fit_yes F.out.1 F.out.2 _).mono ?_
  rintro e w2 ⟨rfl, hb⟩
  have E0_2 := Lib.hid (below_new hb (E0_1).out)
  have E1_2 := Lib.hid (below_new hb (E1_1).out)
  have HT2 := Lib.hid (Tab.later HT1.out hb)
  have B2 := Lib.hid (B1.out.trans (hb.mono B1.out.size))
  clear hb B1 HT1 E0_1 E1_1 l0_1 p0_1 q0_1 l1_1 p1_1 q1_1
  have l0_2 := lt_of_block E0_2.out
  have p0_2 := cell_two0 E0_2.out
  have q0_2 := cell_two1 E0_2.out
  have l1_2 := lt_of_block E1_2.out
  have p1_2 := cell_two0 E1_2.out
  have q1_2 := cell_two1 E1_2.out
  go_wp2_with fail
  refine (K1.out _).mono ?_
  rintro e w3 ⟨rfl, hb⟩
  have E0_3 := Lib.hid (below_new hb (E0_2).out)
  have E1_3 := Lib.hid (below_new hb (E1_2).out)
  have HT3 := Lib.hid (Tab.later HT2.out hb)
  have B3 := Lib.hid (B2.out.trans (hb.mono B2.out.size))
  clear hb B2 HT2 E0_2 E1_2 l0_2 p0_2 q0_2 l1_2 p1_2 q1_2
  have l0_3 := lt_of_block E0_3.out
  have p0_3 := cell_two0 E0_3.out
  have q0_3 := cell_two1 E0_3.out
  have l1_3 := lt_of_block E1_3.out
  have p1_3 := cell_two0 E1_3.out
  have q1_3 := cell_two1 E1_3.out
  go_wp2_with fail
  refine (K2.out _).mono ?_
  rintro e w4 ⟨rfl, hb⟩
  have E0_4 := Lib.hid (below_new hb (E0_3).out)
  have E1_4 := Lib.hid (below_new hb (E1_3).out)
  have HT4 := Lib.hid (Tab.later HT3.out hb)
  have B4 := Lib.hid (B3.out.trans (hb.mono B3.out.size))
  clear hb B3 HT3 E0_3 E1_3 l0_3 p0_3 q0_3 l1_3 p1_3 q1_3
  have l0_4 := lt_of_block E0_4.out
  have p0_4 := cell_two0 E0_4.out
  have q0_4 := cell_two1 E0_4.out
  have l1_4 := lt_of_block E1_4.out
  have p1_4 := cell_two0 E1_4.out
  have q1_4 := cell_two1 E1_4.out
  go_wp2_with fail
  refine (K3.out _).mono ?_
  rintro e w5 ⟨rfl, hb⟩
  have E0_5 := Lib.hid (below_new hb (E0_4).out)
  have E1_5 := Lib.hid (below_new hb (E1_4).out)
  have HT5 := Lib.hid (Tab.later HT4.out hb)
  have B5 := Lib.hid (B4.out.trans (hb.mono B4.out.size))
  clear hb B4 HT4 E0_4 E1_4 l0_4 p0_4 q0_4 l1_4 p1_4 q1_4
  have l0_5 := lt_of_block E0_5.out
  have p0_5 := cell_two0 E0_5.out
  have q0_5 := cell_two1 E0_5.out
  have l1_5 := lt_of_block E1_5.out
  have p1_5 := cell_two0 E1_5.out
  have q1_5 := cell_two1 E1_5.out
  go_wp2_with fail
  refine (K4.out _).mono ?_
  rintro e w6 ⟨rfl, hb⟩
  have E0_6 := Lib.hid (below_new hb (heap_alloc_old (E0_5).out _))
  have E1_6 := Lib.hid (below_new hb (heap_alloc_old (E1_5).out _))
  have E2_6 := Lib.hid (below_new hb (heap_alloc_new w5 (.cells #[.int .i64 kn, .int .i64 kd] 23)))
  have HT6 := Lib.hid ((Tab.later HT5.out ((Below.refl _ _).alloc (Nat.le_refl _) (.cells #[.int .i64 kn, .int .i64 kd] 23))).later hb)
  have B6 := Lib.hid ((B5.out.alloc B5.out.size (.cells #[.int .i64 kn, .int .i64 kd] 23)).trans (hb.mono (Nat.le_trans B5.out.size (by simp))))
  clear hb B5 HT5 E0_5 E1_5 l0_5 p0_5 q0_5 l1_5 p1_5 q1_5
  have l0_6 := lt_of_block E0_6.out
  have p0_6 := cell_two0 E0_6.out
  have q0_6 := cell_two1 E0_6.out
  have l1_6 := lt_of_block E1_6.out
  have p1_6 := cell_two0 E1_6.out
  have q1_6 := cell_two1 E1_6.out
  have l2_6 := lt_of_block E2_6.out
  have p2_6 := cell_two0 E2_6.out
  have q2_6 := cell_two1 E2_6.out
  go_wp2_with fail
  refine (K5.out _).mono ?_
  rintro e w7 ⟨rfl, hb⟩
  have E0_7 := Lib.hid (below_new hb (E0_6).out)
  have E1_7 := Lib.hid (below_new hb (E1_6).out)
  have E2_7 := Lib.hid (below_new hb (E2_6).out)
  have HT7 := Lib.hid (Tab.later HT6.out hb)
  have B7 := Lib.hid (B6.out.trans (hb.mono B6.out.size))
  clear hb B6 HT6 E0_6 E1_6 E2_6 l0_6 p0_6 q0_6 l1_6 p1_6 q1_6 l2_6 p2_6 q2_6
  have l0_7 := lt_of_block E0_7.out
  have p0_7 := cell_two0 E0_7.out
  have q0_7 := cell_two1 E0_7.out
  have l1_7 := lt_of_block E1_7.out
  have p1_7 := cell_two0 E1_7.out
  have q1_7 := cell_two1 E1_7.out
  have l2_7 := lt_of_block E2_7.out
  have p2_7 := cell_two0 E2_7.out
  have q2_7 := cell_two1 E2_7.out
  go_wp2_with fail
  go_ret
  exact ⟨rfl, B7.out⟩

set_option maxRecDepth 100000 in
set_option maxHeartbeats 8000000 in
theorem order_gt_num_no (an ad bn bd kn kd ke lo hi : Int) (hv : vld an ad = true ∧ vld bn bd = true) (hne : (an == bn) = false) (hke : (ke == 0) = false)
    (l1 : -1000000000 ≤ lo) (l2 : lo ≤ 1000000000) (l3 : -1000000000 ≤ hi) (l4 : hi ≤ 1000000000) (d1 : 1 ≤ ad) (d2 : ad ≤ 1000000000)
    (o1 : lo ≤ hi) (o2 : (hi - lo == min 1 (ad - 1)) = true) (o3 : lo * ad ≤ an) (o4 : an ≤ hi * ad) (m1 : -1000000000000000000 ≤ lo * ad) (m2 : lo * ad ≤ 1000000000000000000) (m3 : -1000000000000000000 ≤ hi * ad) (m4 : hi * ad ≤ 1000000000000000000)
    (h1 : (∀ w, Calls Tryd.prog 25 #[.agg #[.int .i64 an, .int .i64 ad], .agg #[.int .i64 bn, .int .i64 bd]] w fun e w' => e = .returned (.tuple #[.int .i64 1, .int .i64 0]) ∧ Below w.heap.size w w'))
    (h2 : (∀ w, Calls Tryd.prog 25 #[.agg #[.int .i64 bn, .int .i64 bd], .agg #[.int .i64 an, .int .i64 ad]] w fun e w' => e = .returned (.tuple #[.int .i64 (-1), .int .i64 0]) ∧ Below w.heap.size w w'))
    (h3 : (∀ w, Calls Tryd.prog 24 #[.agg #[.int .i64 an, .int .i64 ad], .agg #[.int .i64 bn, .int .i64 bd]] w fun e w' => e = .returned (.tuple #[.agg #[.int .i64 kn, .int .i64 kd], .int .i64 ke]) ∧ Below w.heap.size w w'))
    (h4 : (∀ w, Calls Tryd.prog 26 #[.agg #[.int .i64 an, .int .i64 ad]] w fun e w' => e = .returned (.tuple #[.int .i64 lo, .int .i64 0]) ∧ Below w.heap.size w w'))
    (h5 : (∀ w, Calls Tryd.prog 27 #[.agg #[.int .i64 an, .int .i64 ad]] w fun e w' => e = .returned (.tuple #[.int .i64 hi, .int .i64 0]) ∧ Below w.heap.size w w')) (w : World) (ht : Tab w) :
    Calls Tryd.prog 7 #[.agg #[.int .i64 an, .int .i64 ad], .agg #[.int .i64 bn, .int .i64 bd]] w fun e w' => e = .returned (.bool true) ∧ Below w.heap.size w w' := by
  have K1 := Lib.hid h1
  have K2 := Lib.hid h2
  have K3 := Lib.hid h3
  have K4 := Lib.hid h4
  have K5 := Lib.hid h5
  have F := Lib.hid hv
  clear hv h1 h2 h3 h4 h5
  have HT := Lib.hid ht
  clear ht
  go_enter Tryd.func7, Tryd.ntmps7
  go_wp2_with fail
  obtain ⟨w0, hw0⟩ : ∃ w0, w0 = ((w.alloc (.cells #[.int .i64 an, .int .i64 ad] 23)).alloc (.cells #[.int .i64 bn, .int .i64 bd] 23)) := ⟨_, rfl⟩
  have E0_0 : Hid (w0.heap[w.heap.size]? = some (.cells #[.int .i64 an, .int .i64 ad] 23 (0, 0))) := by
    show _ = _
    rw [hw0]
    refine heap_alloc_old ?_ _
    have := heap_alloc_new w (.cells #[.int .i64 an, .int .i64 ad] 23)
    simpa using this
  have E1_0 : Hid (w0.heap[w.heap.size + 1]? = some (.cells #[.int .i64 bn, .int .i64 bd] 23 (0, 0))) := by
    show _ = _
    rw [hw0]
    have := heap_alloc_new (w.alloc (.cells #[.int .i64 an, .int .i64 ad] 23)) (.cells #[.int .i64 bn, .int .i64 bd] 23)
    simpa using this
  have B0 : Hid (Below w.heap.size w w0) := by
    show Below _ _ _
    rw [hw0]
    exact (((Below.refl _ _).alloc (Nat.le_refl _) _).alloc (by simp <;> omega) _)
  have HT0 := Lib.hid (Tab.later HT.out (B0.out.mono (Nat.le_refl _)))
  rw [← hw0]
  clear hw0 HT
  refine (alive_any _ (by exact HT0.out)).mono ?_
  rintro e w1 ⟨rfl, hb⟩
  have E0_1 := Lib.hid (below_new hb (E0_0).out)
  have E1_1 := Lib.hid (below_new hb (E1_0).out)
  have HT1 := Lib.hid (Tab.later HT0.out hb)
  have B1 := Lib.hid (B0.out.trans (hb.mono B0.out.size))
  clear hb B0 HT0 E0_0 E1_0 
  have l0_1 := lt_of_block E0_1.out
  have p0_1 := cell_two0 E0_1.out
  have q0_1 := cell_two1 E0_1.out
  have l1_1 := lt_of_block E1_1.out
  have p1_1 := cell_two0 E1_1.out
  have q1_1 := cell_two1 E1_1.out
  go_wp2_with fail
  refine (fit_yes F.out.1 F.out.2 _).mono ?_
  rintro e w2 ⟨rfl, hb⟩
  have E0_2 := Lib.hid (below_new hb (E0_1).out)
  have E1_2 := Lib.hid (below_new hb (E1_1).out)
  have HT2 := Lib.hid (Tab.later HT1.out hb)
  have B2 := Lib.hid (B1.out.trans (hb.mono B1.out.size))
  clear hb B1 HT1 E0_1 E1_1 l0_1 p0_1 q0_1 l1_1 p1_1 q1_1
  have l0_2 := lt_of_block E0_2.out
  have p0_2 := cell_two0 E0_2.out
  have q0_2 := cell_two1 E0_2.out
  have l1_2 := lt_of_block E1_2.out
  have p1_2 := cell_two0 E1_2.out
  have q1_2 := cell_two1 E1_2.out
  go_wp2_with fail
  refine (K1.out _).mono ?_
  rintro e w3 ⟨rfl, hb⟩
  have E0_3 := Lib.hid (below_new hb (E0_2).out)
  have E1_3 := Lib.hid (below_new hb (E1_2).out)
  have HT3 := Lib.hid (Tab.later HT2.out hb)
  have B3 := Lib.hid (B2.out.trans (hb.mono B2.out.size))
  clear hb B2 HT2 E0_2 E1_2 l0_2 p0_2 q0_2 l1_2 p1_2 q1_2
  have l0_3 := lt_of_block E0_3.out
  have p0_3 := cell_two0 E0_3.out
  have q0_3 := cell_two1 E0_3.out
  have l1_3 := lt_of_block E1_3.out
  have p1_3 := cell_two0 E1_3.out
  have q1_3 := cell_two1 E1_3.out
  go_wp2_with fail
  refine (K2.out _).mono ?_
  rintro e w4 ⟨rfl, hb⟩
  have E0_4 := Lib.hid (below_new hb (E0_3).out)
  have E1_4 := Lib.hid (below_new hb (E1_3).out)
  have HT4 := Lib.hid (Tab.later HT3.out hb)
  have B4 := Lib.hid (B3.out.trans (hb.mono B3.out.size))
  clear hb B3 HT3 E0_3 E1_3 l0_3 p0_3 q0_3 l1_3 p1_3 q1_3
  have l0_4 := lt_of_block E0_4.out
  have p0_4 := cell_two0 E0_4.out
  have q0_4 := cell_two1 E0_4.out
  have l1_4 := lt_of_block E1_4.out
  have p1_4 := cell_two0 E1_4.out
  have q1_4 := cell_two1 E1_4.out
  go_wp2_with fail
  refine (K3.out _).mono ?_
  rintro e w5 ⟨rfl, hb⟩
  have E0_5 := Lib.hid (below_new hb (E0_4).out)
  have E1_5 := Lib.hid (below_new hb (E1_4).out)
  have HT5 := Lib.hid (Tab.later HT4.out hb)
  have B5 := Lib.hid (B4.out.trans (hb.mono B4.out.size))
  clear hb B4 HT4 E0_4 E1_4 l0_4 p0_4 q0_4 l1_4 p1_4 q1_4
  have l0_5 := lt_of_block E0_5.out
  have p0_5 := cell_two0 E0_5.out
  have q0_5 := cell_two1 E0_5.out
  have l1_5 := lt_of_block E1_5.out
  have p1_5 := cell_two0 E1_5.out
  have q1_5 := cell_two1 E1_5.out
  go_wp2_with fail
  refine (K4.out _).mono ?_
  rintro e w6 ⟨rfl, hb⟩
  have E0_6 := Lib.hid (below_new hb (heap_alloc_old (E0_5).out _))
  have E1_6 := Lib.hid (below_new hb (heap_alloc_old (E1_5).out _))
  have E2_6 := Lib.hid (below_new hb (heap_alloc_new w5 (.cells #[.int .i64 kn, .int .i64 kd] 23)))
  have HT6 := Lib.hid ((Tab.later HT5.out ((Below.refl _ _).alloc (Nat.le_refl _) (.cells #[.int .i64 kn, .int .i64 kd] 23))).later hb)
  have B6 := Lib.hid ((B5.out.alloc B5.out.size (.cells #[.int .i64 kn, .int .i64 kd] 23)).trans (hb.mono (Nat.le_trans B5.out.size (by simp))))
  clear hb B5 HT5 E0_5 E1_5 l0_5 p0_5 q0_5 l1_5 p1_5 q1_5
  have l0_6 := lt_of_block E0_6.out
  have p0_6 := cell_two0 E0_6.out
  have q0_6 := cell_two1 E0_6.out
  have l1_6 := lt_of_block E1_6.out
  have p1_6 := cell_two0 E1_6.out
  have q1_6 := cell_two1 E1_6.out
  have l2_6 := lt_of_block E2_6.out
  have p2_6 := cell_two0 E2_6.out
  have q2_6 := cell_two1 E2_6.out
  go_wp2_with fail
  refine (K5.out _).mono ?_
  rintro e w7 ⟨rfl, hb⟩
  have E0_7 := Lib.hid (below_new hb (E0_6).out)
  have E1_7 := Lib.hid (below_new hb (E1_6).out)
  have E2_7 := Lib.hid (below_new hb (E2_6).out)
  have HT7 := Lib.hid (Tab.later HT6.out hb)
  have B7 := Lib.hid (B6.out.trans (hb.mono B6.out.size))
  clear hb B6 HT6 E0_6 E1_6 E2_6 l0_6 p0_6 q0_6 l1_6 p1_6 q1_6 l2_6 p2_6 q2_6
  have l0_7 := lt_of_block E0_7.out
  have p0_7 := cell_two0 E0_7.out
  have q0_7 := cell_two1 E0_7.out
  have l1_7 := lt_of_block E1_7.out
  have p1_7 := cell_two0 E1_7.out
  have q1_7 := cell_two1 E1_7.out
  have l2_7 := lt_of_block E2_7.out
  have p2_7 := cell_two0 E2_7.out
  have q2_7 := cell_two1 E2_7.out
  go_wp2_with fail
  go_ret
  exact ⟨rfl, B7.out⟩

set_option maxRecDepth 100000 in
set_option maxHeartbeats 8000000 in
theorem order_gt_den_ok (an ad bd kn kd ke lo hi : Int) (hv : vld an ad = true ∧ vld an bd = true) (hne : (ad == bd) = false) (s1 : decide (0 < kn) = true)
    (l1 : -1000000000 ≤ lo) (l2 : lo ≤ 1000000000) (l3 : -1000000000 ≤ hi) (l4 : hi ≤ 1000000000) (d1 : 1 ≤ ad) (d2 : ad ≤ 1000000000)
    (o1 : lo ≤ hi) (o2 : (hi - lo == min 1 (ad - 1)) = true) (o3 : lo * ad ≤ an) (o4 : an ≤ hi * ad) (m1 : -1000000000000000000 ≤ lo * ad) (m2 : lo * ad ≤ 1000000000000000000) (m3 : -1000000000000000000 ≤ hi * ad) (m4 : hi * ad ≤ 1000000000000000000)
    (h1 : (∀ w, Calls Tryd.prog 25 #[.agg #[.int .i64 an, .int .i64 ad], .agg #[.int .i64 an, .int .i64 bd]] w fun e w' => e = .returned (.tuple #[.int .i64 1, .int .i64 0]) ∧ Below w.heap.size w w'))
    (h2 : (∀ w, Calls Tryd.prog 25 #[.agg #[.int .i64 an, .int .i64 bd], .agg #[.int .i64 an, .int .i64 ad]] w fun e w' => e = .returned (.tuple #[.int .i64 (-1), .int .i64 0]) ∧ Below w.heap.size w w'))
    (h3 : (∀ w, Calls Tryd.prog 24 #[.agg #[.int .i64 an, .int .i64 ad], .agg #[.int .i64 an, .int .i64 bd]] w fun e w' => e = .returned (.tuple #[.agg #[.int .i64 kn, .int .i64 kd], .int .i64 0]) ∧ Below w.heap.size w w'))
    (h4 : (∀ w, Calls Tryd.prog 26 #[.agg #[.int .i64 an, .int .i64 ad]] w fun e w' => e = .returned (.tuple #[.int .i64 lo, .int .i64 0]) ∧ Below w.heap.size w w'))
    (h5 : (∀ w, Calls Tryd.prog 27 #[.agg #[.int .i64 an, .int .i64 ad]] w fun e w' => e = .returned (.tuple #[.int .i64 hi, .int .i64 0]) ∧ Below w.heap.size w w')) (w : World) (ht : Tab w) :
    Calls Tryd.prog 7 #[.agg #[.int .i64 an, .int .i64 ad], .agg #[.int .i64 an, .int .i64 bd]] w fun e w' => e = .returned (.bool true) ∧ Below w.heap.size w w' := by
  have K1 := Lib.hid h1
  have K2 := Lib.hid h2
  have K3 := Lib.hid h3
  have K4 := Lib.hid h4
  have K5 := Lib.hid h5
  have F := Lib.hid hv
  clear hv h1 h2 h3 h4 h5
  have HT := Lib.hid ht
  clear ht
  go_enter Tryd.func7, Tryd.ntmps7
  go_wp2_with fail
  obtain ⟨w0, hw0⟩ : ∃ w0, w0 = ((w.alloc (.cells #[.int .i64 an, .int .i64 ad] 23)).alloc (.cells #[.int .i64 an, .int .i64 bd] 23)) := ⟨_, rfl⟩
  have E0_0 : Hid (w0.heap[w.heap.size]? = some (.cells #[.int .i64 an, .int .i64 ad] 23 (0, 0))) := by
    show _ = _
    rw [hw0]
    refine heap_alloc_old ?_ _
    have := heap_alloc_new w (.cells #[.int .i64 an, .int .i64 ad] 23)
    simpa using this
  have E1_0 : Hid (w0.heap[w.heap.size + 1]? = some (.cells #[.int .i64 an, .int .i64 bd] 23 (0, 0))) := by
    show _ = _
    rw [hw0]
    have := heap_alloc_new (w.alloc (.cells #[.int .i64 an, .int .i64 ad] 23)) (.cells #[.int .i64 an, .int .i64 bd] 23)
    simpa using this
  have B0 : Hid (Below w.heap.size w w0) := by
    show Below _ _ _
    rw [hw0]
    exact (((Below.refl _ _).alloc (Nat.le_refl _) _).alloc (by simp <;> omega) _)
  have HT0 := Lib.hid (Tab.later HT.out (B0.out.mono (Nat.le_refl _)))
  rw [← hw0]
  clear hw0 HT
  refine (alive_any _ (by exact HT0.out)).mono ?_
  rintro e w1 ⟨rfl, hb⟩
  have E0_1 := Lib.hid (below_new hb (E0_0).out)
  have E1_1 := Lib.hid (below_new hb (E1_0).out)
  have HT1 := Lib.hid (Tab.later HT0.out hb)
  have B1 := Lib.hid (B0.out.trans (hb.mono B0.out.size))
  clear hb B0 HT0 E0_0 E1_0 
  have l0_1 := lt_of_block E0_1.out
  have p0_1 := cell_two0 E0_1.out
  have q0_1 := cell_two1 E0_1.out
  have l1_1 := lt_of_block E1_1.out
  have p1_1 := cell_two0 E1_1.out
  have q1_1 := cell_two1 E1_1.out
  go_wp2_with fail
  refine (fit_yes F.out.1 F.out.2 _).mono ?_
  rintro e w2 ⟨rfl, hb⟩
  have E0_2 := Lib.hid (below_new hb (E0_1).out)
  have E1_2 := Lib.hid (below_new hb (E1_1).out)
  have HT2 := Lib.hid (Tab.later HT1.out hb)
  have B2 := Lib.hid (B1.out.trans (hb.mono B1.out.size))
  clear hb B1 HT1 E0_1 E1_1 l0_1 p0_1 q0_1 l1_1 p1_1 q1_1
  have l0_2 := lt_of_block E0_2.out
  have p0_2 := cell_two0 E0_2.out
  have q0_2 := cell_two1 E0_2.out
  have l1_2 := lt_of_block E1_2.out
  have p1_2 := cell_two0 E1_2.out
  have q1_2 := cell_two1 E1_2.out
  go_wp2_with fail
  refine (K1.out _).mono ?_
  rintro e w3 ⟨rfl, hb⟩
  have E0_3 := Lib.hid (below_new hb (E0_2).out)
  have E1_3 := Lib.hid (below_new hb (E1_2).out)
  have HT3 := Lib.hid (Tab.later HT2.out hb)
  have B3 := Lib.hid (B2.out.trans (hb.mono B2.out.size))
  clear hb B2 HT2 E0_2 E1_2 l0_2 p0_2 q0_2 l1_2 p1_2 q1_2
  have l0_3 := lt_of_block E0_3.out
  have p0_3 := cell_two0 E0_3.out
  have q0_3 := cell_two1 E0_3.out
  have l1_3 := lt_of_block E1_3.out
  have p1_3 := cell_two0 E1_3.out
  have q1_3 := cell_two1 E1_3.out
  go_wp2_with fail
  refine (K2.out _).mono ?_
  rintro e w4 ⟨rfl, hb⟩
  have E0_4 := Lib.hid (below_new hb (E0_3).out)
  have E1_4 := Lib.hid (below_new hb (E1_3).out)
  have HT4 := Lib.hid (Tab.later HT3.out hb)
  have B4 := Lib.hid (B3.out.trans (hb.mono B3.out.size))
  clear hb B3 HT3 E0_3 E1_3 l0_3 p0_3 q0_3 l1_3 p1_3 q1_3
  have l0_4 := lt_of_block E0_4.out
  have p0_4 := cell_two0 E0_4.out
  have q0_4 := cell_two1 E0_4.out
  have l1_4 := lt_of_block E1_4.out
  have p1_4 := cell_two0 E1_4.out
  have q1_4 := cell_two1 E1_4.out
  go_wp2_with fail
  refine (K3.out _).mono ?_
  rintro e w5 ⟨rfl, hb⟩
  have E0_5 := Lib.hid (below_new hb (E0_4).out)
  have E1_5 := Lib.hid (below_new hb (E1_4).out)
  have HT5 := Lib.hid (Tab.later HT4.out hb)
  have B5 := Lib.hid (B4.out.trans (hb.mono B4.out.size))
  clear hb B4 HT4 E0_4 E1_4 l0_4 p0_4 q0_4 l1_4 p1_4 q1_4
  have l0_5 := lt_of_block E0_5.out
  have p0_5 := cell_two0 E0_5.out
  have q0_5 := cell_two1 E0_5.out
  have l1_5 := lt_of_block E1_5.out
  have p1_5 := cell_two0 E1_5.out
  have q1_5 := cell_two1 E1_5.out
  go_wp2_with fail
  refine (K4.out _).mono ?_
  rintro e w6 ⟨rfl, hb⟩
  have E0_6 := Lib.hid (below_new hb (heap_alloc_old (E0_5).out _))
  have E1_6 := Lib.hid (below_new hb (heap_alloc_old (E1_5).out _))
  have E2_6 := Lib.hid (below_new hb (heap_alloc_new w5 (.cells #[.int .i64 kn, .int .i64 kd] 23)))
  have HT6 := Lib.hid ((Tab.later HT5.out ((Below.refl _ _).alloc (Nat.le_refl _) (.cells #[.int .i64 kn, .int .i64 kd] 23))).later hb)
  have B6 := Lib.hid ((B5.out.alloc B5.out.size (.cells #[.int .i64 kn, .int .i64 kd] 23)).trans (hb.mono (Nat.le_trans B5.out.size (by simp))))
  clear hb B5 HT5 E0_5 E1_5 l0_5 p0_5 q0_5 l1_5 p1_5 q1_5
  have l0_6 := lt_of_block E0_6.out
  have p0_6 := cell_two0 E0_6.out
  have q0_6 := cell_two1 E0_6.out
  have l1_6 := lt_of_block E1_6.out
  have p1_6 := cell_two0 E1_6.out
  have q1_6 := cell_two1 E1_6.out
  have l2_6 := lt_of_block E2_6.out
  have p2_6 := cell_two0 E2_6.out
  have q2_6 := cell_two1 E2_6.out
  go_wp2_with fail
  refine (K5.out _).mono ?_
  rintro e w7 ⟨rfl, hb⟩
  have E0_7 := Lib.hid (below_new hb (E0_6).out)
  have E1_7 := Lib.hid (below_new hb (E1_6).out)
  have E2_7 := Lib.hid (below_new hb (E2_6).out)
  have HT7 := Lib.hid (Tab.later HT6.out hb)
  have B7 := Lib.hid (B6.out.trans (hb.mono B6.out.size))
  clear hb B6 HT6 E0_6 E1_6 E2_6 l0_6 p0_6 q0_6 l1_6 p1_6 q1_6 l2_6 p2_6 q2_6
  have l0_7 := lt_of_block E0_7.out
  have p0_7 := cell_two0 E0_7.out
  have q0_7 := cell_two1 E0_7.out
  have l1_7 := lt_of_block E1_7.out
  have p1_7 := cell_two0 E1_7.out
  have q1_7 := cell_two1 E1_7.out
  have l2_7 := lt_of_block E2_7.out
  have p2_7 := cell_two0 E2_7.out
  have q2_7 := cell_two1 E2_7.out
  go_wp2_with fail
  go_ret
  exact ⟨rfl, B7.out⟩

set_option maxRecDepth 100000 in
set_option maxHeartbeats 8000000 in
theorem order_gt_den_no (an ad bd kn kd ke lo hi : Int) (hv : vld an ad = true ∧ vld an bd = true) (hne : (ad == bd) = false) (hke : (ke == 0) = false)
    (l1 : -1000000000 ≤ lo) (l2 : lo ≤ 1000000000) (l3 : -1000000000 ≤ hi) (l4 : hi ≤ 1000000000) (d1 : 1 ≤ ad) (d2 : ad ≤ 1000000000)
    (o1 : lo ≤ hi) (o2 : (hi - lo == min 1 (ad - 1)) = true) (o3 : lo * ad ≤ an) (o4 : an ≤ hi * ad) (m1 : -1000000000000000000 ≤ lo * ad) (m2 : lo * ad ≤ 1000000000000000000) (m3 : -1000000000000000000 ≤ hi * ad) (m4 : hi * ad ≤ 1000000000000000000)
    (h1 : (∀ w, Calls Tryd.prog 25 #[.agg #[.int .i64 an, .int .i64 ad], .agg #[.int .i64 an, .int .i64 bd]] w fun e w' => e = .returned (.tuple #[.int .i64 1, .int .i64 0]) ∧ Below w.heap.size w w'))
    (h2 : (∀ w, Calls Tryd.prog 25 #[.agg #[.int .i64 an, .int .i64 bd], .agg #[.int .i64 an, .int .i64 ad]] w fun e w' => e = .returned (.tuple #[.int .i64 (-1), .int .i64 0]) ∧ Below w.heap.size w w'))
    (h3 : (∀ w, Calls Tryd.prog 24 #[.agg #[.int .i64 an, .int .i64 ad], .agg #[.int .i64 an, .int .i64 bd]] w fun e w' => e = .returned (.tuple #[.agg #[.int .i64 kn, .int .i64 kd], .int .i64 ke]) ∧ Below w.heap.size w w'))
    (h4 : (∀ w, Calls Tryd.prog 26 #[.agg #[.int .i64 an, .int .i64 ad]] w fun e w' => e = .returned (.tuple #[.int .i64 lo, .int .i64 0]) ∧ Below w.heap.size w w'))
    (h5 : (∀ w, Calls Tryd.prog 27 #[.agg #[.int .i64 an, .int .i64 ad]] w fun e w' => e = .returned (.tuple #[.int .i64 hi, .int .i64 0]) ∧ Below w.heap.size w w')) (w : World) (ht : Tab w) :
    Calls Tryd.prog 7 #[.agg #[.int .i64 an, .int .i64 ad], .agg #[.int .i64 an, .int .i64 bd]] w fun e w' => e = .returned (.bool true) ∧ Below w.heap.size w w' := by
  have K1 := Lib.hid h1
  have K2 := Lib.hid h2
  have K3 := Lib.hid h3
  have K4 := Lib.hid h4
  have K5 := Lib.hid h5
  have F := Lib.hid hv
  clear hv h1 h2 h3 h4 h5
  have HT := Lib.hid ht
  clear ht
  go_enter Tryd.func7, Tryd.ntmps7
  go_wp2_with fail
  obtain ⟨w0, hw0⟩ : ∃ w0, w0 = ((w.alloc (.cells #[.int .i64 an, .int .i64 ad] 23)).alloc (.cells #[.int .i64 an, .int .i64 bd] 23)) := ⟨_, rfl⟩
  have E0_0 : Hid (w0.heap[w.heap.size]? = some (.cells #[.int .i64 an, .int .i64 ad] 23 (0, 0))) := by
    show _ = _
    rw [hw0]
    refine heap_alloc_old ?_ _
    have := heap_alloc_new w (.cells #[.int .i64 an, .int .i64 ad] 23)
    simpa using this
  have E1_0 : Hid (w0.heap[w.heap.size + 1]? = some (.cells #[.int .i64 an, .int .i64 bd] 23 (0, 0))) := by
    show _ = _
    rw [hw0]
    have := heap_alloc_new (w.alloc (.cells #[.int .i64 an, .int .i64 ad] 23)) (.cells #[.int .i64 an, .int .i64 bd] 23)
    simpa using this
  have B0 : Hid (Below w.heap.size w w0) := by
    show Below _ _ _
    rw [hw0]
    exact (((Below.refl _ _).alloc (Nat.le_refl _) _).alloc (by simp <;> omega) _)
  have HT0 := Lib.hid (Tab.later HT.out (B0.out.mono (Nat.le_refl _)))
  rw [← hw0]
  clear hw0 HT
  refine (alive_any _ (by exact HT0.out)).mono ?_
  rintro e w1 ⟨rfl, hb⟩
  have E0_1 := Lib.hid (below_new hb (E0_0).out)
  have E1_1 := Lib.hid (below_new hb (E1_0).out)
  have HT1 := Lib.hid (Tab.later HT0.out hb)
  have B1 := Lib.hid (B0.out.trans (hb.mono B0.out.size))
  clear hb B0 HT0 E0_0 E1_0 
  have l0_1 := lt_of_block E0_1.out
  have p0_1 := cell_two0 E0_1.out
  have q0_1 := cell_two1 E0_1.out
  have l1_1 := lt_of_block E1_1.out
  have p1_1 := cell_two0 E1_1.out
  have q1_1 := cell_two1 E1_1.out
  go_wp2_with fail
  refine (fit_yes F.out.1 F.out.2 _).mono ?_
  rintro e w2 ⟨rfl, hb⟩
  have E0_2 := Lib.hid (below_new hb (E0_1).out)
  have E1_2 := Lib.hid (below_new hb (E1_1).out)
  have HT2 := Lib.hid (Tab.later HT1.out hb)
  have B2 := Lib.hid (B1.out.trans (hb.mono B1.out.size))
  clear hb B1 HT1 E0_1 E1_1 l0_1 p0_1 q0_1 l1_1 p1_1 q1_1
  have l0_2 := lt_of_block E0_2.out
  have p0_2 := cell_two0 E0_2.out
  have q0_2 := cell_two1 E0_2.out
  have l1_2 := lt_of_block E1_2.out
  have p1_2 := cell_two0 E1_2.out
  have q1_2 := cell_two1 E1_2.out
  go_wp2_with fail
  refine (K1.out _).mono ?_
  rintro e w3 ⟨rfl, hb⟩
  have E0_3 := Lib.hid (below_new hb (E0_2).out)
  have E1_3 := Lib.hid (below_new hb (E1_2).out)
  have HT3 := Lib.hid (Tab.later HT2.out hb)
  have B3 := Lib.hid (B2.out.trans (hb.mono B2.out.size))
  clear hb B2 HT2 E0_2 E1_2 l0_2 p0_2 q0_2 l1_2 p1_2 q1_2
  have l0_3 := lt_of_block E0_3.out
  have p0_3 := cell_two0 E0_3.out
  have q0_3 := cell_two1 E0_3.out
  have l1_3 := lt_of_block E1_3.out
  have p1_3 := cell_two0 E1_3.out
  have q1_3 := cell_two1 E1_3.out
  go_wp2_with fail
  refine (K2.out _).mono ?_
  rintro e w4 ⟨rfl, hb⟩
  have E0_4 := Lib.hid (below_new hb (E0_3).out)
  have E1_4 := Lib.hid (below_new hb (E1_3).out)
  have HT4 := Lib.hid (Tab.later HT3.out hb)
  have B4 := Lib.hid (B3.out.trans (hb.mono B3.out.size))
  clear hb B3 HT3 E0_3 E1_3 l0_3 p0_3 q0_3 l1_3 p1_3 q1_3
  have l0_4 := lt_of_block E0_4.out
  have p0_4 := cell_two0 E0_4.out
  have q0_4 := cell_two1 E0_4.out
  have l1_4 := lt_of_block E1_4.out
  have p1_4 := cell_two0 E1_4.out
  have q1_4 := cell_two1 E1_4.out
  go_wp2_with fail
  refine (K3.out _).mono ?_
  rintro e w5 ⟨rfl, hb⟩
  have E0_5 := Lib.hid (below_new hb (E0_4).out)
  have E1_5 := Lib.hid (below_new hb (E1_4).out)
  have HT5 := Lib.hid (Tab.later HT4.out hb)
  have B5 := Lib.hid (B4.out.trans (hb.mono B4.out.size))
  clear hb B4 HT4 E0_4 E1_4 l0_4 p0_4 q0_4 l1_4 p1_4 q1_4
  have l0_5 := lt_of_block E0_5.out
  have p0_5 := cell_two0 E0_5.out
  have q0_5 := cell_two1 E0_5.out
  have l1_5 := lt_of_block E1_5.out
  have p1_5 := cell_two0 E1_5.out
  have q1_5 := cell_two1 E1_5.out
  go_wp2_with fail
  refine (K4.out _).mono ?_
  rintro e w6 ⟨rfl, hb⟩
  have E0_6 := Lib.hid (below_new hb (heap_alloc_old (E0_5).out _))
  have E1_6 := Lib.hid (below_new hb (heap_alloc_old (E1_5).out _))
  have E2_6 := Lib.hid (below_new hb (heap_alloc_new w5 (.cells #[.int .i64 kn, .int .i64 kd] 23)))
  have HT6 := Lib.hid ((Tab.later HT5.out ((Below.refl _ _).alloc (Nat.le_refl _) (.cells #[.int .i64 kn, .int .i64 kd] 23))).later hb)
  have B6 := Lib.hid ((B5.out.alloc B5.out.size (.cells #[.int .i64 kn, .int .i64 kd] 23)).trans (hb.mono (Nat.le_trans B5.out.size (by simp))))
  clear hb B5 HT5 E0_5 E1_5 l0_5 p0_5 q0_5 l1_5 p1_5 q1_5
  have l0_6 := lt_of_block E0_6.out
  have p0_6 := cell_two0 E0_6.out
  have q0_6 := cell_two1 E0_6.out
  have l1_6 := lt_of_block E1_6.out
  have p1_6 := cell_two0 E1_6.out
  have q1_6 := cell_two1 E1_6.out
  have l2_6 := lt_of_block E2_6.out
  have p2_6 := cell_two0 E2_6.out
  have q2_6 := cell_two1 E2_6.out
  go_wp2_with fail
  refine (K5.out _).mono ?_
  rintro e w7 ⟨rfl, hb⟩
  have E0_7 := Lib.hid (below_new hb (E0_6).out)
  have E1_7 := Lib.hid (below_new hb (E1_6).out)
  have E2_7 := Lib.hid (below_new hb (E2_6).out)
  have HT7 := Lib.hid (Tab.later HT6.out hb)
  have B7 := Lib.hid (B6.out.trans (hb.mono B6.out.size))
  clear hb B6 HT6 E0_6 E1_6 E2_6 l0_6 p0_6 q0_6 l1_6 p1_6 q1_6 l2_6 p2_6 q2_6
  have l0_7 := lt_of_block E0_7.out
  have p0_7 := cell_two0 E0_7.out
  have q0_7 := cell_two1 E0_7.out
  have l1_7 := lt_of_block E1_7.out
  have p1_7 := cell_two0 E1_7.out
  have q1_7 := cell_two1 E1_7.out
  have l2_7 := lt_of_block E2_7.out
  have p2_7 := cell_two0 E2_7.out
  have q2_7 := cell_two1 E2_7.out
  go_wp2_with fail
  go_ret
  exact ⟨rfl, B7.out⟩

set_option maxRecDepth 100000 in
set_option maxHeartbeats 8000000 in
theorem order_lt_num_ok (an ad bn bd kn kd ke lo hi : Int) (hv : vld an ad = true ∧ vld bn bd = true) (hne : (an == bn) = false) (s1 : decide (0 < kn) = false)
    (l1 : -1000000000 ≤ lo) (l2 : lo ≤ 1000000000) (l3 : -1000000000 ≤ hi) (l4 : hi ≤ 1000000000) (d1 : 1 ≤ ad) (d2 : ad ≤ 1000000000)
    (o1 : lo ≤ hi) (o2 : (hi - lo == min 1 (ad - 1)) = true) (o3 : lo * ad ≤ an) (o4 : an ≤ hi * ad) (m1 : -1000000000000000000 ≤ lo * ad) (m2 : lo * ad ≤ 1000000000000000000) (m3 : -1000000000000000000 ≤ hi * ad) (m4 : hi * ad ≤ 1000000000000000000)
    (h1 : (∀ w, Calls Tryd.prog 25 #[.agg #[.int .i64 an, .int .i64 ad], .agg #[.int .i64 bn, .int .i64 bd]] w fun e w' => e = .returned (.tuple #[.int .i64 (-1), .int .i64 0]) ∧ Below w.heap.size w w'))
    (h2 : (∀ w, Calls Tryd.prog 25 #[.agg #[.int .i64 bn, .int .i64 bd], .agg #[.int .i64 an, .int .i64 ad]] w fun e w' => e = .returned (.tuple #[.int .i64 1, .int .i64 0]) ∧ Below w.heap.size w w'))
    (h3 : (∀ w, Calls Tryd.prog 24 #[.agg #[.int .i64 an, .int .i64 ad], .agg #[.int .i64 bn, .int .i64 bd]] w fun e w' => e = .returned (.tuple #[.agg #[.int .i64 kn, .int .i64 kd], .int .i64 0]) ∧ Below w.heap.size w w'))
    (h4 : (∀ w, Calls Tryd.prog 26 #[.agg #[.int .i64 an, .int .i64 ad]] w fun e w' => e = .returned (.tuple #[.int .i64 lo, .int .i64 0]) ∧ Below w.heap.size w w'))
    (h5 : (∀ w, Calls Tryd.prog 27 #[.agg #[.int .i64 an, .int .i64 ad]] w fun e w' => e = .returned (.tuple #[.int .i64 hi, .int .i64 0]) ∧ Below w.heap.size w w')) (w : World) (ht : Tab w) :
    Calls Tryd.prog 7 #[.agg #[.int .i64 an, .int .i64 ad], .agg #[.int .i64 bn, .int .i64 bd]] w fun e w' => e = .returned (.bool true) ∧ Below w.heap.size w w' := by
  have K1 := Lib.hid h1
  have K2 := Lib.hid h2
  have K3 := Lib.hid h3
  have K4 := Lib.hid h4
  have K5 := Lib.hid h5
  have F := Lib.hid hv
  clear hv h1 h2 h3 h4 h5
  have HT := Lib.hid ht
  clear ht
  go_enter Tryd.func7, Tryd.ntmps7
  go_wp2_with fail
  obtain ⟨w0, hw0⟩ : ∃ w0, w0 = ((w.alloc (.cells #[.int .i64 an, .int .i64 ad] 23)).alloc (.cells #[.int .i64 bn, .int .i64 bd] 23)) := ⟨_, rfl⟩
  have E0_0 : Hid (w0.heap[w.heap.size]? = some (.cells #[.int .i64 an, .int .i64 ad] 23 (0, 0))) := by
    show _ = _
    rw [hw0]
    refine heap_alloc_old ?_ _
    have := heap_alloc_new w (.cells #[.int .i64 an, .int .i64 ad] 23)
    simpa using this
  have E1_0 : Hid (w0.heap[w.heap.size + 1]? = some (.cells #[.int .i64 bn, .int .i64 bd] 23 (0, 0))) := by
    show _ = _
    rw [hw0]
    have := heap_alloc_new (w.alloc (.cells #[.int .i64 an, .int .i64 ad] 23)) (.cells #[.int .i64 bn, .int .i64 bd] 23)
    simpa using this
  have B0 : Hid (Below w.heap.size w w0) := by
    show Below _ _ _
    rw [hw0]
    exact (((Below.refl _ _).alloc (Nat.le_refl _) _).alloc (by simp <;> omega) _)
  have HT0 := Lib.hid (Tab.later HT.out (B0.out.mono (Nat.le_refl _)))
  rw [← hw0]
  clear hw0 HT
  refine (alive_any _ (by exact HT0.out)).mono ?_
  rintro e w1 ⟨rfl, hb⟩
  have E0_1 := Lib.hid (below_new hb (E0_0).out)
  have E1_1 := Lib.hid (below_new hb (E1_0).out)
  have HT1 := Lib.hid (Tab.later HT0.out hb)
  have B1 := Lib.hid (B0.out.trans (hb.mono B0.out.size))
  clear hb B0 HT0 E0_0 E1_0 
  have l0_1 := lt_of_block E0_1.out
  have p0_1 := cell_two0 E0_1.out
  have q0_1 := cell_two1 E0_1.out
  have l1_1 := lt_of_block E1_1.out
  have p1_1 := cell_two0 E1_1.out
  have q1_1 := cell_two1 E1_1.out
  go_wp2_with fail
  refine (fit_yes F.out.1 F.out.2 _).mono ?_
  rintro e w2 ⟨rfl, hb⟩
  have E0_2 := Lib.hid (below_new hb (E0_1).out)
  have E1_2 := Lib.hid (below_new hb (E1_1).out)
  have HT2 := Lib.hid (Tab.later HT1.out hb)
  have B2 := Lib.hid (B1.out.trans (hb.mono B1.out.size))
  clear hb B1 HT1 E0_1 E1_1 l0_1 p0_1 q0_1 l1_1 p1_1 q1_1
  have l0_2 := lt_of_block E0_2.out
  have p0_2 := cell_two0 E0_2.out
  have q0_2 := cell_two1 E0_2.out
  have l1_2 := lt_of_block E1_2.out
  have p1_2 := cell_two0 E1_2.out
  have q1_2 := cell_two1 E1_2.out
  go_wp2_with fail
  refine (K1.out _).mono ?_
  rintro e w3 ⟨rfl, hb⟩
  have E0_3 := Lib.hid (below_new hb (E0_2).out)
  have E1_3 := Lib.hid (below_new hb (E1_2).out)
  have HT3 := Lib.hid (Tab.later HT2.out hb)
  have B3 := Lib.hid (B2.out.trans (hb.mono B2.out.size))
  clear hb B2 HT2 E0_2 E1_2 l0_2 p0_2 q0_2 l1_2 p1_2 q1_2
  have l0_3 := lt_of_block E0_3.out
  have p0_3 := cell_two0 E0_3.out
  have q0_3 := cell_two1 E0_3.out
  have l1_3 := lt_of_block E1_3.out
  have p1_3 := cell_two0 E1_3.out
  have q1_3 := cell_two1 E1_3.out
  go_wp2_with fail
  refine (K2.out _).mono ?_
  rintro e w4 ⟨rfl, hb⟩
  have E0_4 := Lib.hid (below_new hb (E0_3).out)
  have E1_4 := Lib.hid (below_new hb (E1_3).out)
  have HT4 := Lib.hid (Tab.later HT3.out hb)
  have B4 := Lib.hid (B3.out.trans (hb.mono B3.out.size))
  clear hb B3 HT3 E0_3 E1_3 l0_3 p0_3 q0_3 l1_3 p1_3 q1_3
  have l0_4 := lt_of_block E0_4.out
  have p0_4 := cell_two0 E0_4.out
  have q0_4 := cell_two1 E0_4.out
  have l1_4 := lt_of_block E1_4.out
  have p1_4 := cell_two0 E1_4.out
  have q1_4 := cell_two1 E1_4.out
  go_wp2_with fail
  refine (K3.out _).mono ?_
  rintro e w5 ⟨rfl, hb⟩
  have E0_5 := Lib.hid (below_new hb (E0_4).out)
  have E1_5 := Lib.hid (below_new hb (E1_4).out)
  have HT5 := Lib.hid (Tab.later HT4.out hb)
  have B5 := Lib.hid (B4.out.trans (hb.mono B4.out.size))
  clear hb B4 HT4 E0_4 E1_4 l0_4 p0_4 q0_4 l1_4 p1_4 q1_4
  have l0_5 := lt_of_block E0_5.out
  have p0_5 := cell_two0 E0_5.out
  have q0_5 := cell_two1 E0_5.out
  have l1_5 := lt_of_block E1_5.out
  have p1_5 := cell_two0 E1_5.out
  have q1_5 := cell_two1 E1_5.out
  go_wp2_with fail
  refine (K4.out _).mono ?_
  rintro e w6 ⟨rfl, hb⟩
  have E0_6 := Lib.hid (below_new hb (heap_alloc_old (E0_5).out _))
  have E1_6 := Lib.hid (below_new hb (heap_alloc_old (E1_5).out _))
  have E2_6 := Lib.hid (below_new hb (heap_alloc_new w5 (.cells #[.int .i64 kn, .int .i64 kd] 23)))
  have HT6 := Lib.hid ((Tab.later HT5.out ((Below.refl _ _).alloc (Nat.le_refl _) (.cells #[.int .i64 kn, .int .i64 kd] 23))).later hb)
  have B6 := Lib.hid ((B5.out.alloc B5.out.size (.cells #[.int .i64 kn, .int .i64 kd] 23)).trans (hb.mono (Nat.le_trans B5.out.size (by simp))))
  clear hb B5 HT5 E0_5 E1_5 l0_5 p0_5 q0_5 l1_5 p1_5 q1_5
  have l0_6 := lt_of_block E0_6.out
  have p0_6 := cell_two0 E0_6.out
  have q0_6 := cell_two1 E0_6.out
  have l1_6 := lt_of_block E1_6.out
  have p1_6 := cell_two0 E1_6.out
  have q1_6 := cell_two1 E1_6.out
  have l2_6 := lt_of_block E2_6.out
  have p2_6 := cell_two0 E2_6.out
  have q2_6 := cell_two1 E2_6.out
  go_wp2_with fail
  refine (K5.out _).mono ?_
  rintro e w7 ⟨rfl, hb⟩
  have E0_7 := Lib.hid (below_new hb (E0_6).out)
  have E1_7 := Lib.hid (below_new hb (E1_6).out)
  have E2_7 := Lib.hid (below_new hb (E2_6).out)
  have HT7 := Lib.hid (Tab.later HT6.out hb)
  have B7 := Lib.hid (B6.out.trans (hb.mono B6.out.size))
  clear hb B6 HT6 E0_6 E1_6 E2_6 l0_6 p0_6 q0_6 l1_6 p1_6 q1_6 l2_6 p2_6 q2_6
  have l0_7 := lt_of_block E0_7.out
  have p0_7 := cell_two0 E0_7.out
  have q0_7 := cell_two1 E0_7.out
  have l1_7 := lt_of_block E1_7.out
  have p1_7 := cell_two0 E1_7.out
  have q1_7 := cell_two1 E1_7.out
  have l2_7 := lt_of_block E2_7.out
  have p2_7 := cell_two0 E2_7.out
  have q2_7 := cell_two1 E2_7.out
  go_wp2_with fail
  go_ret
  exact ⟨rfl, B7.out⟩

set_option maxRecDepth 100000 in
set_option maxHeartbeats 8000000 in
theorem order_lt_num_no (an ad bn bd kn kd ke lo hi : Int) (hv : vld an ad = true ∧ vld bn bd = true) (hne : (an == bn) = false) (hke : (ke == 0) = false)
    (l1 : -1000000000 ≤ lo) (l2 : lo ≤ 1000000000) (l3 : -1000000000 ≤ hi) (l4 : hi ≤ 1000000000) (d1 : 1 ≤ ad) (d2 : ad ≤ 1000000000)
    (o1 : lo ≤ hi) (o2 : (hi - lo == min 1 (ad - 1)) = true) (o3 : lo * ad ≤ an) (o4 : an ≤ hi * ad) (m1 : -1000000000000000000 ≤ lo * ad) (m2 : lo * ad ≤ 1000000000000000000) (m3 : -1000000000000000000 ≤ hi * ad) (m4 : hi * ad ≤ 1000000000000000000)
    (h1 : (∀ w, Calls Tryd.prog 25 #[.agg #[.int .i64 an, .int .i64 ad], .agg #[.int .i64 bn, .int .i64 bd]] w fun e w' => e = .returned (.tuple #[.int .i64 (-1), .int .i64 0]) ∧ Below w.heap.size w w'))
    (h2 : (∀ w, Calls Tryd.prog 25 #[.agg #[.int .i64 bn, .int .i64 bd], .agg #[.int .i64 an, .int .i64 ad]] w fun e w' => e = .returned (.tuple #[.int .i64 1, .int .i64 0]) ∧ Below w.heap.size w w'))
    (h3 : (∀ w, Calls Tryd.prog 24 #[.agg #[.int .i64 an, .int .i64 ad], .agg #[.int .i64 bn, .int .i64 bd]] w fun e w' => e = .returned (.tuple #[.agg #[.int .i64 kn, .int .i64 kd], .int .i64 ke]) ∧ Below w.heap.size w w'))
    (h4 : (∀ w, Calls Tryd.prog 26 #[.agg #[.int .i64 an, .int .i64 ad]] w fun e w' => e = .returned (.tuple #[.int .i64 lo, .int .i64 0]) ∧ Below w.heap.size w w'))
    (h5 : (∀ w, Calls Tryd.prog 27 #[.agg #[.int .i64 an, .int .i64 ad]] w fun e w' => e = .returned (.tuple #[.int .i64 hi, .int .i64 0]) ∧ Below w.heap.size w w')) (w : World) (ht : Tab w) :
    Calls Tryd.prog 7 #[.agg #[.int .i64 an, .int .i64 ad], .agg #[.int .i64 bn, .int .i64 bd]] w fun e w' => e = .returned (.bool true) ∧ Below w.heap.size w w' := by
  have K1 := Lib.hid h1
  have K2 := Lib.hid h2
  have K3 := Lib.hid h3
  have K4 := Lib.hid h4
  have K5 := Lib.hid h5
  have F := Lib.hid hv
  clear hv h1 h2 h3 h4 h5
  have HT := Lib.hid ht
  clear ht
  go_enter Tryd.func7, Tryd.ntmps7
  go_wp2_with fail
  obtain ⟨w0, hw0⟩ : ∃ w0, w0 = ((w.alloc (.cells #[.int .i64 an, .int .i64 ad] 23)).alloc (.cells #[.int .i64 bn, .int .i64 bd] 23)) := ⟨_, rfl⟩
  have E0_0 : Hid (w0.heap[w.heap.size]? = some (.cells #[.int .i64 an, .int .i64 ad] 23 (0, 0))) := by
    show _ = _
    rw [hw0]
    refine heap_alloc_old ?_ _
    have := heap_alloc_new w (.cells #[.int .i64 an, .int .i64 ad] 23)
    simpa using this
  have E1_0 : Hid (w0.heap[w.heap.size + 1]? = some (.cells #[.int .i64 bn, .int .i64 bd] 23 (0, 0))) := by
    show _ = _
    rw [hw0]
    have := heap_alloc_new (w.alloc (.cells #[.int .i64 an, .int .i64 ad] 23)) (.cells #[.int .i64 bn, .int .i64 bd] 23)
    simpa using this
  have B0 : Hid (Below w.heap.size w w0) := by
    show Below _ _ _
    rw [hw0]
    exact (((Below.refl _ _).alloc (Nat.le_refl _) _).alloc (by simp <;> omega) _)
  have HT0 := Lib.hid (Tab.later HT.out (B0.out.mono (Nat.le_refl _)))
  rw [← hw0]
  clear hw0 HT
  refine (alive_any _ (by exact HT0.out)).mono ?_
  rintro e w1 ⟨rfl, hb⟩
  have E0_1 := Lib.hid (below_new hb (E0_0).out)
  have E1_1 := Lib.hid (below_new hb (E1_0).out)
  have HT1 := Lib.hid (Tab.later HT0.out hb)
  have B1 := Lib.hid (B0.out.trans (hb.mono B0.out.size))
  clear hb B0 HT0 E0_0 E1_0 
  have l0_1 := lt_of_block E0_1.out
  have p0_1 := cell_two0 E0_1.out
  have q0_1 := cell_two1 E0_1.out
  have l1_1 := lt_of_block E1_1.out
  have p1_1 := cell_two0 E1_1.out
  have q1_1 := cell_two1 E1_1.out
  go_wp2_with fail
  refine (fit_yes F.out.1 F.out.2 _).mono ?_
  rintro e w2 ⟨rfl, hb⟩
  have E0_2 := Lib.hid (below_new hb (E0_1).out)
  have E1_2 := Lib.hid (below_new hb (E1_1).out)
  have HT2 := Lib.hid (Tab.later HT1.out hb)
  have B2 := Lib.hid (B1.out.trans (hb.mono B1.out.size))
  clear hb B1 HT1 E0_1 E1_1 l0_1 p0_1 q0_1 l1_1 p1_1 q1_1
  have l0_2 := lt_of_block E0_2.out
  have p0_2 := cell_two0 E0_2.out
  have q0_2 := cell_two1 E0_2.out
  have l1_2 := lt_of_block E1_2.out
  have p1_2 := cell_two0 E1_2.out
  have q1_2 := cell_two1 E1_2.out
  go_wp2_with fail
  refine (K1.out _).mono ?_
  rintro e w3 ⟨rfl, hb⟩
  have E0_3 := Lib.hid (below_new hb (E0_2).out)
  have E1_3 := Lib.hid (below_new hb (E1_2).out)
  have HT3 := Lib.hid (Tab.later HT2.out hb)
  have B3 := Lib.hid (B2.out.trans (hb.mono B2.out.size))
  clear hb B2 HT2 E0_2 E1_2 l0_2 p0_2 q0_2 l1_2 p1_2 q1_2
  have l0_3 := lt_of_block E0_3.out
  have p0_3 := cell_two0 E0_3.out
  have q0_3 := cell_two1 E0_3.out
  have l1_3 := lt_of_block E1_3.out
  have p1_3 := cell_two0 E1_3.out
  have q1_3 := cell_two1 E1_3.out
  go_wp2_with fail
  refine (K2.out _).mono ?_
  rintro e w4 ⟨rfl, hb⟩
  have E0_4 := Lib.hid (below_new hb (E0_3).out)
  have E1_4 := Lib.hid (below_new hb (E1_3).out)
  have HT4 := Lib.hid (Tab.later HT3.out hb)
  have B4 := Lib.hid (B3.out.trans (hb.mono B3.out.size))
  clear hb B3 HT3 E0_3 E1_3 l0_3 p0_3 q0_3 l1_3 p1_3 q1_3
  have l0_4 := lt_of_block E0_4.out
  have p0_4 := cell_two0 E0_4.out
  have q0_4 := cell_two1 E0_4.out
  have l1_4 := lt_of_block E1_4.out
  have p1_4 := cell_two0 E1_4.out
  have q1_4 := cell_two1 E1_4.out
  go_wp2_with fail
  refine (K3.out _).mono ?_
  rintro e w5 ⟨rfl, hb⟩
  have E0_5 := Lib.hid (below_new hb (E0_4).out)
  have E1_5 := Lib.hid (below_new hb (E1_4).out)
  have HT5 := Lib.hid (Tab.later HT4.out hb)
  have B5 := Lib.hid (B4.out.trans (hb.mono B4.out.size))
  clear hb B4 HT4 E0_4 E1_4 l0_4 p0_4 q0_4 l1_4 p1_4 q1_4
  have l0_5 := lt_of_block E0_5.out
  have p0_5 := cell_two0 E0_5.out
  have q0_5 := cell_two1 E0_5.out
  have l1_5 := lt_of_block E1_5.out
  have p1_5 := cell_two0 E1_5.out
  have q1_5 := cell_two1 E1_5.out
  go_wp2_with fail
  refine (K4.out _).mono ?_
  rintro e w6 ⟨rfl, hb⟩
  have E0_6 := Lib.hid (below_new hb (heap_alloc_old (E0_5).out _))
  have E1_6 := Lib.hid (below_new hb (heap_alloc_old (E1_5).out _))
  have E2_6 := Lib.hid (below_new hb (heap_alloc_new w5 (.cells #[.int .i64 kn, .int .i64 kd] 23)))
  have HT6 := Lib.hid ((Tab.later HT5.out ((Below.refl _ _).alloc (Nat.le_refl _) (.cells #[.int .i64 kn, .int .i64 kd] 23))).later hb)
  have B6 := Lib.hid ((B5.out.alloc B5.out.size (.cells #[.int .i64 kn, .int .i64 kd] 23)).trans (hb.mono (Nat.le_trans B5.out.size (by simp))))
  clear hb B5 HT5 E0_5 E1_5 l0_5 p0_5 q0_5 l1_5 p1_5 q1_5
  have l0_6 := lt_of_block E0_6.out
  have p0_6 := cell_two0 E0_6.out
  have q0_6 := cell_two1 E0_6.out
  have l1_6 := lt_of_block E1_6.out
  have p1_6 := cell_two0 E1_6.out
  have q1_6 := cell_two1 E1_6.out
  have l2_6 := lt_of_block E2_6.out
  have p2_6 := cell_two0 E2_6.out
  have q2_6 := cell_two1 E2_6.out
  go_wp2_with fail
  refine (K5.out _).mono ?_
  rintro e w7 ⟨rfl, hb⟩
  have E0_7 := Lib.hid (below_new hb (E0_6).out)
  have E1_7 := Lib.hid (below_new hb (E1_6).out)
  have E2_7 := Lib.hid (below_new hb (E2_6).out)
  have HT7 := Lib.hid (Tab.later HT6.out hb)
  have B7 := Lib.hid (B6.out.trans (hb.mono B6.out.size))
  clear hb B6 HT6 E0_6 E1_6 E2_6 l0_6 p0_6 q0_6 l1_6 p1_6 q1_6 l2_6 p2_6 q2_6
  have l0_7 := lt_of_block E0_7.out
  have p0_7 := cell_two0 E0_7.out
  have q0_7 := cell_two1 E0_7.out
  have l1_7 := lt_of_block E1_7.out
  have p1_7 := cell_two0 E1_7.out
  have q1_7 := cell_two1 E1_7.out
  have l2_7 := lt_of_block E2_7.out
  have p2_7 := cell_two0 E2_7.out
  have q2_7 := cell_two1 E2_7.out
  go_wp2_with fail
  go_ret
  exact ⟨rfl, B7.out⟩

set_option maxRecDepth 100000 in
set_option maxHeartbeats 8000000 in
theorem order_lt_den_ok (an ad bd kn kd ke lo hi : Int) (hv : vld an ad = true ∧ vld an bd = true) (hne : (ad == bd) = false) (s1 : decide (0 < kn) = false)
    (l1 : -1000000000 ≤ lo) (l2 : lo ≤ 1000000000) (l3 : -1000000000 ≤ hi) (l4 : hi ≤ 1000000000) (d1 : 1 ≤ ad) (d2 : ad ≤ 1000000000)
    (o1 : lo ≤ hi) (o2 : (hi - lo == min 1 (ad - 1)) = true) (o3 : lo * ad ≤ an) (o4 : an ≤ hi * ad) (m1 : -1000000000000000000 ≤ lo * ad) (m2 : lo * ad ≤ 1000000000000000000) (m3 : -1000000000000000000 ≤ hi * ad) (m4 : hi * ad ≤ 1000000000000000000)
    (h1 : (∀ w, Calls Tryd.prog 25 #[.agg #[.int .i64 an, .int .i64 ad], .agg #[.int .i64 an, .int .i64 bd]] w fun e w' => e = .returned (.tuple #[.int .i64 (-1), .int .i64 0]) ∧ Below w.heap.size w w'))
    (h2 : (∀ w, Calls Tryd.prog 25 #[.agg #[.int .i64 an, .int .i64 bd], .agg #[.int .i64 an, .int .i64 ad]] w fun e w' => e = .returned (.tuple #[.int .i64 1, .int .i64 0]) ∧ Below w.heap.size w w'))
    (h3 : (∀ w, Calls Tryd.prog 24 #[.agg #[.int .i64 an, .int .i64 ad], .agg #[.int .i64 an, .int .i64 bd]] w fun e w' => e = .returned (.tuple #[.agg #[.int .i64 kn, .int .i64 kd], .int .i64 0]) ∧ Below w.heap.size w w'))
    (h4 : (∀ w, Calls Tryd.prog 26 #[.agg #[.int .i64 an, .int .i64 ad]] w fun e w' => e = .returned (.tuple #[.int .i64 lo, .int .i64 0]) ∧ Below w.heap.size w w'))
    (h5 : (∀ w, Calls Tryd.prog 27 #[.agg #[.int .i64 an, .int .i64 ad]] w fun e w' => e = .returned (.tuple #[.int .i64 hi, .int .i64 0]) ∧ Below w.heap.size w w')) (w : World) (ht : Tab w) :
    Calls Tryd.prog 7 #[.agg #[.int .i64 an, .int .i64 ad], .agg #[.int .i64 an, .int .i64 bd]] w fun e w' => e = .returned (.bool true) ∧ Below w.heap.size w w' := by
  have K1 := Lib.hid h1
  have K2 := Lib.hid h2
  have K3 := Lib.hid h3
  have K4 := Lib.hid h4
  have K5 := Lib.hid h5
  have F := Lib.hid hv
  clear hv h1 h2 h3 h4 h5
  have HT := Lib.hid ht
  clear ht
  go_enter Tryd.func7, Tryd.ntmps7
  go_wp2_with fail
  obtain ⟨w0, hw0⟩ : ∃ w0, w0 = ((w.alloc (.cells #[.int .i64 an, .int .i64 ad] 23)).alloc (.cells #[.int .i64 an, .int .i64 bd] 23)) := ⟨_, rfl⟩
  have E0_0 : Hid (w0.heap[w.heap.size]? = some (.cells #[.int .i64 an, .int .i64 ad] 23 (0, 0))) := by
    show _ = _
    rw [hw0]
    refine heap_alloc_old ?_ _
    have := heap_alloc_new w (.cells #[.int .i64 an, .int .i64 ad] 23)
    simpa using this
  have E1_0 : Hid (w0.heap[w.heap.size + 1]? = some (.cells #[.int .i64 an, .int .i64 bd] 23 (0, 0))) := by
    show _ = _
    rw [hw0]
    have := heap_alloc_new (w.alloc (.cells #[.int .i64 an, .int .i64 ad] 23)) (.cells #[.int .i64 an, .int .i64 bd] 23)
    simpa using this
  have B0 : Hid (Below w.heap.size w w0) := by
    show Below _ _ _
    rw [hw0]
    exact (((Below.refl _ _).alloc (Nat.le_refl _) _).alloc (by simp <;> omega) _)
  have HT0 := Lib.hid (Tab.later HT.out (B0.out.mono (Nat.le_refl _)))
  rw [← hw0]
  clear hw0 HT
  refine (alive_any _ (by exact HT0.out)).mono ?_
  rintro e w1 ⟨rfl, hb⟩
  have E0_1 := Lib.hid (below_new hb (E0_0).out)
  have E1_1 := Lib.hid (below_new hb (E1_0).out)
  have HT1 := Lib.hid (Tab.later HT0.out hb)
  have B1 := Lib.hid (B0.out.trans (hb.mono B0.out.size))
  clear hb B0 HT0 E0_0 E1_0 
  have l0_1 := lt_of_block E0_1.out
  have p0_1 := cell_two0 E0_1.out
  have q0_1 := cell_two1 E0_1.out
  have l1_1 := lt_of_block E1_1.out
  have p1_1 := cell_two0 E1_1.out
  have q1_1 := cell_two1 E1_1.out
  go_wp2_with fail
  refine (fit_yes F.out.1 F.out.2 _).mono ?_
  rintro e w2 ⟨rfl, hb⟩
  have E0_2 := Lib.hid (below_new hb (E0_1).out)
  have E1_2 := Lib.hid (below_new hb (E1_1).out)
  have HT2 := Lib.hid (Tab.later HT1.out hb)
  have B2 := Lib.hid (B1.out.trans (hb.mono B1.out.size))
  clear hb B1 HT1 E0_1 E1_1 l0_1 p0_1 q0_1 l1_1 p1_1 q1_1
  have l0_2 := lt_of_block E0_2.out
  have p0_2 := cell_two0 E0_2.out
  have q0_2 := cell_two1 E0_2.out
  have l1_2 := lt_of_block E1_2.out
  have p1_2 := cell_two0 E1_2.out
  have q1_2 := cell_two1 E1_2.out
  go_wp2_with fail
  refine (K1.out _).mono ?_
  rintro e w3 ⟨rfl, hb⟩
  have E0_3 := Lib.hid (below_new hb (E0_2).out)
  have E1_3 := Lib.hid (below_new hb (E1_2).out)
  have HT3 := Lib.hid (Tab.later HT2.out hb)
  have B3 := Lib.hid (B2.out.trans (hb.mono B2.out.size))
  clear hb B2 HT2 E0_2 E1_2 l0_2 p0_2 q0_2 l1_2 p1_2 q1_2
  have l0_3 := lt_of_block E0_3.out
  have p0_3 := cell_two0 E0_3.out
  have q0_3 := cell_two1 E0_3.out
  have l1_3 := lt_of_block E1_3.out
  have p1_3 := cell_two0 E1_3.out
  have q1_3 := cell_two1 E1_3.out
  go_wp2_with fail
  refine (K2.out _).mono ?_
  rintro e w4 ⟨rfl, hb⟩
  have E0_4 := Lib.hid (below_new hb (E0_3).out)
  have E1_4 := Lib.hid (below_new hb (E1_3).out)
  have HT4 := Lib.hid (Tab.later HT3.out hb)
  have B4 := Lib.hid (B3.out.trans (hb.mono B3.out.size))
  clear hb B3 HT3 E0_3 E1_3 l0_3 p0_3 q0_3 l1_3 p1_3 q1_3
  have l0_4 := lt_of_block E0_4.out
  have p0_4 := cell_two0 E0_4.out
  have q0_4 := cell_two1 E0_4.out
  have l1_4 := lt_of_block E1_4.out
  have p1_4 := cell_two0 E1_4.out
  have q1_4 := cell_two1 E1_4.out
  go_wp2_with fail
  refine (K3.out _).mono ?_
  rintro e w5 ⟨rfl, hb⟩
  have E0_5 := Lib.hid (below_new hb (E0_4).out)
  have E1_5 := Lib.hid (below_new hb (E1_4).out)
  have HT5 := Lib.hid (Tab.later HT4.out hb)
  have B5 := Lib.hid (B4.out.trans (hb.mono B4.out.size))
  clear hb B4 HT4 E0_4 E1_4 l0_4 p0_4 q0_4 l1_4 p1_4 q1_4
  have l0_5 := lt_of_block E0_5.out
  have p0_5 := cell_two0 E0_5.out
  have q0_5 := cell_two1 E0_5.out
  have l1_5 := lt_of_block E1_5.out
  have p1_5 := cell_two0 E1_5.out
  have q1_5 := cell_two1 E1_5.out
  go_wp2_with fail
  refine (K4.out _).mono ?_
  rintro e w6 ⟨rfl, hb⟩
  have E0_6 := Lib.hid (below_new hb (heap_alloc_old (E0_5).out _))
  have E1_6 := Lib.hid (below_new hb (heap_alloc_old (E1_5).out _))
  have E2_6 := Lib.hid (below_new hb (heap_alloc_new w5 (.cells #[.int .i64 kn, .int .i64 kd] 23)))
  have HT6 := Lib.hid ((Tab.later HT5.out ((Below.refl _ _).alloc (Nat.le_refl _) (.cells #[.int .i64 kn, .int .i64 kd] 23))).later hb)
  have B6 := Lib.hid ((B5.out.alloc B5.out.size (.cells #[.int .i64 kn, .int .i64 kd] 23)).trans (hb.mono (Nat.le_trans B5.out.size (by simp))))
  clear hb B5 HT5 E0_5 E1_5 l0_5 p0_5 q0_5 l1_5 p1_5 q1_5
  have l0_6 := lt_of_block E0_6.out
  have p0_6 := cell_two0 E0_6.out
  have q0_6 := cell_two1 E0_6.out
  have l1_6 := lt_of_block E1_6.out
  have p1_6 := cell_two0 E1_6.out
  have q1_6 := cell_two1 E1_6.out
  have l2_6 := lt_of_block E2_6.out
  have p2_6 := cell_two0 E2_6.out
  have q2_6 := cell_two1 E2_6.out
  go_wp2_with fail
  refine (K5.out _).mono ?_
  rintro e w7 ⟨rfl, hb⟩
  have E0_7 := Lib.hid (below_new hb (E0_6).out)
  have E1_7 := Lib.hid (below_new hb (E1_6).out)
  have E2_7 := Lib.hid (below_new hb (E2_6).out)
  have HT7 := Lib.hid (Tab.later HT6.out hb)
  have B7 := Lib.hid (B6.out.trans (hb.mono B6.out.size))
  clear hb B6 HT6 E0_6 E1_6 E2_6 l0_6 p0_6 q0_6 l1_6 p1_6 q1_6 l2_6 p2_6 q2_6
  have l0_7 := lt_of_block E0_7.out
  have p0_7 := cell_two0 E0_7.out
  have q0_7 := cell_two1 E0_7.out
  have l1_7 := lt_of_block E1_7.out
  have p1_7 := cell_two0 E1_7.out
  have q1_7 := cell_two1 E1_7.out
  have l2_7 := lt_of_block E2_7.out
  have p2_7 := cell_two0 E2_7.out
  have q2_7 := cell_two1 E2_7.out
  go_wp2_with fail
  go_ret
  exact ⟨rfl, B7.out⟩

set_option maxRecDepth 100000 in
set_option maxHeartbeats 8000000 in
theorem order_lt_den_no (an ad bd kn kd ke lo hi : Int) (hv : vld an ad = true ∧ vld an bd = true) (hne : (ad == bd) = false) (hke : (ke == 0) = false)
    (l1 : -1000000000 ≤ lo) (l2 : lo ≤ 1000000000) (l3 : -1000000000 ≤ hi) (l4 : hi ≤ 1000000000) (d1 : 1 ≤ ad) (d2 : ad ≤ 1000000000)
    (o1 : lo ≤ hi) (o2 : (hi - lo == min 1 (ad - 1)) = true) (o3 : lo * ad ≤ an) (o4 : an ≤ hi * ad) (m1 : -1000000000000000000 ≤ lo * ad) (m2 : lo * ad ≤ 1000000000000000000) (m3 : -1000000000000000000 ≤ hi * ad) (m4 : hi * ad ≤ 1000000000000000000)
    (h1 : (∀ w, Calls Tryd.prog 25 #[.agg #[.int .i64 an, .int .i64 ad], .agg #[.int .i64 an, .int .i64 bd]] w fun e w' => e = .returned (.tuple #[.int .i64 (-1), .int .i64 0]) ∧ Below w.heap.size w w'))
    (h2 : (∀ w, Calls Tryd.prog 25 #[.agg #[.int .i64 an, .int .i64 bd], .agg #[.int .i64 an, .int .i64 ad]] w fun e w' => e = .returned (.tuple #[.int .i64 1, .int .i64 0]) ∧ Below w.heap.size w w'))
    (h3 : (∀ w, Calls Tryd.prog 24 #[.agg #[.int .i64 an, .int .i64 ad], .agg #[.int .i64 an, .int .i64 bd]] w fun e w' => e = .returned (.tuple #[.agg #[.int .i64 kn, .int .i64 kd], .int .i64 ke]) ∧ Below w.heap.size w w'))
    (h4 : (∀ w, Calls Tryd.prog 26 #[.agg #[.int .i64 an, .int .i64 ad]] w fun e w' => e = .returned (.tuple #[.int .i64 lo, .int .i64 0]) ∧ Below w.heap.size w w'))
    (h5 : (∀ w, Calls Tryd.prog 27 #[.agg #[.int .i64 an, .int .i64 ad]] w fun e w' => e = .returned (.tuple #[.int .i64 hi, .int .i64 0]) ∧ Below w.heap.size w w')) (w : World) (ht : Tab w) :
    Calls Tryd.prog 7 #[.agg #[.int .i64 an, .int .i64 ad], .agg #[.int .i64 an, .int .i64 bd]] w fun e w' => e = .returned (.bool true) ∧ Below w.heap.size w w' := by
  have K1 := Lib.hid h1
  have K2 := Lib.hid h2
  have K3 := Lib.hid h3
  have K4 := Lib.hid h4
  have K5 := Lib.hid h5
  have F := Lib.hid hv
  clear hv h1 h2 h3 h4 h5
  have HT := Lib.hid ht
  clear ht
  go_enter Tryd.func7, Tryd.ntmps7
  go_wp2_with fail
  obtain ⟨w0, hw0⟩ : ∃ w0, w0 = ((w.alloc (.cells #[.int .i64 an, .int .i64 ad] 23)).alloc (.cells #[.int .i64 an, .int .i64 bd] 23)) := ⟨_, rfl⟩
  have E0_0 : Hid (w0.heap[w.heap.size]? = some (.cells #[.int .i64 an, .int .i64 ad] 23 (0, 0))) := by
    show _ = _
    rw [hw0]
    refine heap_alloc_old ?_ _
    have := heap_alloc_new w (.cells #[.int .i64 an, .int .i64 ad] 23)
    simpa using this
  have E1_0 : Hid (w0.heap[w.heap.size + 1]? = some (.cells #[.int .i64 an, .int .i64 bd] 23 (0, 0))) := by
    show _ = _
    rw [hw0]
    have := heap_alloc_new (w.alloc (.cells #[.int .i64 an, .int .i64 ad] 23)) (.cells #[.int .i64 an, .int .i64 bd] 23)
    simpa using this
  have B0 : Hid (Below w.heap.size w w0) := by
    show Below _ _ _
    rw [hw0]
    exact (((Below.refl _ _).alloc (Nat.le_refl _) _).alloc (by simp <;> omega) _)
  have HT0 := Lib.hid (Tab.later HT.out (B0.out.mono (Nat.le_refl _)))
  rw [← hw0]
  clear hw0 HT
  refine (alive_any _ (by exact HT0.out)).mono ?_
  rintro e w1 ⟨rfl, hb⟩
  have E0_1 := Lib.hid (below_new hb (E0_0).out)
  have E1_1 := Lib.hid (below_new hb (E1_0).out)
  have HT1 := Lib.hid (Tab.later HT0.out hb)
  have B1 := Lib.hid (B0.out.trans (hb.mono B0.out.size))
  clear hb B0 HT0 E0_0 E1_0 
  have l0_1 := lt_of_block E0_1.out
  have p0_1 := cell_two0 E0_1.out
  have q0_1 := cell_two1 E0_1.out
  have l1_1 := lt_of_block E1_1.out
  have p1_1 := cell_two0 E1_1.out
  have q1_1 := cell_two1 E1_1.out
  go_wp2_with fail
  refine (fit_yes F.out.1 F.out.2 _).mono ?_
  rintro e w2 ⟨rfl, hb⟩
  have E0_2 := Lib.hid (below_new hb (E0_1).out)
  have E1_2 := Lib.hid (below_new hb (E1_1).out)
  have HT2 := Lib.hid (Tab.later HT1.out hb)
  have B2 := Lib.hid (B1.out.trans (hb.mono B1.out.size))
  clear hb B1 HT1 E0_1 E1_1 l0_1 p0_1 q0_1 l1_1 p1_1 q1_1
  have l0_2 := lt_of_block E0_2.out
  have p0_2 := cell_two0 E0_2.out
  have q0_2 := cell_two1 E0_2.out
  have l1_2 := lt_of_block E1_2.out
  have p1_2 := cell_two0 E1_2.out
  have q1_2 := cell_two1 E1_2.out
  go_wp2_with fail
  refine (K1.out _).mono ?_
  rintro e w3 ⟨rfl, hb⟩
  have E0_3 := Lib.hid (below_new hb (E0_2).out)
  have E1_3 := Lib.hid (below_new hb (E1_2).out)
  have HT3 := Lib.hid (Tab.later HT2.out hb)
  have B3 := Lib.hid (B2.out.trans (hb.mono B2.out.size))
  clear hb B2 HT2 E0_2 E1_2 l0_2 p0_2 q0_2 l1_2 p1_2 q1_2
  have l0_3 := lt_of_block E0_3.out
  have p0_3 := cell_two0 E0_3.out
  have q0_3 := cell_two1 E0_3.out
  have l1_3 := lt_of_block E1_3.out
  have p1_3 := cell_two0 E1_3.out
  have q1_3 := cell_two1 E1_3.out
  go_wp2_with fail
  refine (K2.out _).mono ?_
  rintro e w4 ⟨rfl, hb⟩
  have E0_4 := Lib.hid (below_new hb (E0_3).out)
  have E1_4 := Lib.hid (below_new hb (E1_3).out)
  have HT4 := Lib.hid (Tab.later HT3.out hb)
  have B4 := Lib.hid (B3.out.trans (hb.mono B3.out.size))
  clear hb B3 HT3 E0_3 E1_3 l0_3 p0_3 q0_3 l1_3 p1_3 q1_3
  have l0_4 := lt_of_block E0_4.out
  have p0_4 := cell_two0 E0_4.out
  have q0_4 := cell_two1 E0_4.out
  have l1_4 := lt_of_block E1_4.out
  have p1_4 := cell_two0 E1_4.out
  have q1_4 := cell_two1 E1_4.out
  go_wp2_with fail
  refine (K3.out _).mono ?_
  rintro e w5 ⟨rfl, hb⟩
  have E0_5 := Lib.hid (below_new hb (E0_4).out)
  have E1_5 := Lib.hid (below_new hb (E1_4).out)
  have HT5 := Lib.hid (Tab.later HT4.out hb)
  have B5 := Lib.hid (B4.out.trans (hb.mono B4.out.size))
  clear hb B4 HT4 E0_4 E1_4 l0_4 p0_4 q0_4 l1_4 p1_4 q1_4
  have l0_5 := lt_of_block E0_5.out
  have p0_5 := cell_two0 E0_5.out
  have q0_5 := cell_two1 E0_5.out
  have l1_5 := lt_of_block E1_5.out
  have p1_5 := cell_two0 E1_5.out
  have q1_5 := cell_two1 E1_5.out
  go_wp2_with fail
  refine (K4.out _).mono ?_
  rintro e w6 ⟨rfl, hb⟩
  have E0_6 := Lib.hid (below_new hb (heap_alloc_old (E0_5).out _))
  have E1_6 := Lib.hid (below_new hb (heap_alloc_old (E1_5).out _))
  have E2_6 := Lib.hid (below_new hb (heap_alloc_new w5 (.cells #[.int .i64 kn, .int .i64 kd] 23)))
  have HT6 := Lib.hid ((Tab.later HT5.out ((Below.refl _ _).alloc (Nat.le_refl _) (.cells #[.int .i64 kn, .int .i64 kd] 23))).later hb)
  have B6 := Lib.hid ((B5.out.alloc B5.out.size (.cells #[.int .i64 kn, .int .i64 kd] 23)).trans (hb.mono (Nat.le_trans B5.out.size (by simp))))
  clear hb B5 HT5 E0_5 E1_5 l0_5 p0_5 q0_5 l1_5 p1_5 q1_5
  have l0_6 := lt_of_block E0_6.out
  have p0_6 := cell_two0 E0_6.out
  have q0_6 := cell_two1 E0_6.out
  have l1_6 := lt_of_block E1_6.out
  have p1_6 := cell_two0 E1_6.out
  have q1_6 := cell_two1 E1_6.out
  have l2_6 := lt_of_block E2_6.out
  have p2_6 := cell_two0 E2_6.out
  have q2_6 := cell_two1 E2_6.out
  go_wp2_with fail
  refine (K5.out _).mono ?_
  rintro e w7 ⟨rfl, hb⟩
  have E0_7 := Lib.hid (below_new hb (E0_6).out)
  have E1_7 := Lib.hid (below_new hb (E1_6).out)
  have E2_7 := Lib.hid (below_new hb (E2_6).out)
  have HT7 := Lib.hid (Tab.later HT6.out hb)
  have B7 := Lib.hid (B6.out.trans (hb.mono B6.out.size))
  clear hb B6 HT6 E0_6 E1_6 E2_6 l0_6 p0_6 q0_6 l1_6 p1_6 q1_6 l2_6 p2_6 q2_6
  have l0_7 := lt_of_block E0_7.out
  have p0_7 := cell_two0 E0_7.out
  have q0_7 := cell_two1 E0_7.out
  have l1_7 := lt_of_block E1_7.out
  have p1_7 := cell_two0 E1_7.out
  have q1_7 := cell_two1 E1_7.out
  have l2_7 := lt_of_block E2_7.out
  have p2_7 := cell_two0 E2_7.out
  have q2_7 := cell_two1 E2_7.out
  go_wp2_with fail
  go_ret
  exact ⟨rfl, B7.out⟩

end Go.Proofs.YtchjkjhkmhkjeaaDoor
