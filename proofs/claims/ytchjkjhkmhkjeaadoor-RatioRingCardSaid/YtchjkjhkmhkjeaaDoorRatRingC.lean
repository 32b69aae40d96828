/-
  Walks of RatioRing.
-/
import Derived.Test.YtchjkjhkmhkjeaaDoorRatFit
namespace Go.Proofs.YtchjkjhkmhkjeaaDoor
open Go.RowKit
open RM
set_option linter.unusedVariables false
set_option linter.unusedSimpArgs false

set_option maxRecDepth 100000 in
set_option maxHeartbeats 8000000 in
theorem ring_ok_i (an ad bn bd cn cd pn pd qn qd ln ld rn rd xn xd sn sd tn td yn yd ee ff gg hh ii jj kk ll : Int) (hv : vld an ad = true ∧ vld bn bd = true ∧ vld cn cd = true) (nii : (ii == 0) = false)
    (h1 : (∀ w, Calls Tryd.prog 18 #[.agg #[.int .i64 an, .int .i64 ad], .agg #[.int .i64 bn, .int .i64 bd]] w fun e w' => e = .returned (.tuple #[.agg #[.int .i64 pn, .int .i64 pd], .int .i64 0]) ∧ Below w.heap.size w w'))
    (h2 : (∀ w, Calls Tryd.prog 18 #[.agg #[.int .i64 bn, .int .i64 bd], .agg #[.int .i64 cn, .int .i64 cd]] w fun e w' => e = .returned (.tuple #[.agg #[.int .i64 qn, .int .i64 qd], .int .i64 0]) ∧ Below w.heap.size w w'))
    (h3 : (∀ w, Calls Tryd.prog 18 #[.agg #[.int .i64 pn, .int .i64 pd], .agg #[.int .i64 cn, .int .i64 cd]] w fun e w' => e = .returned (.tuple #[.agg #[.int .i64 ln, .int .i64 ld], .int .i64 0]) ∧ Below w.heap.size w w'))
    (h4 : (∀ w, Calls Tryd.prog 18 #[.agg #[.int .i64 an, .int .i64 ad], .agg #[.int .i64 qn, .int .i64 qd]] w fun e w' => e = .returned (.tuple #[.agg #[.int .i64 ln, .int .i64 ld], .int .i64 0]) ∧ Below w.heap.size w w'))
    (h5 : (∀ w, Calls Tryd.prog 23 #[.agg #[.int .i64 pn, .int .i64 pd], .agg #[.int .i64 cn, .int .i64 cd]] w fun e w' => e = .returned (.tuple #[.agg #[.int .i64 xn, .int .i64 xd], .int .i64 ii]) ∧ Below w.heap.size w w'))
    (h6 : (∀ w, Calls Tryd.prog 23 #[.agg #[.int .i64 an, .int .i64 ad], .agg #[.int .i64 cn, .int .i64 cd]] w fun e w' => e = .returned (.tuple #[.agg #[.int .i64 sn, .int .i64 sd], .int .i64 jj]) ∧ Below w.heap.size w w'))
    (h7 : (∀ w, Calls Tryd.prog 23 #[.agg #[.int .i64 bn, .int .i64 bd], .agg #[.int .i64 cn, .int .i64 cd]] w fun e w' => e = .returned (.tuple #[.agg #[.int .i64 tn, .int .i64 td], .int .i64 kk]) ∧ Below w.heap.size w w'))
    (h8 : (∀ w, Calls Tryd.prog 18 #[.agg #[.int .i64 sn, .int .i64 sd], .agg #[.int .i64 tn, .int .i64 td]] w fun e w' => e = .returned (.tuple #[.agg #[.int .i64 yn, .int .i64 yd], .int .i64 ll]) ∧ Below w.heap.size w w')) (w : World) (ht : Tab w) :
    Calls Tryd.prog 6 #[.agg #[.int .i64 an, .int .i64 ad], .agg #[.int .i64 bn, .int .i64 bd], .agg #[.int .i64 cn, .int .i64 cd]] w fun e w' => e = .returned (.bool true) ∧ Below w.heap.size w w' := by
  have K1 := Lib.hid h1
  have K2 := Lib.hid h2
  have K3 := Lib.hid h3
  have K4 := Lib.hid h4
  have K5 := Lib.hid h5
  have K6 := Lib.hid h6
  have K7 := Lib.hid h7
  have K8 := Lib.hid h8
  have mii : (ii != 0) = true := by rw [bne_iff_ne]; exact beq_eq_false_iff_ne.1 nii
  have F := Lib.hid hv
  clear hv h1 h2 h3 h4 h5 h6 h7 h8
  have HT := Lib.hid ht
  clear ht
  go_enter Tryd.func6, Tryd.ntmps6
  go_wp2_with fail
  obtain ⟨w0, hw0⟩ : ∃ w0, w0 = (((w.alloc (.cells #[.int .i64 an, .int .i64 ad] 23)).alloc (.cells #[.int .i64 bn, .int .i64 bd] 23)).alloc (.cells #[.int .i64 cn, .int .i64 cd] 23)) := ⟨_, rfl⟩
  have E0_0 : Hid (w0.heap[w.heap.size]? = some (.cells #[.int .i64 an, .int .i64 ad] 23 (0, 0))) := by
    show _ = _
    rw [hw0]
    refine heap_alloc_old ?_ _
    refine heap_alloc_old ?_ _
    have := heap_alloc_new w (.cells #[.int .i64 an, .int .i64 ad] 23)
    simpa using this
  have E1_0 : Hid (w0.heap[w.heap.size + 1]? = some (.cells #[.int .i64 bn, .int .i64 bd] 23 (0, 0))) := by
    show _ = _
    rw [hw0]
    refine heap_alloc_old ?_ _
    have := heap_alloc_new (w.alloc (.cells #[.int .i64 an, .int .i64 ad] 23)) (.cells #[.int .i64 bn, .int .i64 bd] 23)
    simpa using this
  have E2_0 : Hid (w0.heap[w.heap.size + 1 + 1]? = some (.cells #[.int .i64 cn, .int .i64 cd] 23 (0, 0))) := by
    show _ = _
    rw [hw0]
    have := heap_alloc_new ((w.alloc (.cells #[.int .i64 an, .int .i64 ad] 23)).alloc (.cells #[.int .i64 bn, .int .i64 bd] 23)) (.cells #[.int .i64 cn, .int .i64 cd] 23)
    simpa using this
  have B0 : Hid (Below w.heap.size w w0) := by
    show Below _ _ _
    rw [hw0]
    exact ((((Below.refl _ _).alloc (Nat.le_refl _) _).alloc (by simp <;> omega) _).alloc (by simp <;> omega) _)
  have HT0 := Lib.hid (Tab.later HT.out (B0.out.mono (Nat.le_refl _)))
  rw [← hw0]
  clear hw0 HT
  refine (alive_any _ (by exact HT0.out)).mono ?_
  rintro e w1 ⟨rfl, hb⟩
  have E0_1 := Lib.hid (below_new hb (E0_0).out)
  have E1_1 := Lib.hid (below_new hb (E1_0).out)
  have E2_1 := Lib.hid (below_new hb (E2_0).out)
  have HT1 := Lib.hid (Tab.later HT0.out hb)
  have B1 := Lib.hid (B0.out.trans (hb.mono B0.out.size))
  clear hb B0 HT0 E0_0 E1_0 E2_0 
  have l0_1 := lt_of_block E0_1.out
  have p0_1 := cell_two0 E0_1.out
  have q0_1 := cell_two1 E0_1.out
  have l1_1 := lt_of_block E1_1.out
  have p1_1 := cell_two0 E1_1.out
  have q1_1 := cell_two1 E1_1.out
  have l2_1 := lt_of_block E2_1.out
  have p2_1 := cell_two0 E2_1.out
  have q2_1 := cell_two1 E2_1.out
  go_wp2_with fail
  refine (fit_yes F.out.1 F.out.2.1 _).mono ?_
  rintro e w2 ⟨rfl, hb⟩
  have E0_2 := Lib.hid (below_new hb (E0_1).out)
  have E1_2 := Lib.hid (below_new hb (E1_1).out)
  have E2_2 := Lib.hid (below_new hb (E2_1).out)
  have HT2 := Lib.hid (Tab.later HT1.out hb)
  have B2 := Lib.hid (B1.out.trans (hb.mono B1.out.size))
  clear hb B1 HT1 E0_1 E1_1 E2_1 l0_1 p0_1 q0_1 l1_1 p1_1 q1_1 l2_1 p2_1 q2_1
  have l0_2 := lt_of_block E0_2.out
  have p0_2 := cell_two0 E0_2.out
  have q0_2 := cell_two1 E0_2.out
  have l1_2 := lt_of_block E1_2.out
  have p1_2 := cell_two0 E1_2.out
  have q1_2 := cell_two1 E1_2.out
  have l2_2 := lt_of_block E2_2.out
  have p2_2 := cell_two0 E2_2.out
  have q2_2 := cell_two1 E2_2.out
  go_wp2_with fail
  refine (fit_yes F.out.2.2 F.out.2.2 _).mono ?_
  rintro e w3 ⟨rfl, hb⟩
  have E0_3 := Lib.hid (below_new hb (E0_2).out)
  have E1_3 := Lib.hid (below_new hb (E1_2).out)
  have E2_3 := Lib.hid (below_new hb (E2_2).out)
  have HT3 := Lib.hid (Tab.later HT2.out hb)
  have B3 := Lib.hid (B2.out.trans (hb.mono B2.out.size))
  clear hb B2 HT2 E0_2 E1_2 E2_2 l0_2 p0_2 q0_2 l1_2 p1_2 q1_2 l2_2 p2_2 q2_2
  have l0_3 := lt_of_block E0_3.out
  have p0_3 := cell_two0 E0_3.out
  have q0_3 := cell_two1 E0_3.out
  have l1_3 := lt_of_block E1_3.out
  have p1_3 := cell_two0 E1_3.out
  have q1_3 := cell_two1 E1_3.out
  have l2_3 := lt_of_block E2_3.out
  have p2_3 := cell_two0 E2_3.out
  have q2_3 := cell_two1 E2_3.out
  go_wp2_with fail
  refine (K1.out _).mono ?_
  rintro e w4 ⟨rfl, hb⟩
  have E0_4 := Lib.hid (below_new hb (E0_3).out)
  have E1_4 := Lib.hid (below_new hb (E1_3).out)
  have E2_4 := Lib.hid (below_new hb (E2_3).out)
  have HT4 := Lib.hid (Tab.later HT3.out hb)
  have B4 := Lib.hid (B3.out.trans (hb.mono B3.out.size))
  clear hb B3 HT3 E0_3 E1_3 E2_3 l0_3 p0_3 q0_3 l1_3 p1_3 q1_3 l2_3 p2_3 q2_3
  have l0_4 := lt_of_block E0_4.out
  have p0_4 := cell_two0 E0_4.out
  have q0_4 := cell_two1 E0_4.out
  have l1_4 := lt_of_block E1_4.out
  have p1_4 := cell_two0 E1_4.out
  have q1_4 := cell_two1 E1_4.out
  have l2_4 := lt_of_block E2_4.out
  have p2_4 := cell_two0 E2_4.out
  have q2_4 := cell_two1 E2_4.out
  go_wp2_with fail
  refine (K2.out _).mono ?_
  rintro e w5 ⟨rfl, hb⟩
  have E0_5 := Lib.hid (below_new hb (heap_alloc_old (E0_4).out _))
  have E1_5 := Lib.hid (below_new hb (heap_alloc_old (E1_4).out _))
  have E2_5 := Lib.hid (below_new hb (heap_alloc_old (E2_4).out _))
  have E3_5 := Lib.hid (below_new hb (heap_alloc_new w4 (.cells #[.int .i64 pn, .int .i64 pd] 23)))
  have HT5 := Lib.hid ((Tab.later HT4.out ((Below.refl _ _).alloc (Nat.le_refl _) (.cells #[.int .i64 pn, .int .i64 pd] 23))).later hb)
  have B5 := Lib.hid ((B4.out.alloc B4.out.size (.cells #[.int .i64 pn, .int .i64 pd] 23)).trans (hb.mono (Nat.le_trans B4.out.size (by simp))))
  clear hb B4 HT4 E0_4 E1_4 E2_4 l0_4 p0_4 q0_4 l1_4 p1_4 q1_4 l2_4 p2_4 q2_4
  have l0_5 := lt_of_block E0_5.out
  have p0_5 := cell_two0 E0_5.out
  have q0_5 := cell_two1 E0_5.out
  have l1_5 := lt_of_block E1_5.out
  have p1_5 := cell_two0 E1_5.out
  have q1_5 := cell_two1 E1_5.out
  have l2_5 := lt_of_block E2_5.out
  have p2_5 := cell_two0 E2_5.out
  have q2_5 := cell_two1 E2_5.out
  have l3_5 := lt_of_block E3_5.out
  have p3_5 := cell_two0 E3_5.out
  have q3_5 := cell_two1 E3_5.out
  go_wp2_with fail
  refine (K3.out _).mono ?_
  rintro e w6 ⟨rfl, hb⟩
  have E0_6 := Lib.hid (below_new hb (heap_alloc_old (E0_5).out _))
  have E1_6 := Lib.hid (below_new hb (heap_alloc_old (E1_5).out _))
  have E2_6 := Lib.hid (below_new hb (heap_alloc_old (E2_5).out _))
  have E3_6 := Lib.hid (below_new hb (heap_alloc_old (E3_5).out _))
  have E4_6 := Lib.hid (below_new hb (heap_alloc_new w5 (.cells #[.int .i64 qn, .int .i64 qd] 23)))
  have HT6 := Lib.hid ((Tab.later HT5.out ((Below.refl _ _).alloc (Nat.le_refl _) (.cells #[.int .i64 qn, .int .i64 qd] 23))).later hb)
  have B6 := Lib.hid ((B5.out.alloc B5.out.size (.cells #[.int .i64 qn, .int .i64 qd] 23)).trans (hb.mono (Nat.le_trans B5.out.size (by simp))))
  clear hb B5 HT5 E0_5 E1_5 E2_5 E3_5 l0_5 p0_5 q0_5 l1_5 p1_5 q1_5 l2_5 p2_5 q2_5 l3_5 p3_5 q3_5
  have l0_6 := lt_of_block E0_6.out
  have p0_6 := cell_two0 E0_6.out
  have q0_6 := cell_two1 E0_6.out
  have l1_6 := lt_of_block E1_6.out
  have p1_6 := cell_two0 E1_6.out
  have q1_6 := cell_two1 E1_6.out
  have l2_6 := lt_of_block E2_6.out
  have p2_6 := cell_two0 E2_6.out
  have q2_6 := cell_two1 E2_6.out
  have l3_6 := lt_of_block E3_6.out
  have p3_6 := cell_two0 E3_6.out
  have q3_6 := cell_two1 E3_6.out
  have l4_6 := lt_of_block E4_6.out
  have p4_6 := cell_two0 E4_6.out
  have q4_6 := cell_two1 E4_6.out
  go_wp2_with fail
  refine (K4.out _).mono ?_
  rintro e w7 ⟨rfl, hb⟩
  have E0_7 := Lib.hid (below_new hb (heap_alloc_old (E0_6).out _))
  have E1_7 := Lib.hid (below_new hb (heap_alloc_old (E1_6).out _))
  have E2_7 := Lib.hid (below_new hb (heap_alloc_old (E2_6).out _))
  have E3_7 := Lib.hid (below_new hb (heap_alloc_old (E3_6).out _))
  have E4_7 := Lib.hid (below_new hb (heap_alloc_old (E4_6).out _))
  have E5_7 := Lib.hid (below_new hb (heap_alloc_new w6 (.cells #[.int .i64 ln, .int .i64 ld] 23)))
  have HT7 := Lib.hid ((Tab.later HT6.out ((Below.refl _ _).alloc (Nat.le_refl _) (.cells #[.int .i64 ln, .int .i64 ld] 23))).later hb)
  have B7 := Lib.hid ((B6.out.alloc B6.out.size (.cells #[.int .i64 ln, .int .i64 ld] 23)).trans (hb.mono (Nat.le_trans B6.out.size (by simp))))
  clear hb B6 HT6 E0_6 E1_6 E2_6 E3_6 E4_6 l0_6 p0_6 q0_6 l1_6 p1_6 q1_6 l2_6 p2_6 q2_6 l3_6 p3_6 q3_6 l4_6 p4_6 q4_6
  have l0_7 := lt_of_block E0_7.out
  have p0_7 := cell_two0 E0_7.out
  have q0_7 := cell_two1 E0_7.out
  have l1_7 := lt_of_block E1_7.out
  have p1_7 := cell_two0 E1_7.out
  have q1_7 := cell_two1 E1_7.out
  have l2_7 := lt_of_block E2_7.out
  have p2_7 := cell_two0 E2_7.out
  have q2_7 := cell_two1 E2_7.out
  have l3_7 := lt_of_block E3_7.out
  have p3_7 := cell_two0 E3_7.out
  have q3_7 := cell_two1 E3_7.out
  have l4_7 := lt_of_block E4_7.out
  have p4_7 := cell_two0 E4_7.out
  have q4_7 := cell_two1 E4_7.out
  have l5_7 := lt_of_block E5_7.out
  have p5_7 := cell_two0 E5_7.out
  have q5_7 := cell_two1 E5_7.out
  go_wp2_with fail
  refine (K5.out _).mono ?_
  rintro e w8 ⟨rfl, hb⟩
  have E0_8 := Lib.hid (below_new hb (heap_alloc_old (E0_7).out _))
  have E1_8 := Lib.hid (below_new hb (heap_alloc_old (E1_7).out _))
  have E2_8 := Lib.hid (below_new hb (heap_alloc_old (E2_7).out _))
  have E3_8 := Lib.hid (below_new hb (heap_alloc_old (E3_7).out _))
  have E4_8 := Lib.hid (below_new hb (heap_alloc_old (E4_7).out _))
  have E5_8 := Lib.hid (below_new hb (heap_alloc_old (E5_7).out _))
  have E6_8 := Lib.hid (below_new hb (heap_alloc_new w7 (.cells #[.int .i64 ln, .int .i64 ld] 23)))
  have HT8 := Lib.hid ((Tab.later HT7.out ((Below.refl _ _).alloc (Nat.le_refl _) (.cells #[.int .i64 ln, .int .i64 ld] 23))).later hb)
  have B8 := Lib.hid ((B7.out.alloc B7.out.size (.cells #[.int .i64 ln, .int .i64 ld] 23)).trans (hb.mono (Nat.le_trans B7.out.size (by simp))))
  clear hb B7 HT7 E0_7 E1_7 E2_7 E3_7 E4_7 E5_7 l0_7 p0_7 q0_7 l1_7 p1_7 q1_7 l2_7 p2_7 q2_7 l3_7 p3_7 q3_7 l4_7 p4_7 q4_7 l5_7 p5_7 q5_7
  have l0_8 := lt_of_block E0_8.out
  have p0_8 := cell_two0 E0_8.out
  have q0_8 := cell_two1 E0_8.out
  have l1_8 := lt_of_block E1_8.out
  have p1_8 := cell_two0 E1_8.out
  have q1_8 := cell_two1 E1_8.out
  have l2_8 := lt_of_block E2_8.out
  have p2_8 := cell_two0 E2_8.out
  have q2_8 := cell_two1 E2_8.out
  have l3_8 := lt_of_block E3_8.out
  have p3_8 := cell_two0 E3_8.out
  have q3_8 := cell_two1 E3_8.out
  have l4_8 := lt_of_block E4_8.out
  have p4_8 := cell_two0 E4_8.out
  have q4_8 := cell_two1 E4_8.out
  have l5_8 := lt_of_block E5_8.out
  have p5_8 := cell_two0 E5_8.out
  have q5_8 := cell_two1 E5_8.out
  have l6_8 := lt_of_block E6_8.out
  have p6_8 := cell_two0 E6_8.out
  have q6_8 := cell_two1 E6_8.out
  go_wp2_with fail
  refine (K6.out _).mono ?_
  rintro e w9 ⟨rfl, hb⟩
  have E0_9 := Lib.hid (below_new hb (heap_alloc_old (E0_8).out _))
  have E1_9 := Lib.hid (below_new hb (heap_alloc_old (E1_8).out _))
  have E2_9 := Lib.hid (below_new hb (heap_alloc_old (E2_8).out _))
  have E3_9 := Lib.hid (below_new hb (heap_alloc_old (E3_8).out _))
  have E4_9 := Lib.hid (below_new hb (heap_alloc_old (E4_8).out _))
  have E5_9 := Lib.hid (below_new hb (heap_alloc_old (E5_8).out _))
  have E6_9 := Lib.hid (below_new hb (heap_alloc_old (E6_8).out _))
  have E7_9 := Lib.hid (below_new hb (heap_alloc_new w8 (.cells #[.int .i64 xn, .int .i64 xd] 23)))
  have HT9 := Lib.hid ((Tab.later HT8.out ((Below.refl _ _).alloc (Nat.le_refl _) (.cells #[.int .i64 xn, .int .i64 xd] 23))).later hb)
  have B9 := Lib.hid ((B8.out.alloc B8.out.size (.cells #[.int .i64 xn, .int .i64 xd] 23)).trans (hb.mono (Nat.le_trans B8.out.size (by simp))))
  clear hb B8 HT8 E0_8 E1_8 E2_8 E3_8 E4_8 E5_8 E6_8 l0_8 p0_8 q0_8 l1_8 p1_8 q1_8 l2_8 p2_8 q2_8 l3_8 p3_8 q3_8 l4_8 p4_8 q4_8 l5_8 p5_8 q5_8 l6_8 p6_8 q6_8
  have l0_9 := lt_of_block E0_9.out
  have p0_9 := cell_two0 E0_9.out
  have q0_9 := cell_two1 E0_9.out
  have l1_9 := lt_of_block E1_9.out
  have p1_9 := cell_two0 E1_9.out
  have q1_9 := cell_two1 E1_9.out
  have l2_9 := lt_of_block E2_9.out
  have p2_9 := cell_two0 E2_9.out
  have q2_9 := cell_two1 E2_9.out
  have l3_9 := lt_of_block E3_9.out
  have p3_9 := cell_two0 E3_9.out
  have q3_9 := cell_two1 E3_9.out
  have l4_9 := lt_of_block E4_9.out
  have p4_9 := cell_two0 E4_9.out
  have q4_9 := cell_two1 E4_9.out
  have l5_9 := lt_of_block E5_9.out
  have p5_9 := cell_two0 E5_9.out
  have q5_9 := cell_two1 E5_9.out
  have l6_9 := lt_of_block E6_9.out
  have p6_9 := cell_two0 E6_9.out
  have q6_9 := cell_two1 E6_9.out
  have l7_9 := lt_of_block E7_9.out
  have p7_9 := cell_two0 E7_9.out
  have q7_9 := cell_two1 E7_9.out
  go_wp2_with fail
  refine (K7.out _).mono ?_
  rintro e w10 ⟨rfl, hb⟩
  have E0_10 := Lib.hid (below_new hb (heap_alloc_old (E0_9).out _))
  have E1_10 := Lib.hid (below_new hb (heap_alloc_old (E1_9).out _))
  have E2_10 := Lib.hid (below_new hb (heap_alloc_old (E2_9).out _))
  have E3_10 := Lib.hid (below_new hb (heap_alloc_old (E3_9).out _))
  have E4_10 := Lib.hid (below_new hb (heap_alloc_old (E4_9).out _))
  have E5_10 := Lib.hid (below_new hb (heap_alloc_old (E5_9).out _))
  have E6_10 := Lib.hid (below_new hb (heap_alloc_old (E6_9).out _))
  have E7_10 := Lib.hid (below_new hb (heap_alloc_old (E7_9).out _))
  have E8_10 := Lib.hid (below_new hb (heap_alloc_new w9 (.cells #[.int .i64 sn, .int .i64 sd] 23)))
  have HT10 := Lib.hid ((Tab.later HT9.out ((Below.refl _ _).alloc (Nat.le_refl _) (.cells #[.int .i64 sn, .int .i64 sd] 23))).later hb)
  have B10 := Lib.hid ((B9.out.alloc B9.out.size (.cells #[.int .i64 sn, .int .i64 sd] 23)).trans (hb.mono (Nat.le_trans B9.out.size (by simp))))
  clear hb B9 HT9 E0_9 E1_9 E2_9 E3_9 E4_9 E5_9 E6_9 E7_9 l0_9 p0_9 q0_9 l1_9 p1_9 q1_9 l2_9 p2_9 q2_9 l3_9 p3_9 q3_9 l4_9 p4_9 q4_9 l5_9 p5_9 q5_9 l6_9 p6_9 q6_9 l7_9 p7_9 q7_9
  have l0_10 := lt_of_block E0_10.out
  have p0_10 := cell_two0 E0_10.out
  have q0_10 := cell_two1 E0_10.out
  have l1_10 := lt_of_block E1_10.out
  have p1_10 := cell_two0 E1_10.out
  have q1_10 := cell_two1 E1_10.out
  have l2_10 := lt_of_block E2_10.out
  have p2_10 := cell_two0 E2_10.out
  have q2_10 := cell_two1 E2_10.out
  have l3_10 := lt_of_block E3_10.out
  have p3_10 := cell_two0 E3_10.out
  have q3_10 := cell_two1 E3_10.out
  have l4_10 := lt_of_block E4_10.out
  have p4_10 := cell_two0 E4_10.out
  have q4_10 := cell_two1 E4_10.out
  have l5_10 := lt_of_block E5_10.out
  have p5_10 := cell_two0 E5_10.out
  have q5_10 := cell_two1 E5_10.out
  have l6_10 := lt_of_block E6_10.out
  have p6_10 := cell_two0 E6_10.out
  have q6_10 := cell_two1 E6_10.out
  have l7_10 := lt_of_block E7_10.out
  have p7_10 := cell_two0 E7_10.out
  have q7_10 := cell_two1 E7_10.out
  have l8_10 := lt_of_block E8_10.out
  have p8_10 := cell_two0 E8_10.out
  have q8_10 := cell_two1 E8_10.out
  go_wp2_with fail
  refine (K8.out _).mono ?_
  rintro e w11 ⟨rfl, hb⟩
  have E0_11 := Lib.hid (below_new hb (heap_alloc_old (E0_10).out _))
  have E1_11 := Lib.hid (below_new hb (heap_alloc_old (E1_10).out _))
  have E2_11 := Lib.hid (below_new hb (heap_alloc_old (E2_10).out _))
  have E3_11 := Lib.hid (below_new hb (heap_alloc_old (E3_10).out _))
  have E4_11 := Lib.hid (below_new hb (heap_alloc_old (E4_10).out _))
  have E5_11 := Lib.hid (below_new hb (heap_alloc_old (E5_10).out _))
  have E6_11 := Lib.hid (below_new hb (heap_alloc_old (E6_10).out _))
  have E7_11 := Lib.hid (below_new hb (heap_alloc_old (E7_10).out _))
  have E8_11 := Lib.hid (below_new hb (heap_alloc_old (E8_10).out _))
  have E9_11 := Lib.hid (below_new hb (heap_alloc_new w10 (.cells #[.int .i64 tn, .int .i64 td] 23)))
  have HT11 := Lib.hid ((Tab.later HT10.out ((Below.refl _ _).alloc (Nat.le_refl _) (.cells #[.int .i64 tn, .int .i64 td] 23))).later hb)
  have B11 := Lib.hid ((B10.out.alloc B10.out.size (.cells #[.int .i64 tn, .int .i64 td] 23)).trans (hb.mono (Nat.le_trans B10.out.size (by simp))))
  clear hb B10 HT10 E0_10 E1_10 E2_10 E3_10 E4_10 E5_10 E6_10 E7_10 E8_10 l0_10 p0_10 q0_10 l1_10 p1_10 q1_10 l2_10 p2_10 q2_10 l3_10 p3_10 q3_10 l4_10 p4_10 q4_10 l5_10 p5_10 q5_10 l6_10 p6_10 q6_10 l7_10 p7_10 q7_10 l8_10 p8_10 q8_10
  have l0_11 := lt_of_block E0_11.out
  have p0_11 := cell_two0 E0_11.out
  have q0_11 := cell_two1 E0_11.out
  have l1_11 := lt_of_block E1_11.out
  have p1_11 := cell_two0 E1_11.out
  have q1_11 := cell_two1 E1_11.out
  have l2_11 := lt_of_block E2_11.out
  have p2_11 := cell_two0 E2_11.out
  have q2_11 := cell_two1 E2_11.out
  have l3_11 := lt_of_block E3_11.out
  have p3_11 := cell_two0 E3_11.out
  have q3_11 := cell_two1 E3_11.out
  have l4_11 := lt_of_block E4_11.out
  have p4_11 := cell_two0 E4_11.out
  have q4_11 := cell_two1 E4_11.out
  have l5_11 := lt_of_block E5_11.out
  have p5_11 := cell_two0 E5_11.out
  have q5_11 := cell_two1 E5_11.out
  have l6_11 := lt_of_block E6_11.out
  have p6_11 := cell_two0 E6_11.out
  have q6_11 := cell_two1 E6_11.out
  have l7_11 := lt_of_block E7_11.out
  have p7_11 := cell_two0 E7_11.out
  have q7_11 := cell_two1 E7_11.out
  have l8_11 := lt_of_block E8_11.out
  have p8_11 := cell_two0 E8_11.out
  have q8_11 := cell_two1 E8_11.out
  have l9_11 := lt_of_block E9_11.out
  have p9_11 := cell_two0 E9_11.out
  have q9_11 := cell_two1 E9_11.out
  go_wp2_with fail
  go_ret
  exact ⟨rfl, (B11.out.alloc B11.out.size _)⟩

set_option maxRecDepth 100000 in
set_option maxHeartbeats 8000000 in
theorem ring_ok_j (an ad bn bd cn cd pn pd qn qd ln ld rn rd xn xd sn sd tn td yn yd ee ff gg hh ii jj kk ll : Int) (hv : vld an ad = true ∧ vld bn bd = true ∧ vld cn cd = true) (njj : (jj == 0) = false)
    (h1 : (∀ w, Calls Tryd.prog 18 #[.agg #[.int .i64 an, .int .i64 ad], .agg #[.int .i64 bn, .int .i64 bd]] w fun e w' => e = .returned (.tuple #[.agg #[.int .i64 pn, .int .i64 pd], .int .i64 0]) ∧ Below w.heap.size w w'))
    (h2 : (∀ w, Calls Tryd.prog 18 #[.agg #[.int .i64 bn, .int .i64 bd], .agg #[.int .i64 cn, .int .i64 cd]] w fun e w' => e = .returned (.tuple #[.agg #[.int .i64 qn, .int .i64 qd], .int .i64 0]) ∧ Below w.heap.size w w'))
    (h3 : (∀ w, Calls Tryd.prog 18 #[.agg #[.int .i64 pn, .int .i64 pd], .agg #[.int .i64 cn, .int .i64 cd]] w fun e w' => e = .returned (.tuple #[.agg #[.int .i64 ln, .int .i64 ld], .int .i64 0]) ∧ Below w.heap.size w w'))
    (h4 : (∀ w, Calls Tryd.prog 18 #[.agg #[.int .i64 an, .int .i64 ad], .agg #[.int .i64 qn, .int .i64 qd]] w fun e w' => e = .returned (.tuple #[.agg #[.int .i64 ln, .int .i64 ld], .int .i64 0]) ∧ Below w.heap.size w w'))
    (h5 : (∀ w, Calls Tryd.prog 23 #[.agg #[.int .i64 pn, .int .i64 pd], .agg #[.int .i64 cn, .int .i64 cd]] w fun e w' => e = .returned (.tuple #[.agg #[.int .i64 xn, .int .i64 xd], .int .i64 0]) ∧ Below w.heap.size w w'))
    (h6 : (∀ w, Calls Tryd.prog 23 #[.agg #[.int .i64 an, .int .i64 ad], .agg #[.int .i64 cn, .int .i64 cd]] w fun e w' => e = .returned (.tuple #[.agg #[.int .i64 sn, .int .i64 sd], .int .i64 jj]) ∧ Below w.heap.size w w'))
    (h7 : (∀ w, Calls Tryd.prog 23 #[.agg #[.int .i64 bn, .int .i64 bd], .agg #[.int .i64 cn, .int .i64 cd]] w fun e w' => e = .returned (.tuple #[.agg #[.int .i64 tn, .int .i64 td], .int .i64 kk]) ∧ Below w.heap.size w w'))
    (h8 : (∀ w, Calls Tryd.prog 18 #[.agg #[.int .i64 sn, .int .i64 sd], .agg #[.int .i64 tn, .int .i64 td]] w fun e w' => e = .returned (.tuple #[.agg #[.int .i64 yn, .int .i64 yd], .int .i64 ll]) ∧ Below w.heap.size w w')) (w : World) (ht : Tab w) :
    Calls Tryd.prog 6 #[.agg #[.int .i64 an, .int .i64 ad], .agg #[.int .i64 bn, .int .i64 bd], .agg #[.int .i64 cn, .int .i64 cd]] w fun e w' => e = .returned (.bool true) ∧ Below w.heap.size w w' := by
  have K1 := Lib.hid h1
  have K2 := Lib.hid h2
  have K3 := Lib.hid h3
  have K4 := Lib.hid h4
  have K5 := Lib.hid h5
  have K6 := Lib.hid h6
  have K7 := Lib.hid h7
  have K8 := Lib.hid h8
  have mjj : (jj != 0) = true := by rw [bne_iff_ne]; exact beq_eq_false_iff_ne.1 njj
  have F := Lib.hid hv
  clear hv h1 h2 h3 h4 h5 h6 h7 h8
  have HT := Lib.hid ht
  clear ht
  go_enter Tryd.func6, Tryd.ntmps6
  go_wp2_with fail
  obtain ⟨w0, hw0⟩ : ∃ w0, w0 = (((w.alloc (.cells #[.int .i64 an, .int .i64 ad] 23)).alloc (.cells #[.int .i64 bn, .int .i64 bd] 23)).alloc (.cells #[.int .i64 cn, .int .i64 cd] 23)) := ⟨_, rfl⟩
  have E0_0 : Hid (w0.heap[w.heap.size]? = some (.cells #[.int .i64 an, .int .i64 ad] 23 (0, 0))) := by
    show _ = _
    rw [hw0]
    refine heap_alloc_old ?_ _
    refine heap_alloc_old ?_ _
    have := heap_alloc_new w (.cells #[.int .i64 an, .int .i64 ad] 23)
    simpa using this
  have E1_0 : Hid (w0.heap[w.heap.size + 1]? = some (.cells #[.int .i64 bn, .int .i64 bd] 23 (0, 0))) := by
    show _ = _
    rw [hw0]
    refine heap_alloc_old ?_ _
    have := heap_alloc_new (w.alloc (.cells #[.int .i64 an, .int .i64 ad] 23)) (.cells #[.int .i64 bn, .int .i64 bd] 23)
    simpa using this
  have E2_0 : Hid (w0.heap[w.heap.size + 1 + 1]? = some (.cells #[.int .i64 cn, .int .i64 cd] 23 (0, 0))) := by
    show _ = _
    rw [hw0]
    have := heap_alloc_new ((w.alloc (.cells #[.int .i64 an, .int .i64 ad] 23)).alloc (.cells #[.int .i64 bn, .int .i64 bd] 23)) (.cells #[.int .i64 cn, .int .i64 cd] 23)
    simpa using this
  have B0 : Hid (Below w.heap.size w w0) := by
    show Below _ _ _
    rw [hw0]
    exact ((((Below.refl _ _).alloc (Nat.le_refl _) _).alloc (by simp <;> omega) _).alloc (by simp <;> omega) _)
  have HT0 := Lib.hid (Tab.later HT.out (B0.out.mono (Nat.le_refl _)))
  rw [← hw0]
  clear hw0 HT
  refine (alive_any _ (by exact HT0.out)).mono ?_
  rintro e w1 ⟨rfl, hb⟩
  have E0_1 := Lib.hid (below_new hb (E0_0).out)
  have E1_1 := Lib.hid (below_new hb (E1_0).out)
  have E2_1 := Lib.hid (below_new hb (E2_0).out)
  have HT1 := Lib.hid (Tab.later HT0.out hb)
  have B1 := Lib.hid (B0.out.trans (hb.mono B0.out.size))
  clear hb B0 HT0 E0_0 E1_0 E2_0 
  have l0_1 := lt_of_block E0_1.out
  have p0_1 := cell_two0 E0_1.out
  have q0_1 := cell_two1 E0_1.out
  have l1_1 := lt_of_block E1_1.out
  have p1_1 := cell_two0 E1_1.out
  have q1_1 := cell_two1 E1_1.out
  have l2_1 := lt_of_block E2_1.out
  have p2_1 := cell_two0 E2_1.out
  have q2_1 := cell_two1 E2_1.out
  go_wp2_with fail
  refine (fit_yes F.out.1 F.out.2.1 _).mono ?_
  rintro e w2 ⟨rfl, hb⟩
  have E0_2 := Lib.hid (below_new hb (E0_1).out)
  have E1_2 := Lib.hid (below_new hb (E1_1).out)
  have E2_2 := Lib.hid (below_new hb (E2_1).out)
  have HT2 := Lib.hid (Tab.later HT1.out hb)
  have B2 := Lib.hid (B1.out.trans (hb.mono B1.out.size))
  clear hb B1 HT1 E0_1 E1_1 E2_1 l0_1 p0_1 q0_1 l1_1 p1_1 q1_1 l2_1 p2_1 q2_1
  have l0_2 := lt_of_block E0_2.out
  have p0_2 := cell_two0 E0_2.out
  have q0_2 := cell_two1 E0_2.out
  have l1_2 := lt_of_block E1_2.out
  have p1_2 := cell_two0 E1_2.out
  have q1_2 := cell_two1 E1_2.out
  have l2_2 := lt_of_block E2_2.out
  have p2_2 := cell_two0 E2_2.out
  have q2_2 := cell_two1 E2_2.out
  go_wp2_with fail
  refine (fit_yes F.out.2.2 F.out.2.2 _).mono ?_
  rintro e w3 ⟨rfl, hb⟩
  have E0_3 := Lib.hid (below_new hb (E0_2).out)
  have E1_3 := Lib.hid (below_new hb (E1_2).out)
  have E2_3 := Lib.hid (below_new hb (E2_2).out)
  have HT3 := Lib.hid (Tab.later HT2.out hb)
  have B3 := Lib.hid (B2.out.trans (hb.mono B2.out.size))
  clear hb B2 HT2 E0_2 E1_2 E2_2 l0_2 p0_2 q0_2 l1_2 p1_2 q1_2 l2_2 p2_2 q2_2
  have l0_3 := lt_of_block E0_3.out
  have p0_3 := cell_two0 E0_3.out
  have q0_3 := cell_two1 E0_3.out
  have l1_3 := lt_of_block E1_3.out
  have p1_3 := cell_two0 E1_3.out
  have q1_3 := cell_two1 E1_3.out
  have l2_3 := lt_of_block E2_3.out
  have p2_3 := cell_two0 E2_3.out
  have q2_3 := cell_two1 E2_3.out
  go_wp2_with fail
  refine (K1.out _).mono ?_
  rintro e w4 ⟨rfl, hb⟩
  have E0_4 := Lib.hid (below_new hb (E0_3).out)
  have E1_4 := Lib.hid (below_new hb (E1_3).out)
  have E2_4 := Lib.hid (below_new hb (E2_3).out)
  have HT4 := Lib.hid (Tab.later HT3.out hb)
  have B4 := Lib.hid (B3.out.trans (hb.mono B3.out.size))
  clear hb B3 HT3 E0_3 E1_3 E2_3 l0_3 p0_3 q0_3 l1_3 p1_3 q1_3 l2_3 p2_3 q2_3
  have l0_4 := lt_of_block E0_4.out
  have p0_4 := cell_two0 E0_4.out
  have q0_4 := cell_two1 E0_4.out
  have l1_4 := lt_of_block E1_4.out
  have p1_4 := cell_two0 E1_4.out
  have q1_4 := cell_two1 E1_4.out
  have l2_4 := lt_of_block E2_4.out
  have p2_4 := cell_two0 E2_4.out
  have q2_4 := cell_two1 E2_4.out
  go_wp2_with fail
  refine (K2.out _).mono ?_
  rintro e w5 ⟨rfl, hb⟩
  have E0_5 := Lib.hid (below_new hb (heap_alloc_old (E0_4).out _))
  have E1_5 := Lib.hid (below_new hb (heap_alloc_old (E1_4).out _))
  have E2_5 := Lib.hid (below_new hb (heap_alloc_old (E2_4).out _))
  have E3_5 := Lib.hid (below_new hb (heap_alloc_new w4 (.cells #[.int .i64 pn, .int .i64 pd] 23)))
  have HT5 := Lib.hid ((Tab.later HT4.out ((Below.refl _ _).alloc (Nat.le_refl _) (.cells #[.int .i64 pn, .int .i64 pd] 23))).later hb)
  have B5 := Lib.hid ((B4.out.alloc B4.out.size (.cells #[.int .i64 pn, .int .i64 pd] 23)).trans (hb.mono (Nat.le_trans B4.out.size (by simp))))
  clear hb B4 HT4 E0_4 E1_4 E2_4 l0_4 p0_4 q0_4 l1_4 p1_4 q1_4 l2_4 p2_4 q2_4
  have l0_5 := lt_of_block E0_5.out
  have p0_5 := cell_two0 E0_5.out
  have q0_5 := cell_two1 E0_5.out
  have l1_5 := lt_of_block E1_5.out
  have p1_5 := cell_two0 E1_5.out
  have q1_5 := cell_two1 E1_5.out
  have l2_5 := lt_of_block E2_5.out
  have p2_5 := cell_two0 E2_5.out
  have q2_5 := cell_two1 E2_5.out
  have l3_5 := lt_of_block E3_5.out
  have p3_5 := cell_two0 E3_5.out
  have q3_5 := cell_two1 E3_5.out
  go_wp2_with fail
  refine (K3.out _).mono ?_
  rintro e w6 ⟨rfl, hb⟩
  have E0_6 := Lib.hid (below_new hb (heap_alloc_old (E0_5).out _))
  have E1_6 := Lib.hid (below_new hb (heap_alloc_old (E1_5).out _))
  have E2_6 := Lib.hid (below_new hb (heap_alloc_old (E2_5).out _))
  have E3_6 := Lib.hid (below_new hb (heap_alloc_old (E3_5).out _))
  have E4_6 := Lib.hid (below_new hb (heap_alloc_new w5 (.cells #[.int .i64 qn, .int .i64 qd] 23)))
  have HT6 := Lib.hid ((Tab.later HT5.out ((Below.refl _ _).alloc (Nat.le_refl _) (.cells #[.int .i64 qn, .int .i64 qd] 23))).later hb)
  have B6 := Lib.hid ((B5.out.alloc B5.out.size (.cells #[.int .i64 qn, .int .i64 qd] 23)).trans (hb.mono (Nat.le_trans B5.out.size (by simp))))
  clear hb B5 HT5 E0_5 E1_5 E2_5 E3_5 l0_5 p0_5 q0_5 l1_5 p1_5 q1_5 l2_5 p2_5 q2_5 l3_5 p3_5 q3_5
  have l0_6 := lt_of_block E0_6.out
  have p0_6 := cell_two0 E0_6.out
  have q0_6 := cell_two1 E0_6.out
  have l1_6 := lt_of_block E1_6.out
  have p1_6 := cell_two0 E1_6.out
  have q1_6 := cell_two1 E1_6.out
  have l2_6 := lt_of_block E2_6.out
  have p2_6 := cell_two0 E2_6.out
  have q2_6 := cell_two1 E2_6.out
  have l3_6 := lt_of_block E3_6.out
  have p3_6 := cell_two0 E3_6.out
  have q3_6 := cell_two1 E3_6.out
  have l4_6 := lt_of_block E4_6.out
  have p4_6 := cell_two0 E4_6.out
  have q4_6 := cell_two1 E4_6.out
  go_wp2_with fail
  refine (K4.out _).mono ?_
  rintro e w7 ⟨rfl, hb⟩
  have E0_7 := Lib.hid (below_new hb (heap_alloc_old (E0_6).out _))
  have E1_7 := Lib.hid (below_new hb (heap_alloc_old (E1_6).out _))
  have E2_7 := Lib.hid (below_new hb (heap_alloc_old (E2_6).out _))
  have E3_7 := Lib.hid (below_new hb (heap_alloc_old (E3_6).out _))
  have E4_7 := Lib.hid (below_new hb (heap_alloc_old (E4_6).out _))
  have E5_7 := Lib.hid (below_new hb (heap_alloc_new w6 (.cells #[.int .i64 ln, .int .i64 ld] 23)))
  have HT7 := Lib.hid ((Tab.later HT6.out ((Below.refl _ _).alloc (Nat.le_refl _) (.cells #[.int .i64 ln, .int .i64 ld] 23))).later hb)
  have B7 := Lib.hid ((B6.out.alloc B6.out.size (.cells #[.int .i64 ln, .int .i64 ld] 23)).trans (hb.mono (Nat.le_trans B6.out.size (by simp))))
  clear hb B6 HT6 E0_6 E1_6 E2_6 E3_6 E4_6 l0_6 p0_6 q0_6 l1_6 p1_6 q1_6 l2_6 p2_6 q2_6 l3_6 p3_6 q3_6 l4_6 p4_6 q4_6
  have l0_7 := lt_of_block E0_7.out
  have p0_7 := cell_two0 E0_7.out
  have q0_7 := cell_two1 E0_7.out
  have l1_7 := lt_of_block E1_7.out
  have p1_7 := cell_two0 E1_7.out
  have q1_7 := cell_two1 E1_7.out
  have l2_7 := lt_of_block E2_7.out
  have p2_7 := cell_two0 E2_7.out
  have q2_7 := cell_two1 E2_7.out
  have l3_7 := lt_of_block E3_7.out
  have p3_7 := cell_two0 E3_7.out
  have q3_7 := cell_two1 E3_7.out
  have l4_7 := lt_of_block E4_7.out
  have p4_7 := cell_two0 E4_7.out
  have q4_7 := cell_two1 E4_7.out
  have l5_7 := lt_of_block E5_7.out
  have p5_7 := cell_two0 E5_7.out
  have q5_7 := cell_two1 E5_7.out
  go_wp2_with fail
  refine (K5.out _).mono ?_
  rintro e w8 ⟨rfl, hb⟩
  have E0_8 := Lib.hid (below_new hb (heap_alloc_old (E0_7).out _))
  have E1_8 := Lib.hid (below_new hb (heap_alloc_old (E1_7).out _))
  have E2_8 := Lib.hid (below_new hb (heap_alloc_old (E2_7).out _))
  have E3_8 := Lib.hid (below_new hb (heap_alloc_old (E3_7).out _))
  have E4_8 := Lib.hid (below_new hb (heap_alloc_old (E4_7).out _))
  have E5_8 := Lib.hid (below_new hb (heap_alloc_old (E5_7).out _))
  have E6_8 := Lib.hid (below_new hb (heap_alloc_new w7 (.cells #[.int .i64 ln, .int .i64 ld] 23)))
  have HT8 := Lib.hid ((Tab.later HT7.out ((Below.refl _ _).alloc (Nat.le_refl _) (.cells #[.int .i64 ln, .int .i64 ld] 23))).later hb)
  have B8 := Lib.hid ((B7.out.alloc B7.out.size (.cells #[.int .i64 ln, .int .i64 ld] 23)).trans (hb.mono (Nat.le_trans B7.out.size (by simp))))
  clear hb B7 HT7 E0_7 E1_7 E2_7 E3_7 E4_7 E5_7 l0_7 p0_7 q0_7 l1_7 p1_7 q1_7 l2_7 p2_7 q2_7 l3_7 p3_7 q3_7 l4_7 p4_7 q4_7 l5_7 p5_7 q5_7
  have l0_8 := lt_of_block E0_8.out
  have p0_8 := cell_two0 E0_8.out
  have q0_8 := cell_two1 E0_8.out
  have l1_8 := lt_of_block E1_8.out
  have p1_8 := cell_two0 E1_8.out
  have q1_8 := cell_two1 E1_8.out
  have l2_8 := lt_of_block E2_8.out
  have p2_8 := cell_two0 E2_8.out
  have q2_8 := cell_two1 E2_8.out
  have l3_8 := lt_of_block E3_8.out
  have p3_8 := cell_two0 E3_8.out
  have q3_8 := cell_two1 E3_8.out
  have l4_8 := lt_of_block E4_8.out
  have p4_8 := cell_two0 E4_8.out
  have q4_8 := cell_two1 E4_8.out
  have l5_8 := lt_of_block E5_8.out
  have p5_8 := cell_two0 E5_8.out
  have q5_8 := cell_two1 E5_8.out
  have l6_8 := lt_of_block E6_8.out
  have p6_8 := cell_two0 E6_8.out
  have q6_8 := cell_two1 E6_8.out
  go_wp2_with fail
  refine (K6.out _).mono ?_
  rintro e w9 ⟨rfl, hb⟩
  have E0_9 := Lib.hid (below_new hb (heap_alloc_old (E0_8).out _))
  have E1_9 := Lib.hid (below_new hb (heap_alloc_old (E1_8).out _))
  have E2_9 := Lib.hid (below_new hb (heap_alloc_old (E2_8).out _))
  have E3_9 := Lib.hid (below_new hb (heap_alloc_old (E3_8).out _))
  have E4_9 := Lib.hid (below_new hb (heap_alloc_old (E4_8).out _))
  have E5_9 := Lib.hid (below_new hb (heap_alloc_old (E5_8).out _))
  have E6_9 := Lib.hid (below_new hb (heap_alloc_old (E6_8).out _))
  have E7_9 := Lib.hid (below_new hb (heap_alloc_new w8 (.cells #[.int .i64 xn, .int .i64 xd] 23)))
  have HT9 := Lib.hid ((Tab.later HT8.out ((Below.refl _ _).alloc (Nat.le_refl _) (.cells #[.int .i64 xn, .int .i64 xd] 23))).later hb)
  have B9 := Lib.hid ((B8.out.alloc B8.out.size (.cells #[.int .i64 xn, .int .i64 xd] 23)).trans (hb.mono (Nat.le_trans B8.out.size (by simp))))
  clear hb B8 HT8 E0_8 E1_8 E2_8 E3_8 E4_8 E5_8 E6_8 l0_8 p0_8 q0_8 l1_8 p1_8 q1_8 l2_8 p2_8 q2_8 l3_8 p3_8 q3_8 l4_8 p4_8 q4_8 l5_8 p5_8 q5_8 l6_8 p6_8 q6_8
  have l0_9 := lt_of_block E0_9.out
  have p0_9 := cell_two0 E0_9.out
  have q0_9 := cell_two1 E0_9.out
  have l1_9 := lt_of_block E1_9.out
  have p1_9 := cell_two0 E1_9.out
  have q1_9 := cell_two1 E1_9.out
  have l2_9 := lt_of_block E2_9.out
  have p2_9 := cell_two0 E2_9.out
  have q2_9 := cell_two1 E2_9.out
  have l3_9 := lt_of_block E3_9.out
  have p3_9 := cell_two0 E3_9.out
  have q3_9 := cell_two1 E3_9.out
  have l4_9 := lt_of_block E4_9.out
  have p4_9 := cell_two0 E4_9.out
  have q4_9 := cell_two1 E4_9.out
  have l5_9 := lt_of_block E5_9.out
  have p5_9 := cell_two0 E5_9.out
  have q5_9 := cell_two1 E5_9.out
  have l6_9 := lt_of_block E6_9.out
  have p6_9 := cell_two0 E6_9.out
  have q6_9 := cell_two1 E6_9.out
  have l7_9 := lt_of_block E7_9.out
  have p7_9 := cell_two0 E7_9.out
  have q7_9 := cell_two1 E7_9.out
  go_wp2_with fail
  refine (K7.out _).mono ?_
  rintro e w10 ⟨rfl, hb⟩
  have E0_10 := Lib.hid (below_new hb (heap_alloc_old (E0_9).out _))
  have E1_10 := Lib.hid (below_new hb (heap_alloc_old (E1_9).out _))
  have E2_10 := Lib.hid (below_new hb (heap_alloc_old (E2_9).out _))
  have E3_10 := Lib.hid (below_new hb (heap_alloc_old (E3_9).out _))
  have E4_10 := Lib.hid (below_new hb (heap_alloc_old (E4_9).out _))
  have E5_10 := Lib.hid (below_new hb (heap_alloc_old (E5_9).out _))
  have E6_10 := Lib.hid (below_new hb (heap_alloc_old (E6_9).out _))
  have E7_10 := Lib.hid (below_new hb (heap_alloc_old (E7_9).out _))
  have E8_10 := Lib.hid (below_new hb (heap_alloc_new w9 (.cells #[.int .i64 sn, .int .i64 sd] 23)))
  have HT10 := Lib.hid ((Tab.later HT9.out ((Below.refl _ _).alloc (Nat.le_refl _) (.cells #[.int .i64 sn, .int .i64 sd] 23))).later hb)
  have B10 := Lib.hid ((B9.out.alloc B9.out.size (.cells #[.int .i64 sn, .int .i64 sd] 23)).trans (hb.mono (Nat.le_trans B9.out.size (by simp))))
  clear hb B9 HT9 E0_9 E1_9 E2_9 E3_9 E4_9 E5_9 E6_9 E7_9 l0_9 p0_9 q0_9 l1_9 p1_9 q1_9 l2_9 p2_9 q2_9 l3_9 p3_9 q3_9 l4_9 p4_9 q4_9 l5_9 p5_9 q5_9 l6_9 p6_9 q6_9 l7_9 p7_9 q7_9
  have l0_10 := lt_of_block E0_10.out
  have p0_10 := cell_two0 E0_10.out
  have q0_10 := cell_two1 E0_10.out
  have l1_10 := lt_of_block E1_10.out
  have p1_10 := cell_two0 E1_10.out
  have q1_10 := cell_two1 E1_10.out
  have l2_10 := lt_of_block E2_10.out
  have p2_10 := cell_two0 E2_10.out
  have q2_10 := cell_two1 E2_10.out
  have l3_10 := lt_of_block E3_10.out
  have p3_10 := cell_two0 E3_10.out
  have q3_10 := cell_two1 E3_10.out
  have l4_10 := lt_of_block E4_10.out
  have p4_10 := cell_two0 E4_10.out
  have q4_10 := cell_two1 E4_10.out
  have l5_10 := lt_of_block E5_10.out
  have p5_10 := cell_two0 E5_10.out
  have q5_10 := cell_two1 E5_10.out
  have l6_10 := lt_of_block E6_10.out
  have p6_10 := cell_two0 E6_10.out
  have q6_10 := cell_two1 E6_10.out
  have l7_10 := lt_of_block E7_10.out
  have p7_10 := cell_two0 E7_10.out
  have q7_10 := cell_two1 E7_10.out
  have l8_10 := lt_of_block E8_10.out
  have p8_10 := cell_two0 E8_10.out
  have q8_10 := cell_two1 E8_10.out
  go_wp2_with fail
  refine (K8.out _).mono ?_
  rintro e w11 ⟨rfl, hb⟩
  have E0_11 := Lib.hid (below_new hb (heap_alloc_old (E0_10).out _))
  have E1_11 := Lib.hid (below_new hb (heap_alloc_old (E1_10).out _))
  have E2_11 := Lib.hid (below_new hb (heap_alloc_old (E2_10).out _))
  have E3_11 := Lib.hid (below_new hb (heap_alloc_old (E3_10).out _))
  have E4_11 := Lib.hid (below_new hb (heap_alloc_old (E4_10).out _))
  have E5_11 := Lib.hid (below_new hb (heap_alloc_old (E5_10).out _))
  have E6_11 := Lib.hid (below_new hb (heap_alloc_old (E6_10).out _))
  have E7_11 := Lib.hid (below_new hb (heap_alloc_old (E7_10).out _))
  have E8_11 := Lib.hid (below_new hb (heap_alloc_old (E8_10).out _))
  have E9_11 := Lib.hid (below_new hb (heap_alloc_new w10 (.cells #[.int .i64 tn, .int .i64 td] 23)))
  have HT11 := Lib.hid ((Tab.later HT10.out ((Below.refl _ _).alloc (Nat.le_refl _) (.cells #[.int .i64 tn, .int .i64 td] 23))).later hb)
  have B11 := Lib.hid ((B10.out.alloc B10.out.size (.cells #[.int .i64 tn, .int .i64 td] 23)).trans (hb.mono (Nat.le_trans B10.out.size (by simp))))
  clear hb B10 HT10 E0_10 E1_10 E2_10 E3_10 E4_10 E5_10 E6_10 E7_10 E8_10 l0_10 p0_10 q0_10 l1_10 p1_10 q1_10 l2_10 p2_10 q2_10 l3_10 p3_10 q3_10 l4_10 p4_10 q4_10 l5_10 p5_10 q5_10 l6_10 p6_10 q6_10 l7_10 p7_10 q7_10 l8_10 p8_10 q8_10
  have l0_11 := lt_of_block E0_11.out
  have p0_11 := cell_two0 E0_11.out
  have q0_11 := cell_two1 E0_11.out
  have l1_11 := lt_of_block E1_11.out
  have p1_11 := cell_two0 E1_11.out
  have q1_11 := cell_two1 E1_11.out
  have l2_11 := lt_of_block E2_11.out
  have p2_11 := cell_two0 E2_11.out
  have q2_11 := cell_two1 E2_11.out
  have l3_11 := lt_of_block E3_11.out
  have p3_11 := cell_two0 E3_11.out
  have q3_11 := cell_two1 E3_11.out
  have l4_11 := lt_of_block E4_11.out
  have p4_11 := cell_two0 E4_11.out
  have q4_11 := cell_two1 E4_11.out
  have l5_11 := lt_of_block E5_11.out
  have p5_11 := cell_two0 E5_11.out
  have q5_11 := cell_two1 E5_11.out
  have l6_11 := lt_of_block E6_11.out
  have p6_11 := cell_two0 E6_11.out
  have q6_11 := cell_two1 E6_11.out
  have l7_11 := lt_of_block E7_11.out
  have p7_11 := cell_two0 E7_11.out
  have q7_11 := cell_two1 E7_11.out
  have l8_11 := lt_of_block E8_11.out
  have p8_11 := cell_two0 E8_11.out
  have q8_11 := cell_two1 E8_11.out
  have l9_11 := lt_of_block E9_11.out
  have p9_11 := cell_two0 E9_11.out
  have q9_11 := cell_two1 E9_11.out
  go_wp2_with fail
  go_ret
  exact ⟨rfl, (B11.out.alloc B11.out.size _)⟩

set_option maxRecDepth 100000 in
set_option maxHeartbeats 8000000 in
theorem ring_ok_k (an ad bn bd cn cd pn pd qn qd ln ld rn rd xn xd sn sd tn td yn yd ee ff gg hh ii jj kk ll : Int) (hv : vld an ad = true ∧ vld bn bd = true ∧ vld cn cd = true) (nkk : (kk == 0) = false)
    (h1 : (∀ w, Calls Tryd.prog 18 #[.agg #[.int .i64 an, .int .i64 ad], .agg #[.int .i64 bn, .int .i64 bd]] w fun e w' => e = .returned (.tuple #[.agg #[.int .i64 pn, .int .i64 pd], .int .i64 0]) ∧ Below w.heap.size w w'))
    (h2 : (∀ w, Calls Tryd.prog 18 #[.agg #[.int .i64 bn, .int .i64 bd], .agg #[.int .i64 cn, .int .i64 cd]] w fun e w' => e = .returned (.tuple #[.agg #[.int .i64 qn, .int .i64 qd], .int .i64 0]) ∧ Below w.heap.size w w'))
    (h3 : (∀ w, Calls Tryd.prog 18 #[.agg #[.int .i64 pn, .int .i64 pd], .agg #[.int .i64 cn, .int .i64 cd]] w fun e w' => e = .returned (.tuple #[.agg #[.int .i64 ln, .int .i64 ld], .int .i64 0]) ∧ Below w.heap.size w w'))
    (h4 : (∀ w, Calls Tryd.prog 18 #[.agg #[.int .i64 an, .int .i64 ad], .agg #[.int .i64 qn, .int .i64 qd]] w fun e w' => e = .returned (.tuple #[.agg #[.int .i64 ln, .int .i64 ld], .int .i64 0]) ∧ Below w.heap.size w w'))
    (h5 : (∀ w, Calls Tryd.prog 23 #[.agg #[.int .i64 pn, .int .i64 pd], .agg #[.int .i64 cn, .int .i64 cd]] w fun e w' => e = .returned (.tuple #[.agg #[.int .i64 xn, .int .i64 xd], .int .i64 0]) ∧ Below w.heap.size w w'))
    (h6 : (∀ w, Calls Tryd.prog 23 #[.agg #[.int .i64 an, .int .i64 ad], .agg #[.int .i64 cn, .int .i64 cd]] w fun e w' => e = .returned (.tuple #[.agg #[.int .i64 sn, .int .i64 sd], .int .i64 0]) ∧ Below w.heap.size w w'))
    (h7 : (∀ w, Calls Tryd.prog 23 #[.agg #[.int .i64 bn, .int .i64 bd], .agg #[.int .i64 cn, .int .i64 cd]] w fun e w' => e = .returned (.tuple #[.agg #[.int .i64 tn, .int .i64 td], .int .i64 kk]) ∧ Below w.heap.size w w'))
    (h8 : (∀ w, Calls Tryd.prog 18 #[.agg #[.int .i64 sn, .int .i64 sd], .agg #[.int .i64 tn, .int .i64 td]] w fun e w' => e = .returned (.tuple #[.agg #[.int .i64 yn, .int .i64 yd], .int .i64 ll]) ∧ Below w.heap.size w w')) (w : World) (ht : Tab w) :
    Calls Tryd.prog 6 #[.agg #[.int .i64 an, .int .i64 ad], .agg #[.int .i64 bn, .int .i64 bd], .agg #[.int .i64 cn, .int .i64 cd]] w fun e w' => e = .returned (.bool true) ∧ Below w.heap.size w w' := by
  have K1 := Lib.hid h1
  have K2 := Lib.hid h2
  have K3 := Lib.hid h3
  have K4 := Lib.hid h4
  have K5 := Lib.hid h5
  have K6 := Lib.hid h6
  have K7 := Lib.hid h7
  have K8 := Lib.hid h8
  have mkk : (kk != 0) = true := by rw [bne_iff_ne]; exact beq_eq_false_iff_ne.1 nkk
  have F := Lib.hid hv
  clear hv h1 h2 h3 h4 h5 h6 h7 h8
  have HT := Lib.hid ht
  clear ht
  go_enter Tryd.func6, Tryd.ntmps6
  go_wp2_with fail
  obtain ⟨w0, hw0⟩ : ∃ w0, w0 = (((w.alloc (.cells #[.int .i64 an, .int .i64 ad] 23)).alloc (.cells #[.int .i64 bn, .int .i64 bd] 23)).alloc (.cells #[.int .i64 cn, .int .i64 cd] 23)) := ⟨_, rfl⟩
  have E0_0 : Hid (w0.heap[w.heap.size]? = some (.cells #[.int .i64 an, .int .i64 ad] 23 (0, 0))) := by
    show _ = _
    rw [hw0]
    refine heap_alloc_old ?_ _
    refine heap_alloc_old ?_ _
    have := heap_alloc_new w (.cells #[.int .i64 an, .int .i64 ad] 23)
    simpa using this
  have E1_0 : Hid (w0.heap[w.heap.size + 1]? = some (.cells #[.int .i64 bn, .int .i64 bd] 23 (0, 0))) := by
    show _ = _
    rw [hw0]
    refine heap_alloc_old ?_ _
    have := heap_alloc_new (w.alloc (.cells #[.int .i64 an, .int .i64 ad] 23)) (.cells #[.int .i64 bn, .int .i64 bd] 23)
    simpa using this
  have E2_0 : Hid (w0.heap[w.heap.size + 1 + 1]? = some (.cells #[.int .i64 cn, .int .i64 cd] 23 (0, 0))) := by
    show _ = _
    rw [hw0]
    have := heap_alloc_new ((w.alloc (.cells #[.int .i64 an, .int .i64 ad] 23)).alloc (.cells #[.int .i64 bn, .int .i64 bd] 23)) (.cells #[.int .i64 cn, .int .i64 cd] 23)
    simpa using this
  have B0 : Hid (Below w.heap.size w w0) := by
    show Below _ _ _
    rw [hw0]
    exact ((((Below.refl _ _).alloc (Nat.le_refl _) _).alloc (by simp <;> omega) _).alloc (by simp <;> omega) _)
  have HT0 := Lib.hid (Tab.later HT.out (B0.out.mono (Nat.le_refl _)))
  rw [← hw0]
  clear hw0 HT
  refine (alive_any _ (by exact HT0.out)).mono ?_
  rintro e w1 ⟨rfl, hb⟩
  have E0_1 := Lib.hid (below_new hb (E0_0).out)
  have E1_1 := Lib.hid (below_new hb (E1_0).out)
  have E2_1 := Lib.hid (below_new hb (E2_0).out)
  have HT1 := Lib.hid (Tab.later HT0.out hb)
  have B1 := Lib.hid (B0.out.trans (hb.mono B0.out.size))
  clear hb B0 HT0 E0_0 E1_0 E2_0 
  have l0_1 := lt_of_block E0_1.out
  have p0_1 := cell_two0 E0_1.out
  have q0_1 := cell_two1 E0_1.out
  have l1_1 := lt_of_block E1_1.out
  have p1_1 := cell_two0 E1_1.out
  have q1_1 := cell_two1 E1_1.out
  have l2_1 := lt_of_block E2_1.out
  have p2_1 := cell_two0 E2_1.out
  have q2_1 := cell_two1 E2_1.out
  go_wp2_with fail
  refine (fit_yes F.out.1 F.out.2.1 _).mono ?_
  rintro e w2 ⟨rfl, hb⟩
  have E0_2 := Lib.hid (below_new hb (E0_1).out)
  have E1_2 := Lib.hid (below_new hb (E1_1).out)
  have E2_2 := Lib.hid (below_new hb (E2_1).out)
  have HT2 := Lib.hid (Tab.later HT1.out hb)
  have B2 := Lib.hid (B1.out.trans (hb.mono B1.out.size))
  clear hb B1 HT1 E0_1 E1_1 E2_1 l0_1 p0_1 q0_1 l1_1 p1_1 q1_1 l2_1 p2_1 q2_1
  have l0_2 := lt_of_block E0_2.out
  have p0_2 := cell_two0 E0_2.out
  have q0_2 := cell_two1 E0_2.out
  have l1_2 := lt_of_block E1_2.out
  have p1_2 := cell_two0 E1_2.out
  have q1_2 := cell_two1 E1_2.out
  have l2_2 := lt_of_block E2_2.out
  have p2_2 := cell_two0 E2_2.out
  have q2_2 := cell_two1 E2_2.out
  go_wp2_with fail
  refine (fit_yes F.out.2.2 F.out.2.2 _).mono ?_
  rintro e w3 ⟨rfl, hb⟩
  have E0_3 := Lib.hid (below_new hb (E0_2).out)
  have E1_3 := Lib.hid (below_new hb (E1_2).out)
  have E2_3 := Lib.hid (below_new hb (E2_2).out)
  have HT3 := Lib.hid (Tab.later HT2.out hb)
  have B3 := Lib.hid (B2.out.trans (hb.mono B2.out.size))
  clear hb B2 HT2 E0_2 E1_2 E2_2 l0_2 p0_2 q0_2 l1_2 p1_2 q1_2 l2_2 p2_2 q2_2
  have l0_3 := lt_of_block E0_3.out
  have p0_3 := cell_two0 E0_3.out
  have q0_3 := cell_two1 E0_3.out
  have l1_3 := lt_of_block E1_3.out
  have p1_3 := cell_two0 E1_3.out
  have q1_3 := cell_two1 E1_3.out
  have l2_3 := lt_of_block E2_3.out
  have p2_3 := cell_two0 E2_3.out
  have q2_3 := cell_two1 E2_3.out
  go_wp2_with fail
  refine (K1.out _).mono ?_
  rintro e w4 ⟨rfl, hb⟩
  have E0_4 := Lib.hid (below_new hb (E0_3).out)
  have E1_4 := Lib.hid (below_new hb (E1_3).out)
  have E2_4 := Lib.hid (below_new hb (E2_3).out)
  have HT4 := Lib.hid (Tab.later HT3.out hb)
  have B4 := Lib.hid (B3.out.trans (hb.mono B3.out.size))
  clear hb B3 HT3 E0_3 E1_3 E2_3 l0_3 p0_3 q0_3 l1_3 p1_3 q1_3 l2_3 p2_3 q2_3
  have l0_4 := lt_of_block E0_4.out
  have p0_4 := cell_two0 E0_4.out
  have q0_4 := cell_two1 E0_4.out
  have l1_4 := lt_of_block E1_4.out
  have p1_4 := cell_two0 E1_4.out
  have q1_4 := cell_two1 E1_4.out
  have l2_4 := lt_of_block E2_4.out
  have p2_4 := cell_two0 E2_4.out
  have q2_4 := cell_two1 E2_4.out
  go_wp2_with fail
  refine (K2.out _).mono ?_
  rintro e w5 ⟨rfl, hb⟩
  have E0_5 := Lib.hid (below_new hb (heap_alloc_old (E0_4).out _))
  have E1_5 := Lib.hid (below_new hb (heap_alloc_old (E1_4).out _))
  have E2_5 := Lib.hid (below_new hb (heap_alloc_old (E2_4).out _))
  have E3_5 := Lib.hid (below_new hb (heap_alloc_new w4 (.cells #[.int .i64 pn, .int .i64 pd] 23)))
  have HT5 := Lib.hid ((Tab.later HT4.out ((Below.refl _ _).alloc (Nat.le_refl _) (.cells #[.int .i64 pn, .int .i64 pd] 23))).later hb)
  have B5 := Lib.hid ((B4.out.alloc B4.out.size (.cells #[.int .i64 pn, .int .i64 pd] 23)).trans (hb.mono (Nat.le_trans B4.out.size (by simp))))
  clear hb B4 HT4 E0_4 E1_4 E2_4 l0_4 p0_4 q0_4 l1_4 p1_4 q1_4 l2_4 p2_4 q2_4
  have l0_5 := lt_of_block E0_5.out
  have p0_5 := cell_two0 E0_5.out
  have q0_5 := cell_two1 E0_5.out
  have l1_5 := lt_of_block E1_5.out
  have p1_5 := cell_two0 E1_5.out
  have q1_5 := cell_two1 E1_5.out
  have l2_5 := lt_of_block E2_5.out
  have p2_5 := cell_two0 E2_5.out
  have q2_5 := cell_two1 E2_5.out
  have l3_5 := lt_of_block E3_5.out
  have p3_5 := cell_two0 E3_5.out
  have q3_5 := cell_two1 E3_5.out
  go_wp2_with fail
  refine (K3.out _).mono ?_
  rintro e w6 ⟨rfl, hb⟩
  have E0_6 := Lib.hid (below_new hb (heap_alloc_old (E0_5).out _))
  have E1_6 := Lib.hid (below_new hb (heap_alloc_old (E1_5).out _))
  have E2_6 := Lib.hid (below_new hb (heap_alloc_old (E2_5).out _))
  have E3_6 := Lib.hid (below_new hb (heap_alloc_old (E3_5).out _))
  have E4_6 := Lib.hid (below_new hb (heap_alloc_new w5 (.cells #[.int .i64 qn, .int .i64 qd] 23)))
  have HT6 := Lib.hid ((Tab.later HT5.out ((Below.refl _ _).alloc (Nat.le_refl _) (.cells #[.int .i64 qn, .int .i64 qd] 23))).later hb)
  have B6 := Lib.hid ((B5.out.alloc B5.out.size (.cells #[.int .i64 qn, .int .i64 qd] 23)).trans (hb.mono (Nat.le_trans B5.out.size (by simp))))
  clear hb B5 HT5 E0_5 E1_5 E2_5 E3_5 l0_5 p0_5 q0_5 l1_5 p1_5 q1_5 l2_5 p2_5 q2_5 l3_5 p3_5 q3_5
  have l0_6 := lt_of_block E0_6.out
  have p0_6 := cell_two0 E0_6.out
  have q0_6 := cell_two1 E0_6.out
  have l1_6 := lt_of_block E1_6.out
  have p1_6 := cell_two0 E1_6.out
  have q1_6 := cell_two1 E1_6.out
  have l2_6 := lt_of_block E2_6.out
  have p2_6 := cell_two0 E2_6.out
  have q2_6 := cell_two1 E2_6.out
  have l3_6 := lt_of_block E3_6.out
  have p3_6 := cell_two0 E3_6.out
  have q3_6 := cell_two1 E3_6.out
  have l4_6 := lt_of_block E4_6.out
  have p4_6 := cell_two0 E4_6.out
  have q4_6 := cell_two1 E4_6.out
  go_wp2_with fail
  refine (K4.out _).mono ?_
  rintro e w7 ⟨rfl, hb⟩
  have E0_7 := Lib.hid (below_new hb (heap_alloc_old (E0_6).out _))
  have E1_7 := Lib.hid (below_new hb (heap_alloc_old (E1_6).out _))
  have E2_7 := Lib.hid (below_new hb (heap_alloc_old (E2_6).out _))
  have E3_7 := Lib.hid (below_new hb (heap_alloc_old (E3_6).out _))
  have E4_7 := Lib.hid (below_new hb (heap_alloc_old (E4_6).out _))
  have E5_7 := Lib.hid (below_new hb (heap_alloc_new w6 (.cells #[.int .i64 ln, .int .i64 ld] 23)))
  have HT7 := Lib.hid ((Tab.later HT6.out ((Below.refl _ _).alloc (Nat.le_refl _) (.cells #[.int .i64 ln, .int .i64 ld] 23))).later hb)
  have B7 := Lib.hid ((B6.out.alloc B6.out.size (.cells #[.int .i64 ln, .int .i64 ld] 23)).trans (hb.mono (Nat.le_trans B6.out.size (by simp))))
  clear hb B6 HT6 E0_6 E1_6 E2_6 E3_6 E4_6 l0_6 p0_6 q0_6 l1_6 p1_6 q1_6 l2_6 p2_6 q2_6 l3_6 p3_6 q3_6 l4_6 p4_6 q4_6
  have l0_7 := lt_of_block E0_7.out
  have p0_7 := cell_two0 E0_7.out
  have q0_7 := cell_two1 E0_7.out
  have l1_7 := lt_of_block E1_7.out
  have p1_7 := cell_two0 E1_7.out
  have q1_7 := cell_two1 E1_7.out
  have l2_7 := lt_of_block E2_7.out
  have p2_7 := cell_two0 E2_7.out
  have q2_7 := cell_two1 E2_7.out
  have l3_7 := lt_of_block E3_7.out
  have p3_7 := cell_two0 E3_7.out
  have q3_7 := cell_two1 E3_7.out
  have l4_7 := lt_of_block E4_7.out
  have p4_7 := cell_two0 E4_7.out
  have q4_7 := cell_two1 E4_7.out
  have l5_7 := lt_of_block E5_7.out
  have p5_7 := cell_two0 E5_7.out
  have q5_7 := cell_two1 E5_7.out
  go_wp2_with fail
  refine (K5.out _).mono ?_
  rintro e w8 ⟨rfl, hb⟩
  have E0_8 := Lib.hid (below_new hb (heap_alloc_old (E0_7).out _))
  have E1_8 := Lib.hid (below_new hb (heap_alloc_old (E1_7).out _))
  have E2_8 := Lib.hid (below_new hb (heap_alloc_old (E2_7).out _))
  have E3_8 := Lib.hid (below_new hb (heap_alloc_old (E3_7).out _))
  have E4_8 := Lib.hid (below_new hb (heap_alloc_old (E4_7).out _))
  have E5_8 := Lib.hid (below_new hb (heap_alloc_old (E5_7).out _))
  have E6_8 := Lib.hid (below_new hb (heap_alloc_new w7 (.cells #[.int .i64 ln, .int .i64 ld] 23)))
  have HT8 := Lib.hid ((Tab.later HT7.out ((Below.refl _ _).alloc (Nat.le_refl _) (.cells #[.int .i64 ln, .int .i64 ld] 23))).later hb)
  have B8 := Lib.hid ((B7.out.alloc B7.out.size (.cells #[.int .i64 ln, .int .i64 ld] 23)).trans (hb.mono (Nat.le_trans B7.out.size (by simp))))
  clear hb B7 HT7 E0_7 E1_7 E2_7 E3_7 E4_7 E5_7 l0_7 p0_7 q0_7 l1_7 p1_7 q1_7 l2_7 p2_7 q2_7 l3_7 p3_7 q3_7 l4_7 p4_7 q4_7 l5_7 p5_7 q5_7
  have l0_8 := lt_of_block E0_8.out
  have p0_8 := cell_two0 E0_8.out
  have q0_8 := cell_two1 E0_8.out
  have l1_8 := lt_of_block E1_8.out
  have p1_8 := cell_two0 E1_8.out
  have q1_8 := cell_two1 E1_8.out
  have l2_8 := lt_of_block E2_8.out
  have p2_8 := cell_two0 E2_8.out
  have q2_8 := cell_two1 E2_8.out
  have l3_8 := lt_of_block E3_8.out
  have p3_8 := cell_two0 E3_8.out
  have q3_8 := cell_two1 E3_8.out
  have l4_8 := lt_of_block E4_8.out
  have p4_8 := cell_two0 E4_8.out
  have q4_8 := cell_two1 E4_8.out
  have l5_8 := lt_of_block E5_8.out
  have p5_8 := cell_two0 E5_8.out
  have q5_8 := cell_two1 E5_8.out
  have l6_8 := lt_of_block E6_8.out
  have p6_8 := cell_two0 E6_8.out
  have q6_8 := cell_two1 E6_8.out
  go_wp2_with fail
  refine (K6.out _).mono ?_
  rintro e w9 ⟨rfl, hb⟩
  have E0_9 := Lib.hid (below_new hb (heap_alloc_old (E0_8).out _))
  have E1_9 := Lib.hid (below_new hb (heap_alloc_old (E1_8).out _))
  have E2_9 := Lib.hid (below_new hb (heap_alloc_old (E2_8).out _))
  have E3_9 := Lib.hid (below_new hb (heap_alloc_old (E3_8).out _))
  have E4_9 := Lib.hid (below_new hb (heap_alloc_old (E4_8).out _))
  have E5_9 := Lib.hid (below_new hb (heap_alloc_old (E5_8).out _))
  have E6_9 := Lib.hid (below_new hb (heap_alloc_old (E6_8).out _))
  have E7_9 := Lib.hid (below_new hb (heap_alloc_new w8 (.cells #[.int .i64 xn, .int .i64 xd] 23)))
  have HT9 := Lib.hid ((Tab.later HT8.out ((Below.refl _ _).alloc (Nat.le_refl _) (.cells #[.int .i64 xn, .int .i64 xd] 23))).later hb)
  have B9 := Lib.hid ((B8.out.alloc B8.out.size (.cells #[.int .i64 xn, .int .i64 xd] 23)).trans (hb.mono (Nat.le_trans B8.out.size (by simp))))
  clear hb B8 HT8 E0_8 E1_8 E2_8 E3_8 E4_8 E5_8 E6_8 l0_8 p0_8 q0_8 l1_8 p1_8 q1_8 l2_8 p2_8 q2_8 l3_8 p3_8 q3_8 l4_8 p4_8 q4_8 l5_8 p5_8 q5_8 l6_8 p6_8 q6_8
  have l0_9 := lt_of_block E0_9.out
  have p0_9 := cell_two0 E0_9.out
  have q0_9 := cell_two1 E0_9.out
  have l1_9 := lt_of_block E1_9.out
  have p1_9 := cell_two0 E1_9.out
  have q1_9 := cell_two1 E1_9.out
  have l2_9 := lt_of_block E2_9.out
  have p2_9 := cell_two0 E2_9.out
  have q2_9 := cell_two1 E2_9.out
  have l3_9 := lt_of_block E3_9.out
  have p3_9 := cell_two0 E3_9.out
  have q3_9 := cell_two1 E3_9.out
  have l4_9 := lt_of_block E4_9.out
  have p4_9 := cell_two0 E4_9.out
  have q4_9 := cell_two1 E4_9.out
  have l5_9 := lt_of_block E5_9.out
  have p5_9 := cell_two0 E5_9.out
  have q5_9 := cell_two1 E5_9.out
  have l6_9 := lt_of_block E6_9.out
  have p6_9 := cell_two0 E6_9.out
  have q6_9 := cell_two1 E6_9.out
  have l7_9 := lt_of_block E7_9.out
  have p7_9 := cell_two0 E7_9.out
  have q7_9 := cell_two1 E7_9.out
  go_wp2_with fail
  refine (K7.out _).mono ?_
  rintro e w10 ⟨rfl, hb⟩
  have E0_10 := Lib.hid (below_new hb (heap_alloc_old (E0_9).out _))
  have E1_10 := Lib.hid (below_new hb (heap_alloc_old (E1_9).out _))
  have E2_10 := Lib.hid (below_new hb (heap_alloc_old (E2_9).out _))
  have E3_10 := Lib.hid (below_new hb (heap_alloc_old (E3_9).out _))
  have E4_10 := Lib.hid (below_new hb (heap_alloc_old (E4_9).out _))
  have E5_10 := Lib.hid (below_new hb (heap_alloc_old (E5_9).out _))
  have E6_10 := Lib.hid (below_new hb (heap_alloc_old (E6_9).out _))
  have E7_10 := Lib.hid (below_new hb (heap_alloc_old (E7_9).out _))
  have E8_10 := Lib.hid (below_new hb (heap_alloc_new w9 (.cells #[.int .i64 sn, .int .i64 sd] 23)))
  have HT10 := Lib.hid ((Tab.later HT9.out ((Below.refl _ _).alloc (Nat.le_refl _) (.cells #[.int .i64 sn, .int .i64 sd] 23))).later hb)
  have B10 := Lib.hid ((B9.out.alloc B9.out.size (.cells #[.int .i64 sn, .int .i64 sd] 23)).trans (hb.mono (Nat.le_trans B9.out.size (by simp))))
  clear hb B9 HT9 E0_9 E1_9 E2_9 E3_9 E4_9 E5_9 E6_9 E7_9 l0_9 p0_9 q0_9 l1_9 p1_9 q1_9 l2_9 p2_9 q2_9 l3_9 p3_9 q3_9 l4_9 p4_9 q4_9 l5_9 p5_9 q5_9 l6_9 p6_9 q6_9 l7_9 p7_9 q7_9
  have l0_10 := lt_of_block E0_10.out
  have p0_10 := cell_two0 E0_10.out
  have q0_10 := cell_two1 E0_10.out
  have l1_10 := lt_of_block E1_10.out
  have p1_10 := cell_two0 E1_10.out
  have q1_10 := cell_two1 E1_10.out
  have l2_10 := lt_of_block E2_10.out
  have p2_10 := cell_two0 E2_10.out
  have q2_10 := cell_two1 E2_10.out
  have l3_10 := lt_of_block E3_10.out
  have p3_10 := cell_two0 E3_10.out
  have q3_10 := cell_two1 E3_10.out
  have l4_10 := lt_of_block E4_10.out
  have p4_10 := cell_two0 E4_10.out
  have q4_10 := cell_two1 E4_10.out
  have l5_10 := lt_of_block E5_10.out
  have p5_10 := cell_two0 E5_10.out
  have q5_10 := cell_two1 E5_10.out
  have l6_10 := lt_of_block E6_10.out
  have p6_10 := cell_two0 E6_10.out
  have q6_10 := cell_two1 E6_10.out
  have l7_10 := lt_of_block E7_10.out
  have p7_10 := cell_two0 E7_10.out
  have q7_10 := cell_two1 E7_10.out
  have l8_10 := lt_of_block E8_10.out
  have p8_10 := cell_two0 E8_10.out
  have q8_10 := cell_two1 E8_10.out
  go_wp2_with fail
  refine (K8.out _).mono ?_
  rintro e w11 ⟨rfl, hb⟩
  have E0_11 := Lib.hid (below_new hb (heap_alloc_old (E0_10).out _))
  have E1_11 := Lib.hid (below_new hb (heap_alloc_old (E1_10).out _))
  have E2_11 := Lib.hid (below_new hb (heap_alloc_old (E2_10).out _))
  have E3_11 := Lib.hid (below_new hb (heap_alloc_old (E3_10).out _))
  have E4_11 := Lib.hid (below_new hb (heap_alloc_old (E4_10).out _))
  have E5_11 := Lib.hid (below_new hb (heap_alloc_old (E5_10).out _))
  have E6_11 := Lib.hid (below_new hb (heap_alloc_old (E6_10).out _))
  have E7_11 := Lib.hid (below_new hb (heap_alloc_old (E7_10).out _))
  have E8_11 := Lib.hid (below_new hb (heap_alloc_old (E8_10).out _))
  have E9_11 := Lib.hid (below_new hb (heap_alloc_new w10 (.cells #[.int .i64 tn, .int .i64 td] 23)))
  have HT11 := Lib.hid ((Tab.later HT10.out ((Below.refl _ _).alloc (Nat.le_refl _) (.cells #[.int .i64 tn, .int .i64 td] 23))).later hb)
  have B11 := Lib.hid ((B10.out.alloc B10.out.size (.cells #[.int .i64 tn, .int .i64 td] 23)).trans (hb.mono (Nat.le_trans B10.out.size (by simp))))
  clear hb B10 HT10 E0_10 E1_10 E2_10 E3_10 E4_10 E5_10 E6_10 E7_10 E8_10 l0_10 p0_10 q0_10 l1_10 p1_10 q1_10 l2_10 p2_10 q2_10 l3_10 p3_10 q3_10 l4_10 p4_10 q4_10 l5_10 p5_10 q5_10 l6_10 p6_10 q6_10 l7_10 p7_10 q7_10 l8_10 p8_10 q8_10
  have l0_11 := lt_of_block E0_11.out
  have p0_11 := cell_two0 E0_11.out
  have q0_11 := cell_two1 E0_11.out
  have l1_11 := lt_of_block E1_11.out
  have p1_11 := cell_two0 E1_11.out
  have q1_11 := cell_two1 E1_11.out
  have l2_11 := lt_of_block E2_11.out
  have p2_11 := cell_two0 E2_11.out
  have q2_11 := cell_two1 E2_11.out
  have l3_11 := lt_of_block E3_11.out
  have p3_11 := cell_two0 E3_11.out
  have q3_11 := cell_two1 E3_11.out
  have l4_11 := lt_of_block E4_11.out
  have p4_11 := cell_two0 E4_11.out
  have q4_11 := cell_two1 E4_11.out
  have l5_11 := lt_of_block E5_11.out
  have p5_11 := cell_two0 E5_11.out
  have q5_11 := cell_two1 E5_11.out
  have l6_11 := lt_of_block E6_11.out
  have p6_11 := cell_two0 E6_11.out
  have q6_11 := cell_two1 E6_11.out
  have l7_11 := lt_of_block E7_11.out
  have p7_11 := cell_two0 E7_11.out
  have q7_11 := cell_two1 E7_11.out
  have l8_11 := lt_of_block E8_11.out
  have p8_11 := cell_two0 E8_11.out
  have q8_11 := cell_two1 E8_11.out
  have l9_11 := lt_of_block E9_11.out
  have p9_11 := cell_two0 E9_11.out
  have q9_11 := cell_two1 E9_11.out
  go_wp2_with fail
  go_ret
  exact ⟨rfl, (B11.out.alloc B11.out.size _)⟩

set_option maxRecDepth 100000 in
set_option maxHeartbeats 8000000 in
theorem ring_ok_l (an ad bn bd cn cd pn pd qn qd ln ld rn rd xn xd sn sd tn td yn yd ee ff gg hh ii jj kk ll : Int) (hv : vld an ad = true ∧ vld bn bd = true ∧ vld cn cd = true) (nll : (ll == 0) = false)
    (h1 : (∀ w, Calls Tryd.prog 18 #[.agg #[.int .i64 an, .int .i64 ad], .agg #[.int .i64 bn, .int .i64 bd]] w fun e w' => e = .returned (.tuple #[.agg #[.int .i64 pn, .int .i64 pd], .int .i64 0]) ∧ Below w.heap.size w w'))
    (h2 : (∀ w, Calls Tryd.prog 18 #[.agg #[.int .i64 bn, .int .i64 bd], .agg #[.int .i64 cn, .int .i64 cd]] w fun e w' => e = .returned (.tuple #[.agg #[.int .i64 qn, .int .i64 qd], .int .i64 0]) ∧ Below w.heap.size w w'))
    (h3 : (∀ w, Calls Tryd.prog 18 #[.agg #[.int .i64 pn, .int .i64 pd], .agg #[.int .i64 cn, .int .i64 cd]] w fun e w' => e = .returned (.tuple #[.agg #[.int .i64 ln, .int .i64 ld], .int .i64 0]) ∧ Below w.heap.size w w'))
    (h4 : (∀ w, Calls Tryd.prog 18 #[.agg #[.int .i64 an, .int .i64 ad], .agg #[.int .i64 qn, .int .i64 qd]] w fun e w' => e = .returned (.tuple #[.agg #[.int .i64 ln, .int .i64 ld], .int .i64 0]) ∧ Below w.heap.size w w'))
    (h5 : (∀ w, Calls Tryd.prog 23 #[.agg #[.int .i64 pn, .int .i64 pd], .agg #[.int .i64 cn, .int .i64 cd]] w fun e w' => e = .returned (.tuple #[.agg #[.int .i64 xn, .int .i64 xd], .int .i64 0]) ∧ Below w.heap.size w w'))
    (h6 : (∀ w, Calls Tryd.prog 23 #[.agg #[.int .i64 an, .int .i64 ad], .agg #[.int .i64 cn, .int .i64 cd]] w fun e w' => e = .returned (.tuple #[.agg #[.int .i64 sn, .int .i64 sd], .int .i64 0]) ∧ Below w.heap.size w w'))
    (h7 : (∀ w, Calls Tryd.prog 23 #[.agg #[.int .i64 bn, .int .i64 bd], .agg #[.int .i64 cn, .int .i64 cd]] w fun e w' => e = .returned (.tuple #[.agg #[.int .i64 tn, .int .i64 td], .int .i64 0]) ∧ Below w.heap.size w w'))
    (h8 : (∀ w, Calls Tryd.prog 18 #[.agg #[.int .i64 sn, .int .i64 sd], .agg #[.int .i64 tn, .int .i64 td]] w fun e w' => e = .returned (.tuple #[.agg #[.int .i64 yn, .int .i64 yd], .int .i64 ll]) ∧ Below w.heap.size w w')) (w : World) (ht : Tab w) :
    Calls Tryd.prog 6 #[.agg #[.int .i64 an, .int .i64 ad], .agg #[.int .i64 bn, .int .i64 bd], .agg #[.int .i64 cn, .int .i64 cd]] w fun e w' => e = .returned (.bool true) ∧ Below w.heap.size w w' := by
  have K1 := Lib.hid h1
  have K2 := Lib.hid h2
  have K3 := Lib.hid h3
  have K4 := Lib.hid h4
  have K5 := Lib.hid h5
  have K6 := Lib.hid h6
  have K7 := Lib.hid h7
  have K8 := Lib.hid h8
  have mll : (ll != 0) = true := by rw [bne_iff_ne]; exact beq_eq_false_iff_ne.1 nll
  have F := Lib.hid hv
  clear hv h1 h2 h3 h4 h5 h6 h7 h8
  have HT := Lib.hid ht
  clear ht
  go_enter Tryd.func6, Tryd.ntmps6
  go_wp2_with fail
  obtain ⟨w0, hw0⟩ : ∃ w0, w0 = (((w.alloc (.cells #[.int .i64 an, .int .i64 ad] 23)).alloc (.cells #[.int .i64 bn, .int .i64 bd] 23)).alloc (.cells #[.int .i64 cn, .int .i64 cd] 23)) := ⟨_, rfl⟩
  have E0_0 : Hid (w0.heap[w.heap.size]? = some (.cells #[.int .i64 an, .int .i64 ad] 23 (0, 0))) := by
    show _ = _
    rw [hw0]
    refine heap_alloc_old ?_ _
    refine heap_alloc_old ?_ _
    have := heap_alloc_new w (.cells #[.int .i64 an, .int .i64 ad] 23)
    simpa using this
  have E1_0 : Hid (w0.heap[w.heap.size + 1]? = some (.cells #[.int .i64 bn, .int .i64 bd] 23 (0, 0))) := by
    show _ = _
    rw [hw0]
    refine heap_alloc_old ?_ _
    have := heap_alloc_new (w.alloc (.cells #[.int .i64 an, .int .i64 ad] 23)) (.cells #[.int .i64 bn, .int .i64 bd] 23)
    simpa using this
  have E2_0 : Hid (w0.heap[w.heap.size + 1 + 1]? = some (.cells #[.int .i64 cn, .int .i64 cd] 23 (0, 0))) := by
    show _ = _
    rw [hw0]
    have := heap_alloc_new ((w.alloc (.cells #[.int .i64 an, .int .i64 ad] 23)).alloc (.cells #[.int .i64 bn, .int .i64 bd] 23)) (.cells #[.int .i64 cn, .int .i64 cd] 23)
    simpa using this
  have B0 : Hid (Below w.heap.size w w0) := by
    show Below _ _ _
    rw [hw0]
    exact ((((Below.refl _ _).alloc (Nat.le_refl _) _).alloc (by simp <;> omega) _).alloc (by simp <;> omega) _)
  have HT0 := Lib.hid (Tab.later HT.out (B0.out.mono (Nat.le_refl _)))
  rw [← hw0]
  clear hw0 HT
  refine (alive_any _ (by exact HT0.out)).mono ?_
  rintro e w1 ⟨rfl, hb⟩
  have E0_1 := Lib.hid (below_new hb (E0_0).out)
  have E1_1 := Lib.hid (below_new hb (E1_0).out)
  have E2_1 := Lib.hid (below_new hb (E2_0).out)
  have HT1 := Lib.hid (Tab.later HT0.out hb)
  have B1 := Lib.hid (B0.out.trans (hb.mono B0.out.size))
  clear hb B0 HT0 E0_0 E1_0 E2_0 
  have l0_1 := lt_of_block E0_1.out
  have p0_1 := cell_two0 E0_1.out
  have q0_1 := cell_two1 E0_1.out
  have l1_1 := lt_of_block E1_1.out
  have p1_1 := cell_two0 E1_1.out
  have q1_1 := cell_two1 E1_1.out
  have l2_1 := lt_of_block E2_1.out
  have p2_1 := cell_two0 E2_1.out
  have q2_1 := cell_two1 E2_1.out
  go_wp2_with fail
  refine (fit_yes F.out.1 F.out.2.1 _).mono ?_
  rintro e w2 ⟨rfl, hb⟩
  have E0_2 := Lib.hid (below_new hb (E0_1).out)
  have E1_2 := Lib.hid (below_new hb (E1_1).out)
  have E2_2 := Lib.hid (below_new hb (E2_1).out)
  have HT2 := Lib.hid (Tab.later HT1.out hb)
  have B2 := Lib.hid (B1.out.trans (hb.mono B1.out.size))
  clear hb B1 HT1 E0_1 E1_1 E2_1 l0_1 p0_1 q0_1 l1_1 p1_1 q1_1 l2_1 p2_1 q2_1
  have l0_2 := lt_of_block E0_2.out
  have p0_2 := cell_two0 E0_2.out
  have q0_2 := cell_two1 E0_2.out
  have l1_2 := lt_of_block E1_2.out
  have p1_2 := cell_two0 E1_2.out
  have q1_2 := cell_two1 E1_2.out
  have l2_2 := lt_of_block E2_2.out
  have p2_2 := cell_two0 E2_2.out
  have q2_2 := cell_two1 E2_2.out
  go_wp2_with fail
  refine (fit_yes F.out.2.2 F.out.2.2 _).mono ?_
  rintro e w3 ⟨rfl, hb⟩
  have E0_3 := Lib.hid (below_new hb (E0_2).out)
  have E1_3 := Lib.hid (below_new hb (E1_2).out)
  have E2_3 := Lib.hid (below_new hb (E2_2).out)
  have HT3 := Lib.hid (Tab.later HT2.out hb)
  have B3 := Lib.hid (B2.out.trans (hb.mono B2.out.size))
  clear hb B2 HT2 E0_2 E1_2 E2_2 l0_2 p0_2 q0_2 l1_2 p1_2 q1_2 l2_2 p2_2 q2_2
  have l0_3 := lt_of_block E0_3.out
  have p0_3 := cell_two0 E0_3.out
  have q0_3 := cell_two1 E0_3.out
  have l1_3 := lt_of_block E1_3.out
  have p1_3 := cell_two0 E1_3.out
  have q1_3 := cell_two1 E1_3.out
  have l2_3 := lt_of_block E2_3.out
  have p2_3 := cell_two0 E2_3.out
  have q2_3 := cell_two1 E2_3.out
  go_wp2_with fail
  refine (K1.out _).mono ?_
  rintro e w4 ⟨rfl, hb⟩
  have E0_4 := Lib.hid (below_new hb (E0_3).out)
  have E1_4 := Lib.hid (below_new hb (E1_3).out)
  have E2_4 := Lib.hid (below_new hb (E2_3).out)
  have HT4 := Lib.hid (Tab.later HT3.out hb)
  have B4 := Lib.hid (B3.out.trans (hb.mono B3.out.size))
  clear hb B3 HT3 E0_3 E1_3 E2_3 l0_3 p0_3 q0_3 l1_3 p1_3 q1_3 l2_3 p2_3 q2_3
  have l0_4 := lt_of_block E0_4.out
  have p0_4 := cell_two0 E0_4.out
  have q0_4 := cell_two1 E0_4.out
  have l1_4 := lt_of_block E1_4.out
  have p1_4 := cell_two0 E1_4.out
  have q1_4 := cell_two1 E1_4.out
  have l2_4 := lt_of_block E2_4.out
  have p2_4 := cell_two0 E2_4.out
  have q2_4 := cell_two1 E2_4.out
  go_wp2_with fail
  refine (K2.out _).mono ?_
  rintro e w5 ⟨rfl, hb⟩
  have E0_5 := Lib.hid (below_new hb (heap_alloc_old (E0_4).out _))
  have E1_5 := Lib.hid (below_new hb (heap_alloc_old (E1_4).out _))
  have E2_5 := Lib.hid (below_new hb (heap_alloc_old (E2_4).out _))
  have E3_5 := Lib.hid (below_new hb (heap_alloc_new w4 (.cells #[.int .i64 pn, .int .i64 pd] 23)))
  have HT5 := Lib.hid ((Tab.later HT4.out ((Below.refl _ _).alloc (Nat.le_refl _) (.cells #[.int .i64 pn, .int .i64 pd] 23))).later hb)
  have B5 := Lib.hid ((B4.out.alloc B4.out.size (.cells #[.int .i64 pn, .int .i64 pd] 23)).trans (hb.mono (Nat.le_trans B4.out.size (by simp))))
  clear hb B4 HT4 E0_4 E1_4 E2_4 l0_4 p0_4 q0_4 l1_4 p1_4 q1_4 l2_4 p2_4 q2_4
  have l0_5 := lt_of_block E0_5.out
  have p0_5 := cell_two0 E0_5.out
  have q0_5 := cell_two1 E0_5.out
  have l1_5 := lt_of_block E1_5.out
  have p1_5 := cell_two0 E1_5.out
  have q1_5 := cell_two1 E1_5.out
  have l2_5 := lt_of_block E2_5.out
  have p2_5 := cell_two0 E2_5.out
  have q2_5 := cell_two1 E2_5.out
  have l3_5 := lt_of_block E3_5.out
  have p3_5 := cell_two0 E3_5.out
  have q3_5 := cell_two1 E3_5.out
  go_wp2_with fail
  refine (K3.out _).mono ?_
  rintro e w6 ⟨rfl, hb⟩
  have E0_6 := Lib.hid (below_new hb (heap_alloc_old (E0_5).out _))
  have E1_6 := Lib.hid (below_new hb (heap_alloc_old (E1_5).out _))
  have E2_6 := Lib.hid (below_new hb (heap_alloc_old (E2_5).out _))
  have E3_6 := Lib.hid (below_new hb (heap_alloc_old (E3_5).out _))
  have E4_6 := Lib.hid (below_new hb (heap_alloc_new w5 (.cells #[.int .i64 qn, .int .i64 qd] 23)))
  have HT6 := Lib.hid ((Tab.later HT5.out ((Below.refl _ _).alloc (Nat.le_refl _) (.cells #[.int .i64 qn, .int .i64 qd] 23))).later hb)
  have B6 := Lib.hid ((B5.out.alloc B5.out.size (.cells #[.int .i64 qn, .int .i64 qd] 23)).trans (hb.mono (Nat.le_trans B5.out.size (by simp))))
  clear hb B5 HT5 E0_5 E1_5 E2_5 E3_5 l0_5 p0_5 q0_5 l1_5 p1_5 q1_5 l2_5 p2_5 q2_5 l3_5 p3_5 q3_5
  have l0_6 := lt_of_block E0_6.out
  have p0_6 := cell_two0 E0_6.out
  have q0_6 := cell_two1 E0_6.out
  have l1_6 := lt_of_block E1_6.out
  have p1_6 := cell_two0 E1_6.out
  have q1_6 := cell_two1 E1_6.out
  have l2_6 := lt_of_block E2_6.out
  have p2_6 := cell_two0 E2_6.out
  have q2_6 := cell_two1 E2_6.out
  have l3_6 := lt_of_block E3_6.out
  have p3_6 := cell_two0 E3_6.out
  have q3_6 := cell_two1 E3_6.out
  have l4_6 := lt_of_block E4_6.out
  have p4_6 := cell_two0 E4_6.out
  have q4_6 := cell_two1 E4_6.out
  go_wp2_with fail
  refine (K4.out _).mono ?_
  rintro e w7 ⟨rfl, hb⟩
  have E0_7 := Lib.hid (below_new hb (heap_alloc_old (E0_6).out _))
  have E1_7 := Lib.hid (below_new hb (heap_alloc_old (E1_6).out _))
  have E2_7 := Lib.hid (below_new hb (heap_alloc_old (E2_6).out _))
  have E3_7 := Lib.hid (below_new hb (heap_alloc_old (E3_6).out _))
  have E4_7 := Lib.hid (below_new hb (heap_alloc_old (E4_6).out _))
  have E5_7 := Lib.hid (below_new hb (heap_alloc_new w6 (.cells #[.int .i64 ln, .int .i64 ld] 23)))
  have HT7 := Lib.hid ((Tab.later HT6.out ((Below.refl _ _).alloc (Nat.le_refl _) (.cells #[.int .i64 ln, .int .i64 ld] 23))).later hb)
  have B7 := Lib.hid ((B6.out.alloc B6.out.size (.cells #[.int .i64 ln, .int .i64 ld] 23)).trans (hb.mono (Nat.le_trans B6.out.size (by simp))))
  clear hb B6 HT6 E0_6 E1_6 E2_6 E3_6 E4_6 l0_6 p0_6 q0_6 l1_6 p1_6 q1_6 l2_6 p2_6 q2_6 l3_6 p3_6 q3_6 l4_6 p4_6 q4_6
  have l0_7 := lt_of_block E0_7.out
  have p0_7 := cell_two0 E0_7.out
  have q0_7 := cell_two1 E0_7.out
  have l1_7 := lt_of_block E1_7.out
  have p1_7 := cell_two0 E1_7.out
  have q1_7 := cell_two1 E1_7.out
  have l2_7 := lt_of_block E2_7.out
  have p2_7 := cell_two0 E2_7.out
  have q2_7 := cell_two1 E2_7.out
  have l3_7 := lt_of_block E3_7.out
  have p3_7 := cell_two0 E3_7.out
  have q3_7 := cell_two1 E3_7.out
  have l4_7 := lt_of_block E4_7.out
  have p4_7 := cell_two0 E4_7.out
  have q4_7 := cell_two1 E4_7.out
  have l5_7 := lt_of_block E5_7.out
  have p5_7 := cell_two0 E5_7.out
  have q5_7 := cell_two1 E5_7.out
  go_wp2_with fail
  refine (K5.out _).mono ?_
  rintro e w8 ⟨rfl, hb⟩
  have E0_8 := Lib.hid (below_new hb (heap_alloc_old (E0_7).out _))
  have E1_8 := Lib.hid (below_new hb (heap_alloc_old (E1_7).out _))
  have E2_8 := Lib.hid (below_new hb (heap_alloc_old (E2_7).out _))
  have E3_8 := Lib.hid (below_new hb (heap_alloc_old (E3_7).out _))
  have E4_8 := Lib.hid (below_new hb (heap_alloc_old (E4_7).out _))
  have E5_8 := Lib.hid (below_new hb (heap_alloc_old (E5_7).out _))
  have E6_8 := Lib.hid (below_new hb (heap_alloc_new w7 (.cells #[.int .i64 ln, .int .i64 ld] 23)))
  have HT8 := Lib.hid ((Tab.later HT7.out ((Below.refl _ _).alloc (Nat.le_refl _) (.cells #[.int .i64 ln, .int .i64 ld] 23))).later hb)
  have B8 := Lib.hid ((B7.out.alloc B7.out.size (.cells #[.int .i64 ln, .int .i64 ld] 23)).trans (hb.mono (Nat.le_trans B7.out.size (by simp))))
  clear hb B7 HT7 E0_7 E1_7 E2_7 E3_7 E4_7 E5_7 l0_7 p0_7 q0_7 l1_7 p1_7 q1_7 l2_7 p2_7 q2_7 l3_7 p3_7 q3_7 l4_7 p4_7 q4_7 l5_7 p5_7 q5_7
  have l0_8 := lt_of_block E0_8.out
  have p0_8 := cell_two0 E0_8.out
  have q0_8 := cell_two1 E0_8.out
  have l1_8 := lt_of_block E1_8.out
  have p1_8 := cell_two0 E1_8.out
  have q1_8 := cell_two1 E1_8.out
  have l2_8 := lt_of_block E2_8.out
  have p2_8 := cell_two0 E2_8.out
  have q2_8 := cell_two1 E2_8.out
  have l3_8 := lt_of_block E3_8.out
  have p3_8 := cell_two0 E3_8.out
  have q3_8 := cell_two1 E3_8.out
  have l4_8 := lt_of_block E4_8.out
  have p4_8 := cell_two0 E4_8.out
  have q4_8 := cell_two1 E4_8.out
  have l5_8 := lt_of_block E5_8.out
  have p5_8 := cell_two0 E5_8.out
  have q5_8 := cell_two1 E5_8.out
  have l6_8 := lt_of_block E6_8.out
  have p6_8 := cell_two0 E6_8.out
  have q6_8 := cell_two1 E6_8.out
  go_wp2_with fail
  refine (K6.out _).mono ?_
  rintro e w9 ⟨rfl, hb⟩
  have E0_9 := Lib.hid (below_new hb (heap_alloc_old (E0_8).out _))
  have E1_9 := Lib.hid (below_new hb (heap_alloc_old (E1_8).out _))
  have E2_9 := Lib.hid (below_new hb (heap_alloc_old (E2_8).out _))
  have E3_9 := Lib.hid (below_new hb (heap_alloc_old (E3_8).out _))
  have E4_9 := Lib.hid (below_new hb (heap_alloc_old (E4_8).out _))
  have E5_9 := Lib.hid (below_new hb (heap_alloc_old (E5_8).out _))
  have E6_9 := Lib.hid (below_new hb (heap_alloc_old (E6_8).out _))
  have E7_9 := Lib.hid (below_new hb (heap_alloc_new w8 (.cells #[.int .i64 xn, .int .i64 xd] 23)))
  have HT9 := Lib.hid ((Tab.later HT8.out ((Below.refl _ _).alloc (Nat.le_refl _) (.cells #[.int .i64 xn, .int .i64 xd] 23))).later hb)
  have B9 := Lib.hid ((B8.out.alloc B8.out.size (.cells #[.int .i64 xn, .int .i64 xd] 23)).trans (hb.mono (Nat.le_trans B8.out.size (by simp))))
  clear hb B8 HT8 E0_8 E1_8 E2_8 E3_8 E4_8 E5_8 E6_8 l0_8 p0_8 q0_8 l1_8 p1_8 q1_8 l2_8 p2_8 q2_8 l3_8 p3_8 q3_8 l4_8 p4_8 q4_8 l5_8 p5_8 q5_8 l6_8 p6_8 q6_8
  have l0_9 := lt_of_block E0_9.out
  have p0_9 := cell_two0 E0_9.out
  have q0_9 := cell_two1 E0_9.out
  have l1_9 := lt_of_block E1_9.out
  have p1_9 := cell_two0 E1_9.out
  have q1_9 := cell_two1 E1_9.out
  have l2_9 := lt_of_block E2_9.out
  have p2_9 := cell_two0 E2_9.out
  have q2_9 := cell_two1 E2_9.out
  have l3_9 := lt_of_block E3_9.out
  have p3_9 := cell_two0 E3_9.out
  have q3_9 := cell_two1 E3_9.out
  have l4_9 := lt_of_block E4_9.out
  have p4_9 := cell_two0 E4_9.out
  have q4_9 := cell_two1 E4_9.out
  have l5_9 := lt_of_block E5_9.out
  have p5_9 := cell_two0 E5_9.out
  have q5_9 := cell_two1 E5_9.out
  have l6_9 := lt_of_block E6_9.out
  have p6_9 := cell_two0 E6_9.out
  have q6_9 := cell_two1 E6_9.out
  have l7_9 := lt_of_block E7_9.out
  have p7_9 := cell_two0 E7_9.out
  have q7_9 := cell_two1 E7_9.out
  go_wp2_with fail
  refine (K7.out _).mono ?_
  rintro e w10 ⟨rfl, hb⟩
  have E0_10 := Lib.hid (below_new hb (heap_alloc_old (E0_9).out _))
  have E1_10 := Lib.hid (below_new hb (heap_alloc_old (E1_9).out _))
  have E2_10 := Lib.hid (below_new hb (heap_alloc_old (E2_9).out _))
  have E3_10 := Lib.hid (below_new hb (heap_alloc_old (E3_9).out _))
  have E4_10 := Lib.hid (below_new hb (heap_alloc_old (E4_9).out _))
  have E5_10 := Lib.hid (below_new hb (heap_alloc_old (E5_9).out _))
  have E6_10 := Lib.hid (below_new hb (heap_alloc_old (E6_9).out _))
  have E7_10 := Lib.hid (below_new hb (heap_alloc_old (E7_9).out _))
  have E8_10 := Lib.hid (below_new hb (heap_alloc_new w9 (.cells #[.int .i64 sn, .int .i64 sd] 23)))
  have HT10 := Lib.hid ((Tab.later HT9.out ((Below.refl _ _).alloc (Nat.le_refl _) (.cells #[.int .i64 sn, .int .i64 sd] 23))).later hb)
  have B10 := Lib.hid ((B9.out.alloc B9.out.size (.cells #[.int .i64 sn, .int .i64 sd] 23)).trans (hb.mono (Nat.le_trans B9.out.size (by simp))))
  clear hb B9 HT9 E0_9 E1_9 E2_9 E3_9 E4_9 E5_9 E6_9 E7_9 l0_9 p0_9 q0_9 l1_9 p1_9 q1_9 l2_9 p2_9 q2_9 l3_9 p3_9 q3_9 l4_9 p4_9 q4_9 l5_9 p5_9 q5_9 l6_9 p6_9 q6_9 l7_9 p7_9 q7_9
  have l0_10 := lt_of_block E0_10.out
  have p0_10 := cell_two0 E0_10.out
  have q0_10 := cell_two1 E0_10.out
  have l1_10 := lt_of_block E1_10.out
  have p1_10 := cell_two0 E1_10.out
  have q1_10 := cell_two1 E1_10.out
  have l2_10 := lt_of_block E2_10.out
  have p2_10 := cell_two0 E2_10.out
  have q2_10 := cell_two1 E2_10.out
  have l3_10 := lt_of_block E3_10.out
  have p3_10 := cell_two0 E3_10.out
  have q3_10 := cell_two1 E3_10.out
  have l4_10 := lt_of_block E4_10.out
  have p4_10 := cell_two0 E4_10.out
  have q4_10 := cell_two1 E4_10.out
  have l5_10 := lt_of_block E5_10.out
  have p5_10 := cell_two0 E5_10.out
  have q5_10 := cell_two1 E5_10.out
  have l6_10 := lt_of_block E6_10.out
  have p6_10 := cell_two0 E6_10.out
  have q6_10 := cell_two1 E6_10.out
  have l7_10 := lt_of_block E7_10.out
  have p7_10 := cell_two0 E7_10.out
  have q7_10 := cell_two1 E7_10.out
  have l8_10 := lt_of_block E8_10.out
  have p8_10 := cell_two0 E8_10.out
  have q8_10 := cell_two1 E8_10.out
  go_wp2_with fail
  refine (K8.out _).mono ?_
  rintro e w11 ⟨rfl, hb⟩
  have E0_11 := Lib.hid (below_new hb (heap_alloc_old (E0_10).out _))
  have E1_11 := Lib.hid (below_new hb (heap_alloc_old (E1_10).out _))
  have E2_11 := Lib.hid (below_new hb (heap_alloc_old (E2_10).out _))
  have E3_11 := Lib.hid (below_new hb (heap_alloc_old (E3_10).out _))
  have E4_11 := Lib.hid (below_new hb (heap_alloc_old (E4_10).out _))
  have E5_11 := Lib.hid (below_new hb (heap_alloc_old (E5_10).out _))
  have E6_11 := Lib.hid (below_new hb (heap_alloc_old (E6_10).out _))
  have E7_11 := Lib.hid (below_new hb (heap_alloc_old (E7_10).out _))
  have E8_11 := Lib.hid (below_new hb (heap_alloc_old (E8_10).out _))
  have E9_11 := Lib.hid (below_new hb (heap_alloc_new w10 (.cells #[.int .i64 tn, .int .i64 td] 23)))
  have HT11 := Lib.hid ((Tab.later HT10.out ((Below.refl _ _).alloc (Nat.le_refl _) (.cells #[.int .i64 tn, .int .i64 td] 23))).later hb)
  have B11 := Lib.hid ((B10.out.alloc B10.out.size (.cells #[.int .i64 tn, .int .i64 td] 23)).trans (hb.mono (Nat.le_trans B10.out.size (by simp))))
  clear hb B10 HT10 E0_10 E1_10 E2_10 E3_10 E4_10 E5_10 E6_10 E7_10 E8_10 l0_10 p0_10 q0_10 l1_10 p1_10 q1_10 l2_10 p2_10 q2_10 l3_10 p3_10 q3_10 l4_10 p4_10 q4_10 l5_10 p5_10 q5_10 l6_10 p6_10 q6_10 l7_10 p7_10 q7_10 l8_10 p8_10 q8_10
  have l0_11 := lt_of_block E0_11.out
  have p0_11 := cell_two0 E0_11.out
  have q0_11 := cell_two1 E0_11.out
  have l1_11 := lt_of_block E1_11.out
  have p1_11 := cell_two0 E1_11.out
  have q1_11 := cell_two1 E1_11.out
  have l2_11 := lt_of_block E2_11.out
  have p2_11 := cell_two0 E2_11.out
  have q2_11 := cell_two1 E2_11.out
  have l3_11 := lt_of_block E3_11.out
  have p3_11 := cell_two0 E3_11.out
  have q3_11 := cell_two1 E3_11.out
  have l4_11 := lt_of_block E4_11.out
  have p4_11 := cell_two0 E4_11.out
  have q4_11 := cell_two1 E4_11.out
  have l5_11 := lt_of_block E5_11.out
  have p5_11 := cell_two0 E5_11.out
  have q5_11 := cell_two1 E5_11.out
  have l6_11 := lt_of_block E6_11.out
  have p6_11 := cell_two0 E6_11.out
  have q6_11 := cell_two1 E6_11.out
  have l7_11 := lt_of_block E7_11.out
  have p7_11 := cell_two0 E7_11.out
  have q7_11 := cell_two1 E7_11.out
  have l8_11 := lt_of_block E8_11.out
  have p8_11 := cell_two0 E8_11.out
  have q8_11 := cell_two1 E8_11.out
  have l9_11 := lt_of_block E9_11.out
  have p9_11 := cell_two0 E9_11.out
  have q9_11 := cell_two1 E9_11.out
  go_wp2_with fail
  go_ret
  exact ⟨rfl, (B11.out.alloc B11.out.size _)⟩

set_option maxRecDepth 100000 in
set_option maxHeartbeats 8000000 in
theorem ring_ok_ok (an ad bn bd cn cd pn pd qn qd ln ld rn rd xn xd sn sd tn td yn yd ee ff gg hh ii jj kk ll : Int) (hv : vld an ad = true ∧ vld bn bd = true ∧ vld cn cd = true)
    (h1 : (∀ w, Calls Tryd.prog 18 #[.agg #[.int .i64 an, .int .i64 ad], .agg #[.int .i64 bn, .int .i64 bd]] w fun e w' => e = .returned (.tuple #[.agg #[.int .i64 pn, .int .i64 pd], .int .i64 0]) ∧ Below w.heap.size w w'))
    (h2 : (∀ w, Calls Tryd.prog 18 #[.agg #[.int .i64 bn, .int .i64 bd], .agg #[.int .i64 cn, .int .i64 cd]] w fun e w' => e = .returned (.tuple #[.agg #[.int .i64 qn, .int .i64 qd], .int .i64 0]) ∧ Below w.heap.size w w'))
    (h3 : (∀ w, Calls Tryd.prog 18 #[.agg #[.int .i64 pn, .int .i64 pd], .agg #[.int .i64 cn, .int .i64 cd]] w fun e w' => e = .returned (.tuple #[.agg #[.int .i64 ln, .int .i64 ld], .int .i64 0]) ∧ Below w.heap.size w w'))
    (h4 : (∀ w, Calls Tryd.prog 18 #[.agg #[.int .i64 an, .int .i64 ad], .agg #[.int .i64 qn, .int .i64 qd]] w fun e w' => e = .returned (.tuple #[.agg #[.int .i64 ln, .int .i64 ld], .int .i64 0]) ∧ Below w.heap.size w w'))
    (h5 : (∀ w, Calls Tryd.prog 23 #[.agg #[.int .i64 pn, .int .i64 pd], .agg #[.int .i64 cn, .int .i64 cd]] w fun e w' => e = .returned (.tuple #[.agg #[.int .i64 xn, .int .i64 xd], .int .i64 0]) ∧ Below w.heap.size w w'))
    (h6 : (∀ w, Calls Tryd.prog 23 #[.agg #[.int .i64 an, .int .i64 ad], .agg #[.int .i64 cn, .int .i64 cd]] w fun e w' => e = .returned (.tuple #[.agg #[.int .i64 sn, .int .i64 sd], .int .i64 0]) ∧ Below w.heap.size w w'))
    (h7 : (∀ w, Calls Tryd.prog 23 #[.agg #[.int .i64 bn, .int .i64 bd], .agg #[.int .i64 cn, .int .i64 cd]] w fun e w' => e = .returned (.tuple #[.agg #[.int .i64 tn, .int .i64 td], .int .i64 0]) ∧ Below w.heap.size w w'))
    (h8 : (∀ w, Calls Tryd.prog 18 #[.agg #[.int .i64 sn, .int .i64 sd], .agg #[.int .i64 tn, .int .i64 td]] w fun e w' => e = .returned (.tuple #[.agg #[.int .i64 xn, .int .i64 xd], .int .i64 0]) ∧ Below w.heap.size w w')) (w : World) (ht : Tab w) :
    Calls Tryd.prog 6 #[.agg #[.int .i64 an, .int .i64 ad], .agg #[.int .i64 bn, .int .i64 bd], .agg #[.int .i64 cn, .int .i64 cd]] w fun e w' => e = .returned (.bool true) ∧ Below w.heap.size w w' := by
  have K1 := Lib.hid h1
  have K2 := Lib.hid h2
  have K3 := Lib.hid h3
  have K4 := Lib.hid h4
  have K5 := Lib.hid h5
  have K6 := Lib.hid h6
  have K7 := Lib.hid h7
  have K8 := Lib.hid h8
  have F := Lib.hid hv
  clear hv h1 h2 h3 h4 h5 h6 h7 h8
  have HT := Lib.hid ht
  clear ht
  go_enter Tryd.func6, Tryd.ntmps6
  go_wp2_with fail
  obtain ⟨w0, hw0⟩ : ∃ w0, w0 = (((w.alloc (.cells #[.int .i64 an, .int .i64 ad] 23)).alloc (.cells #[.int .i64 bn, .int .i64 bd] 23)).alloc (.cells #[.int .i64 cn, .int .i64 cd] 23)) := ⟨_, rfl⟩
  have E0_0 : Hid (w0.heap[w.heap.size]? = some (.cells #[.int .i64 an, .int .i64 ad] 23 (0, 0))) := by
    show _ = _
    rw [hw0]
    refine heap_alloc_old ?_ _
    refine heap_alloc_old ?_ _
    have := heap_alloc_new w (.cells #[.int .i64 an, .int .i64 ad] 23)
    simpa using this
  have E1_0 : Hid (w0.heap[w.heap.size + 1]? = some (.cells #[.int .i64 bn, .int .i64 bd] 23 (0, 0))) := by
    show _ = _
    rw [hw0]
    refine heap_alloc_old ?_ _
    have := heap_alloc_new (w.alloc (.cells #[.int .i64 an, .int .i64 ad] 23)) (.cells #[.int .i64 bn, .int .i64 bd] 23)
    simpa using this
  have E2_0 : Hid (w0.heap[w.heap.size + 1 + 1]? = some (.cells #[.int .i64 cn, .int .i64 cd] 23 (0, 0))) := by
    show _ = _
    rw [hw0]
    have := heap_alloc_new ((w.alloc (.cells #[.int .i64 an, .int .i64 ad] 23)).alloc (.cells #[.int .i64 bn, .int .i64 bd] 23)) (.cells #[.int .i64 cn, .int .i64 cd] 23)
    simpa using this
  have B0 : Hid (Below w.heap.size w w0) := by
    show Below _ _ _
    rw [hw0]
    exact ((((Below.refl _ _).alloc (Nat.le_refl _) _).alloc (by simp <;> omega) _).alloc (by simp <;> omega) _)
  have HT0 := Lib.hid (Tab.later HT.out (B0.out.mono (Nat.le_refl _)))
  rw [← hw0]
  clear hw0 HT
  refine (alive_any _ (by exact HT0.out)).mono ?_
  rintro e w1 ⟨rfl, hb⟩
  have E0_1 := Lib.hid (below_new hb (E0_0).out)
  have E1_1 := Lib.hid (below_new hb (E1_0).out)
  have E2_1 := Lib.hid (below_new hb (E2_0).out)
  have HT1 := Lib.hid (Tab.later HT0.out hb)
  have B1 := Lib.hid (B0.out.trans (hb.mono B0.out.size))
  clear hb B0 HT0 E0_0 E1_0 E2_0 
  have l0_1 := lt_of_block E0_1.out
  have p0_1 := cell_two0 E0_1.out
  have q0_1 := cell_two1 E0_1.out
  have l1_1 := lt_of_block E1_1.out
  have p1_1 := cell_two0 E1_1.out
  have q1_1 := cell_two1 E1_1.out
  have l2_1 := lt_of_block E2_1.out
  have p2_1 := cell_two0 E2_1.out
  have q2_1 := cell_two1 E2_1.out
  go_wp2_with fail
  refine (fit_yes F.out.1 F.out.2.1 _).mono ?_
  rintro e w2 ⟨rfl, hb⟩
  have E0_2 := Lib.hid (below_new hb (E0_1).out)
  have E1_2 := Lib.hid (below_new hb (E1_1).out)
  have E2_2 := Lib.hid (below_new hb (E2_1).out)
  have HT2 := Lib.hid (Tab.later HT1.out hb)
  have B2 := Lib.hid (B1.out.trans (hb.mono B1.out.size))
  clear hb B1 HT1 E0_1 E1_1 E2_1 l0_1 p0_1 q0_1 l1_1 p1_1 q1_1 l2_1 p2_1 q2_1
  have l0_2 := lt_of_block E0_2.out
  have p0_2 := cell_two0 E0_2.out
  have q0_2 := cell_two1 E0_2.out
  have l1_2 := lt_of_block E1_2.out
  have p1_2 := cell_two0 E1_2.out
  have q1_2 := cell_two1 E1_2.out
  have l2_2 := lt_of_block E2_2.out
  have p2_2 := cell_two0 E2_2.out
  have q2_2 := cell_two1 E2_2.out
  go_wp2_with fail
  refine (fit_yes F.out.2.2 F.out.2.2 _).mono ?_
  rintro e w3 ⟨rfl, hb⟩
  have E0_3 := Lib.hid (below_new hb (E0_2).out)
  have E1_3 := Lib.hid (below_new hb (E1_2).out)
  have E2_3 := Lib.hid (below_new hb (E2_2).out)
  have HT3 := Lib.hid (Tab.later HT2.out hb)
  have B3 := Lib.hid (B2.out.trans (hb.mono B2.out.size))
  clear hb B2 HT2 E0_2 E1_2 E2_2 l0_2 p0_2 q0_2 l1_2 p1_2 q1_2 l2_2 p2_2 q2_2
  have l0_3 := lt_of_block E0_3.out
  have p0_3 := cell_two0 E0_3.out
  have q0_3 := cell_two1 E0_3.out
  have l1_3 := lt_of_block E1_3.out
  have p1_3 := cell_two0 E1_3.out
  have q1_3 := cell_two1 E1_3.out
  have l2_3 := lt_of_block E2_3.out
  have p2_3 := cell_two0 E2_3.out
  have q2_3 := cell_two1 E2_3.out
  go_wp2_with fail
  refine (K1.out _).mono ?_
  rintro e w4 ⟨rfl, hb⟩
  have E0_4 := Lib.hid (below_new hb (E0_3).out)
  have E1_4 := Lib.hid (below_new hb (E1_3).out)
  have E2_4 := Lib.hid (below_new hb (E2_3).out)
  have HT4 := Lib.hid (Tab.later HT3.out hb)
  have B4 := Lib.hid (B3.out.trans (hb.mono B3.out.size))
  clear hb B3 HT3 E0_3 E1_3 E2_3 l0_3 p0_3 q0_3 l1_3 p1_3 q1_3 l2_3 p2_3 q2_3
  have l0_4 := lt_of_block E0_4.out
  have p0_4 := cell_two0 E0_4.out
  have q0_4 := cell_two1 E0_4.out
  have l1_4 := lt_of_block E1_4.out
  have p1_4 := cell_two0 E1_4.out
  have q1_4 := cell_two1 E1_4.out
  have l2_4 := lt_of_block E2_4.out
  have p2_4 := cell_two0 E2_4.out
  have q2_4 := cell_two1 E2_4.out
  go_wp2_with fail
  refine (K2.out _).mono ?_
  rintro e w5 ⟨rfl, hb⟩
  have E0_5 := Lib.hid (below_new hb (heap_alloc_old (E0_4).out _))
  have E1_5 := Lib.hid (below_new hb (heap_alloc_old (E1_4).out _))
  have E2_5 := Lib.hid (below_new hb (heap_alloc_old (E2_4).out _))
  have E3_5 := Lib.hid (below_new hb (heap_alloc_new w4 (.cells #[.int .i64 pn, .int .i64 pd] 23)))
  have HT5 := Lib.hid ((Tab.later HT4.out ((Below.refl _ _).alloc (Nat.le_refl _) (.cells #[.int .i64 pn, .int .i64 pd] 23))).later hb)
  have B5 := Lib.hid ((B4.out.alloc B4.out.size (.cells #[.int .i64 pn, .int .i64 pd] 23)).trans (hb.mono (Nat.le_trans B4.out.size (by simp))))
  clear hb B4 HT4 E0_4 E1_4 E2_4 l0_4 p0_4 q0_4 l1_4 p1_4 q1_4 l2_4 p2_4 q2_4
  have l0_5 := lt_of_block E0_5.out
  have p0_5 := cell_two0 E0_5.out
  have q0_5 := cell_two1 E0_5.out
  have l1_5 := lt_of_block E1_5.out
  have p1_5 := cell_two0 E1_5.out
  have q1_5 := cell_two1 E1_5.out
  have l2_5 := lt_of_block E2_5.out
  have p2_5 := cell_two0 E2_5.out
  have q2_5 := cell_two1 E2_5.out
  have l3_5 := lt_of_block E3_5.out
  have p3_5 := cell_two0 E3_5.out
  have q3_5 := cell_two1 E3_5.out
  go_wp2_with fail
  refine (K3.out _).mono ?_
  rintro e w6 ⟨rfl, hb⟩
  have E0_6 := Lib.hid (below_new hb (heap_alloc_old (E0_5).out _))
  have E1_6 := Lib.hid (below_new hb (heap_alloc_old (E1_5).out _))
  have E2_6 := Lib.hid (below_new hb (heap_alloc_old (E2_5).out _))
  have E3_6 := Lib.hid (below_new hb (heap_alloc_old (E3_5).out _))
  have E4_6 := Lib.hid (below_new hb (heap_alloc_new w5 (.cells #[.int .i64 qn, .int .i64 qd] 23)))
  have HT6 := Lib.hid ((Tab.later HT5.out ((Below.refl _ _).alloc (Nat.le_refl _) (.cells #[.int .i64 qn, .int .i64 qd] 23))).later hb)
  have B6 := Lib.hid ((B5.out.alloc B5.out.size (.cells #[.int .i64 qn, .int .i64 qd] 23)).trans (hb.mono (Nat.le_trans B5.out.size (by simp))))
  clear hb B5 HT5 E0_5 E1_5 E2_5 E3_5 l0_5 p0_5 q0_5 l1_5 p1_5 q1_5 l2_5 p2_5 q2_5 l3_5 p3_5 q3_5
  have l0_6 := lt_of_block E0_6.out
  have p0_6 := cell_two0 E0_6.out
  have q0_6 := cell_two1 E0_6.out
  have l1_6 := lt_of_block E1_6.out
  have p1_6 := cell_two0 E1_6.out
  have q1_6 := cell_two1 E1_6.out
  have l2_6 := lt_of_block E2_6.out
  have p2_6 := cell_two0 E2_6.out
  have q2_6 := cell_two1 E2_6.out
  have l3_6 := lt_of_block E3_6.out
  have p3_6 := cell_two0 E3_6.out
  have q3_6 := cell_two1 E3_6.out
  have l4_6 := lt_of_block E4_6.out
  have p4_6 := cell_two0 E4_6.out
  have q4_6 := cell_two1 E4_6.out
  go_wp2_with fail
  refine (K4.out _).mono ?_
  rintro e w7 ⟨rfl, hb⟩
  have E0_7 := Lib.hid (below_new hb (heap_alloc_old (E0_6).out _))
  have E1_7 := Lib.hid (below_new hb (heap_alloc_old (E1_6).out _))
  have E2_7 := Lib.hid (below_new hb (heap_alloc_old (E2_6).out _))
  have E3_7 := Lib.hid (below_new hb (heap_alloc_old (E3_6).out _))
  have E4_7 := Lib.hid (below_new hb (heap_alloc_old (E4_6).out _))
  have E5_7 := Lib.hid (below_new hb (heap_alloc_new w6 (.cells #[.int .i64 ln, .int .i64 ld] 23)))
  have HT7 := Lib.hid ((Tab.later HT6.out ((Below.refl _ _).alloc (Nat.le_refl _) (.cells #[.int .i64 ln, .int .i64 ld] 23))).later hb)
  have B7 := Lib.hid ((B6.out.alloc B6.out.size (.cells #[.int .i64 ln, .int .i64 ld] 23)).trans (hb.mono (Nat.le_trans B6.out.size (by simp))))
  clear hb B6 HT6 E0_6 E1_6 E2_6 E3_6 E4_6 l0_6 p0_6 q0_6 l1_6 p1_6 q1_6 l2_6 p2_6 q2_6 l3_6 p3_6 q3_6 l4_6 p4_6 q4_6
  have l0_7 := lt_of_block E0_7.out
  have p0_7 := cell_two0 E0_7.out
  have q0_7 := cell_two1 E0_7.out
  have l1_7 := lt_of_block E1_7.out
  have p1_7 := cell_two0 E1_7.out
  have q1_7 := cell_two1 E1_7.out
  have l2_7 := lt_of_block E2_7.out
  have p2_7 := cell_two0 E2_7.out
  have q2_7 := cell_two1 E2_7.out
  have l3_7 := lt_of_block E3_7.out
  have p3_7 := cell_two0 E3_7.out
  have q3_7 := cell_two1 E3_7.out
  have l4_7 := lt_of_block E4_7.out
  have p4_7 := cell_two0 E4_7.out
  have q4_7 := cell_two1 E4_7.out
  have l5_7 := lt_of_block E5_7.out
  have p5_7 := cell_two0 E5_7.out
  have q5_7 := cell_two1 E5_7.out
  go_wp2_with fail
  refine (K5.out _).mono ?_
  rintro e w8 ⟨rfl, hb⟩
  have E0_8 := Lib.hid (below_new hb (heap_alloc_old (E0_7).out _))
  have E1_8 := Lib.hid (below_new hb (heap_alloc_old (E1_7).out _))
  have E2_8 := Lib.hid (below_new hb (heap_alloc_old (E2_7).out _))
  have E3_8 := Lib.hid (below_new hb (heap_alloc_old (E3_7).out _))
  have E4_8 := Lib.hid (below_new hb (heap_alloc_old (E4_7).out _))
  have E5_8 := Lib.hid (below_new hb (heap_alloc_old (E5_7).out _))
  have E6_8 := Lib.hid (below_new hb (heap_alloc_new w7 (.cells #[.int .i64 ln, .int .i64 ld] 23)))
  have HT8 := Lib.hid ((Tab.later HT7.out ((Below.refl _ _).alloc (Nat.le_refl _) (.cells #[.int .i64 ln, .int .i64 ld] 23))).later hb)
  have B8 := Lib.hid ((B7.out.alloc B7.out.size (.cells #[.int .i64 ln, .int .i64 ld] 23)).trans (hb.mono (Nat.le_trans B7.out.size (by simp))))
  clear hb B7 HT7 E0_7 E1_7 E2_7 E3_7 E4_7 E5_7 l0_7 p0_7 q0_7 l1_7 p1_7 q1_7 l2_7 p2_7 q2_7 l3_7 p3_7 q3_7 l4_7 p4_7 q4_7 l5_7 p5_7 q5_7
  have l0_8 := lt_of_block E0_8.out
  have p0_8 := cell_two0 E0_8.out
  have q0_8 := cell_two1 E0_8.out
  have l1_8 := lt_of_block E1_8.out
  have p1_8 := cell_two0 E1_8.out
  have q1_8 := cell_two1 E1_8.out
  have l2_8 := lt_of_block E2_8.out
  have p2_8 := cell_two0 E2_8.out
  have q2_8 := cell_two1 E2_8.out
  have l3_8 := lt_of_block E3_8.out
  have p3_8 := cell_two0 E3_8.out
  have q3_8 := cell_two1 E3_8.out
  have l4_8 := lt_of_block E4_8.out
  have p4_8 := cell_two0 E4_8.out
  have q4_8 := cell_two1 E4_8.out
  have l5_8 := lt_of_block E5_8.out
  have p5_8 := cell_two0 E5_8.out
  have q5_8 := cell_two1 E5_8.out
  have l6_8 := lt_of_block E6_8.out
  have p6_8 := cell_two0 E6_8.out
  have q6_8 := cell_two1 E6_8.out
  go_wp2_with fail
  refine (K6.out _).mono ?_
  rintro e w9 ⟨rfl, hb⟩
  have E0_9 := Lib.hid (below_new hb (heap_alloc_old (E0_8).out _))
  have E1_9 := Lib.hid (below_new hb (heap_alloc_old (E1_8).out _))
  have E2_9 := Lib.hid (below_new hb (heap_alloc_old (E2_8).out _))
  have E3_9 := Lib.hid (below_new hb (heap_alloc_old (E3_8).out _))
  have E4_9 := Lib.hid (below_new hb (heap_alloc_old (E4_8).out _))
  have E5_9 := Lib.hid (below_new hb (heap_alloc_old (E5_8).out _))
  have E6_9 := Lib.hid (below_new hb (heap_alloc_old (E6_8).out _))
  have E7_9 := Lib.hid (below_new hb (heap_alloc_new w8 (.cells #[.int .i64 xn, .int .i64 xd] 23)))
  have HT9 := Lib.hid ((Tab.later HT8.out ((Below.refl _ _).alloc (Nat.le_refl _) (.cells #[.int .i64 xn, .int .i64 xd] 23))).later hb)
  have B9 := Lib.hid ((B8.out.alloc B8.out.size (.cells #[.int .i64 xn, .int .i64 xd] 23)).trans (hb.mono (Nat.le_trans B8.out.size (by simp))))
  clear hb B8 HT8 E0_8 E1_8 E2_8 E3_8 E4_8 E5_8 E6_8 l0_8 p0_8 q0_8 l1_8 p1_8 q1_8 l2_8 p2_8 q2_8 l3_8 p3_8 q3_8 l4_8 p4_8 q4_8 l5_8 p5_8 q5_8 l6_8 p6_8 q6_8
  have l0_9 := lt_of_block E0_9.out
  have p0_9 := cell_two0 E0_9.out
  have q0_9 := cell_two1 E0_9.out
  have l1_9 := lt_of_block E1_9.out
  have p1_9 := cell_two0 E1_9.out
  have q1_9 := cell_two1 E1_9.out
  have l2_9 := lt_of_block E2_9.out
  have p2_9 := cell_two0 E2_9.out
  have q2_9 := cell_two1 E2_9.out
  have l3_9 := lt_of_block E3_9.out
  have p3_9 := cell_two0 E3_9.out
  have q3_9 := cell_two1 E3_9.out
  have l4_9 := lt_of_block E4_9.out
  have p4_9 := cell_two0 E4_9.out
  have q4_9 := cell_two1 E4_9.out
  have l5_9 := lt_of_block E5_9.out
  have p5_9 := cell_two0 E5_9.out
  have q5_9 := cell_two1 E5_9.out
  have l6_9 := lt_of_block E6_9.out
  have p6_9 := cell_two0 E6_9.out
  have q6_9 := cell_two1 E6_9.out
  have l7_9 := lt_of_block E7_9.out
  have p7_9 := cell_two0 E7_9.out
  have q7_9 := cell_two1 E7_9.out
  go_wp2_with fail
  refine (K7.out _).mono ?_
  rintro e w10 ⟨rfl, hb⟩
  have E0_10 := Lib.hid (below_new hb (heap_alloc_old (E0_9).out _))
  have E1_10 := Lib.hid (below_new hb (heap_alloc_old (E1_9).out _))
  have E2_10 := Lib.hid (below_new hb (heap_alloc_old (E2_9).out _))
  have E3_10 := Lib.hid (below_new hb (heap_alloc_old (E3_9).out _))
  have E4_10 := Lib.hid (below_new hb (heap_alloc_old (E4_9).out _))
  have E5_10 := Lib.hid (below_new hb (heap_alloc_old (E5_9).out _))
  have E6_10 := Lib.hid (below_new hb (heap_alloc_old (E6_9).out _))
  have E7_10 := Lib.hid (below_new hb (heap_alloc_old (E7_9).out _))
  have E8_10 := Lib.hid (below_new hb (heap_alloc_new w9 (.cells #[.int .i64 sn, .int .i64 sd] 23)))
  have HT10 := Lib.hid ((Tab.later HT9.out ((Below.refl _ _).alloc (Nat.le_refl _) (.cells #[.int .i64 sn, .int .i64 sd] 23))).later hb)
  have B10 := Lib.hid ((B9.out.alloc B9.out.size (.cells #[.int .i64 sn, .int .i64 sd] 23)).trans (hb.mono (Nat.le_trans B9.out.size (by simp))))
  clear hb B9 HT9 E0_9 E1_9 E2_9 E3_9 E4_9 E5_9 E6_9 E7_9 l0_9 p0_9 q0_9 l1_9 p1_9 q1_9 l2_9 p2_9 q2_9 l3_9 p3_9 q3_9 l4_9 p4_9 q4_9 l5_9 p5_9 q5_9 l6_9 p6_9 q6_9 l7_9 p7_9 q7_9
  have l0_10 := lt_of_block E0_10.out
  have p0_10 := cell_two0 E0_10.out
  have q0_10 := cell_two1 E0_10.out
  have l1_10 := lt_of_block E1_10.out
  have p1_10 := cell_two0 E1_10.out
  have q1_10 := cell_two1 E1_10.out
  have l2_10 := lt_of_block E2_10.out
  have p2_10 := cell_two0 E2_10.out
  have q2_10 := cell_two1 E2_10.out
  have l3_10 := lt_of_block E3_10.out
  have p3_10 := cell_two0 E3_10.out
  have q3_10 := cell_two1 E3_10.out
  have l4_10 := lt_of_block E4_10.out
  have p4_10 := cell_two0 E4_10.out
  have q4_10 := cell_two1 E4_10.out
  have l5_10 := lt_of_block E5_10.out
  have p5_10 := cell_two0 E5_10.out
  have q5_10 := cell_two1 E5_10.out
  have l6_10 := lt_of_block E6_10.out
  have p6_10 := cell_two0 E6_10.out
  have q6_10 := cell_two1 E6_10.out
  have l7_10 := lt_of_block E7_10.out
  have p7_10 := cell_two0 E7_10.out
  have q7_10 := cell_two1 E7_10.out
  have l8_10 := lt_of_block E8_10.out
  have p8_10 := cell_two0 E8_10.out
  have q8_10 := cell_two1 E8_10.out
  go_wp2_with fail
  refine (K8.out _).mono ?_
  rintro e w11 ⟨rfl, hb⟩
  have E0_11 := Lib.hid (below_new hb (heap_alloc_old (E0_10).out _))
  have E1_11 := Lib.hid (below_new hb (heap_alloc_old (E1_10).out _))
  have E2_11 := Lib.hid (below_new hb (heap_alloc_old (E2_10).out _))
  have E3_11 := Lib.hid (below_new hb (heap_alloc_old (E3_10).out _))
  have E4_11 := Lib.hid (below_new hb (heap_alloc_old (E4_10).out _))
  have E5_11 := Lib.hid (below_new hb (heap_alloc_old (E5_10).out _))
  have E6_11 := Lib.hid (below_new hb (heap_alloc_old (E6_10).out _))
  have E7_11 := Lib.hid (below_new hb (heap_alloc_old (E7_10).out _))
  have E8_11 := Lib.hid (below_new hb (heap_alloc_old (E8_10).out _))
  have E9_11 := Lib.hid (below_new hb (heap_alloc_new w10 (.cells #[.int .i64 tn, .int .i64 td] 23)))
  have HT11 := Lib.hid ((Tab.later HT10.out ((Below.refl _ _).alloc (Nat.le_refl _) (.cells #[.int .i64 tn, .int .i64 td] 23))).later hb)
  have B11 := Lib.hid ((B10.out.alloc B10.out.size (.cells #[.int .i64 tn, .int .i64 td] 23)).trans (hb.mono (Nat.le_trans B10.out.size (by simp))))
  clear hb B10 HT10 E0_10 E1_10 E2_10 E3_10 E4_10 E5_10 E6_10 E7_10 E8_10 l0_10 p0_10 q0_10 l1_10 p1_10 q1_10 l2_10 p2_10 q2_10 l3_10 p3_10 q3_10 l4_10 p4_10 q4_10 l5_10 p5_10 q5_10 l6_10 p6_10 q6_10 l7_10 p7_10 q7_10 l8_10 p8_10 q8_10
  have l0_11 := lt_of_block E0_11.out
  have p0_11 := cell_two0 E0_11.out
  have q0_11 := cell_two1 E0_11.out
  have l1_11 := lt_of_block E1_11.out
  have p1_11 := cell_two0 E1_11.out
  have q1_11 := cell_two1 E1_11.out
  have l2_11 := lt_of_block E2_11.out
  have p2_11 := cell_two0 E2_11.out
  have q2_11 := cell_two1 E2_11.out
  have l3_11 := lt_of_block E3_11.out
  have p3_11 := cell_two0 E3_11.out
  have q3_11 := cell_two1 E3_11.out
  have l4_11 := lt_of_block E4_11.out
  have p4_11 := cell_two0 E4_11.out
  have q4_11 := cell_two1 E4_11.out
  have l5_11 := lt_of_block E5_11.out
  have p5_11 := cell_two0 E5_11.out
  have q5_11 := cell_two1 E5_11.out
  have l6_11 := lt_of_block E6_11.out
  have p6_11 := cell_two0 E6_11.out
  have q6_11 := cell_two1 E6_11.out
  have l7_11 := lt_of_block E7_11.out
  have p7_11 := cell_two0 E7_11.out
  have q7_11 := cell_two1 E7_11.out
  have l8_11 := lt_of_block E8_11.out
  have p8_11 := cell_two0 E8_11.out
  have q8_11 := cell_two1 E8_11.out
  have l9_11 := lt_of_block E9_11.out
  have p9_11 := cell_two0 E9_11.out
  have q9_11 := cell_two1 E9_11.out
  go_wp2_with fail
  go_ret
  exact ⟨rfl, (B11.out.alloc B11.out.size _)⟩

end Go.Proofs.YtchjkjhkmhkjeaaDoor
