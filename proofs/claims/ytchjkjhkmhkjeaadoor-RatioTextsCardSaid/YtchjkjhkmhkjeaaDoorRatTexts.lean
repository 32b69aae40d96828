/-
  Walks of RatioTexts.
-/
import Derived.Test.YtchjkjhkmhkjeaaDoorRatBack
import Derived.Test.YtchjkjhkmhkjeaaDoorRatRefMake
import Derived.Test.YtchjkjhkmhkjeaaDoorRatRefText
import Derived.Test.YtchjkjhkmhkjeaaDoorRatRefParseSpec
namespace Go.Proofs.YtchjkjhkmhkjeaaDoor
open Go.RowKit
open RM
set_option linter.unusedVariables false
set_option linter.unusedSimpArgs false

set_option maxHeartbeats 1000000 in
theorem texts_long (num den an ad : Int) (s : ByteArray) (hs : (200 : Int) < (s.size : Int)) (w : World) (ht : Tab w) :
    Calls Tryd.prog 3 #[.int .i64 num, .int .i64 den, .agg #[.int .i64 an, .int .i64 ad], .string s] w fun e w' => e = .returned (.bool true) ∧ Below w.heap.size w w' := by
  have HT := Lib.hid ht
  clear ht
  go_enter Tryd.func3, Tryd.ntmps3
  go_wp2_with fail
  obtain ⟨w0, hw0⟩ : ∃ w0, w0 = (w.alloc (.cells #[.int .i64 an, .int .i64 ad] 23)) := ⟨_, rfl⟩
  have E0_0 : Hid (w0.heap[w.heap.size]? = some (.cells #[.int .i64 an, .int .i64 ad] 23 (0, 0))) := by
    show _ = _
    rw [hw0]
    have := heap_alloc_new w (.cells #[.int .i64 an, .int .i64 ad] 23)
    simpa using this
  have B0 : Hid (Below w.heap.size w w0) := by
    show Below _ _ _
    rw [hw0]
    exact ((Below.refl _ _).alloc (Nat.le_refl _) _)
  have HT0 := Lib.hid (Tab.later HT.out (B0.out.mono (Nat.le_refl _)))
  rw [← hw0]
  clear hw0 HT
  go_wp2_with fail
  go_ret
  exact ⟨rfl, B0.out⟩

set_option maxHeartbeats 2000000 in
theorem texts_main (num den an ad bn bd e1 e2 pn pd e3 : Int) (s x : ByteArray) (hs : ¬ (200 : Int) < (s.size : Int)) (w : World) (ht : Tab w) (hl : Len w)
    (h1 : (∀ w, Calls Tryd.prog 10 #[.int .i64 num, .int .i64 den] w fun e w' => e = .returned (.tuple #[.agg #[.int .i64 bn, .int .i64 bd], .int .i64 e1]) ∧ Below w.heap.size w w'))
    (h2 : (∀ w, Calls Tryd.prog 11 #[.int .i64 num, .int .i64 den] w fun e w' => e = .returned (.tuple #[.agg #[.int .i64 bn, .int .i64 bd], .int .i64 e1]) ∧ Below w.heap.size w w'))
    (h3 : (∀ w, Tab w → Calls Tryd.prog 12 #[.agg #[.int .i64 an, .int .i64 ad]] w fun e w' => e = .returned (.tuple #[.string x, .int .i64 e2]) ∧ Below w.heap.size w w'))
    (h4 : (∀ w, Calls Tryd.prog 13 #[.agg #[.int .i64 an, .int .i64 ad]] w fun e w' => e = .returned (.tuple #[.string x, .int .i64 e2]) ∧ Below w.heap.size w w'))
    (h5 : (∀ w, Tab w → Len w → Calls Tryd.prog 14 #[.string s] w fun e w' => e = .returned (.tuple #[.agg #[.int .i64 pn, .int .i64 pd], .int .i64 e3]) ∧ Below w.heap.size w w'))
    (h6 : (∀ w, Calls Tryd.prog 15 #[.string s] w fun e w' => e = .returned (.tuple #[.agg #[.int .i64 pn, .int .i64 pd], .int .i64 e3]) ∧ Below w.heap.size w w')) :
    Calls Tryd.prog 3 #[.int .i64 num, .int .i64 den, .agg #[.int .i64 an, .int .i64 ad], .string s] w fun e w' => e = .returned (.bool true) ∧ Below w.heap.size w w' := by
  have K1 := Lib.hid h1
  have K2 := Lib.hid h2
  have K3 := Lib.hid h3
  have K4 := Lib.hid h4
  have K5 := Lib.hid h5
  have K6 := Lib.hid h6
  have HL := Lib.hid hl
  clear hl h1 h2 h3 h4 h5 h6
  have HT := Lib.hid ht
  clear ht
  go_enter Tryd.func3, Tryd.ntmps3
  go_wp2_with fail
  obtain ⟨w0, hw0⟩ : ∃ w0, w0 = (w.alloc (.cells #[.int .i64 an, .int .i64 ad] 23)) := ⟨_, rfl⟩
  have E0_0 : Hid (w0.heap[w.heap.size]? = some (.cells #[.int .i64 an, .int .i64 ad] 23 (0, 0))) := by
    show _ = _
    rw [hw0]
    have := heap_alloc_new w (.cells #[.int .i64 an, .int .i64 ad] 23)
    simpa using this
  have B0 : Hid (Below w.heap.size w w0) := by
    show Below _ _ _
    rw [hw0]
    exact ((Below.refl _ _).alloc (Nat.le_refl _) _)
  have HT0 := Lib.hid (Tab.later HT.out (B0.out.mono (Nat.le_refl _)))
  rw [← hw0]
  clear hw0 HT
  refine (K1.out _).mono ?_
  rintro e w1 ⟨rfl, hb⟩
  have E0_1 := Lib.hid (below_new hb (E0_0).out)
  have HT1 := Lib.hid (Tab.later HT0.out hb)
  have B1 := Lib.hid (B0.out.trans (hb.mono B0.out.size))
  clear hb B0 HT0 E0_0 
  have l0_1 := lt_of_block E0_1.out
  have p0_1 := cell_two0 E0_1.out
  have q0_1 := cell_two1 E0_1.out
  go_wp2_with fail
  refine (K2.out _).mono ?_
  rintro e w2 ⟨rfl, hb⟩
  have E0_2 := Lib.hid (below_new hb (heap_alloc_old (E0_1).out _))
  have E1_2 := Lib.hid (below_new hb (heap_alloc_new w1 (.cells #[.int .i64 bn, .int .i64 bd] 23)))
  have HT2 := Lib.hid ((Tab.later HT1.out ((Below.refl _ _).alloc (Nat.le_refl _) (.cells #[.int .i64 bn, .int .i64 bd] 23))).later hb)
  have B2 := Lib.hid ((B1.out.alloc B1.out.size (.cells #[.int .i64 bn, .int .i64 bd] 23)).trans (hb.mono (Nat.le_trans B1.out.size (by simp))))
  clear hb B1 HT1 E0_1 l0_1 p0_1 q0_1
  have l0_2 := lt_of_block E0_2.out
  have p0_2 := cell_two0 E0_2.out
  have q0_2 := cell_two1 E0_2.out
  go_wp2_with fail
  refine (K3.out _ (by exact (Tab.later HT2.out ((Below.refl _ _).alloc (Nat.le_refl _) _)))).mono ?_
  rintro e w3 ⟨rfl, hb⟩
  have E0_3 := Lib.hid (below_new hb (heap_alloc_old (E0_2).out _))
  have E1_3 := Lib.hid (below_new hb (heap_alloc_old (E1_2).out _))
  have E2_3 := Lib.hid (below_new hb (heap_alloc_new w2 (.cells #[.int .i64 bn, .int .i64 bd] 23)))
  have HT3 := Lib.hid ((Tab.later HT2.out ((Below.refl _ _).alloc (Nat.le_refl _) (.cells #[.int .i64 bn, .int .i64 bd] 23))).later hb)
  have B3 := Lib.hid ((B2.out.alloc B2.out.size (.cells #[.int .i64 bn, .int .i64 bd] 23)).trans (hb.mono (Nat.le_trans B2.out.size (by simp))))
  clear hb B2 HT2 E0_2 E1_2 l0_2 p0_2 q0_2
  have l0_3 := lt_of_block E0_3.out
  have p0_3 := cell_two0 E0_3.out
  have q0_3 := cell_two1 E0_3.out
  go_wp2_with fail
  refine (K4.out _).mono ?_
  rintro e w4 ⟨rfl, hb⟩
  have E0_4 := Lib.hid (below_new hb (E0_3).out)
  have E1_4 := Lib.hid (below_new hb (E1_3).out)
  have E2_4 := Lib.hid (below_new hb (E2_3).out)
  have HT4 := Lib.hid (Tab.later HT3.out hb)
  have B4 := Lib.hid (B3.out.trans (hb.mono B3.out.size))
  clear hb B3 HT3 E0_3 E1_3 E2_3 l0_3 p0_3 q0_3
  go_wp2_with fail
  refine (K5.out _ (by exact HT4.out) (HL.out.later B4.out)).mono ?_
  rintro e w5 ⟨rfl, hb⟩
  have E0_5 := Lib.hid (below_new hb (E0_4).out)
  have E1_5 := Lib.hid (below_new hb (E1_4).out)
  have E2_5 := Lib.hid (below_new hb (E2_4).out)
  have HT5 := Lib.hid (Tab.later HT4.out hb)
  have B5 := Lib.hid (B4.out.trans (hb.mono B4.out.size))
  clear hb B4 HT4 E0_4 E1_4 E2_4 
  go_wp2_with fail
  refine (K6.out _).mono ?_
  rintro e w6 ⟨rfl, hb⟩
  have E0_6 := Lib.hid (below_new hb (heap_alloc_old (E0_5).out _))
  have E1_6 := Lib.hid (below_new hb (heap_alloc_old (E1_5).out _))
  have E2_6 := Lib.hid (below_new hb (heap_alloc_old (E2_5).out _))
  have E3_6 := Lib.hid (below_new hb (heap_alloc_new w5 (.cells #[.int .i64 pn, .int .i64 pd] 23)))
  have HT6 := Lib.hid ((Tab.later HT5.out ((Below.refl _ _).alloc (Nat.le_refl _) (.cells #[.int .i64 pn, .int .i64 pd] 23))).later hb)
  have B6 := Lib.hid ((B5.out.alloc B5.out.size (.cells #[.int .i64 pn, .int .i64 pd] 23)).trans (hb.mono (Nat.le_trans B5.out.size (by simp))))
  clear hb B5 HT5 E0_5 E1_5 E2_5 
  have l0_6 := lt_of_block E0_6.out
  have p0_6 := cell_two0 E0_6.out
  have q0_6 := cell_two1 E0_6.out
  have l1_6 := lt_of_block E1_6.out
  have p1_6 := cell_two0 E1_6.out
  have q1_6 := cell_two1 E1_6.out
  have l2_6 := lt_of_block E2_6.out
  have p2_6 := cell_two0 E2_6.out
  have q2_6 := cell_two1 E2_6.out
  have l3_6 := lt_of_block E3_6.out
  have p3_6 := cell_two0 E3_6.out
  have q3_6 := cell_two1 E3_6.out
  go_wp2_with fail
  go_ret
  exact ⟨rfl, (B6.out.alloc B6.out.size _)⟩

end Go.Proofs.YtchjkjhkmhkjeaaDoor
