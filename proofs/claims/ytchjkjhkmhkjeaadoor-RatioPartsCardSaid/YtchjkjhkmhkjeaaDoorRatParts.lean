/-
  Walks of RatioParts.
-/
import Derived.Test.YtchjkjhkmhkjeaaDoorRatSum
import Derived.Test.YtchjkjhkmhkjeaaDoorRatFit
import Derived.Test.YtchjkjhkmhkjeaaDoorRatAlive
namespace Go.Proofs.YtchjkjhkmhkjeaaDoor
open Go.RowKit
open RM
set_option linter.unusedVariables false
set_option linter.unusedSimpArgs false

set_option maxHeartbeats 4000000 in
theorem parts_lt_e (b off n cap k : Nat) (rs : List (Int × Int)) (sn sd an ad bn bd cn cd ee ff gg hh : Int) (hk : k ≤ n) (hn : n ≤ 200) (hcap : n ≤ cap) (hlt : k < cap) (nee : (ee == 0) = false) (w : World) (ht : Tab w)
    (hs : Elems w (.slice (some ⟨b, off, none⟩) n cap) rs) (ha : Elems w (.slice (some ⟨b, off, none⟩) k cap) (rs.take k)) (hb0 : Elems w (.slice (some ⟨b, off + k * 2, none⟩) (n - k) (cap - k)) (rs.drop k))
    (h1 : ∀ sv w, Elems w sv rs → Calls Tryd.prog 19 #[sv] w fun e w' => e = .returned (.tuple #[.agg #[.int .i64 sn, .int .i64 sd], .int .i64 ee]) ∧ Below w.heap.size w w')
    (h2 : ∀ sv w, Elems w sv (rs.take k) → Calls Tryd.prog 19 #[sv] w fun e w' => e = .returned (.tuple #[.agg #[.int .i64 an, .int .i64 ad], .int .i64 ff]) ∧ Below w.heap.size w w')
    (h3 : ∀ sv w, Elems w sv (rs.drop k) → Calls Tryd.prog 19 #[sv] w fun e w' => e = .returned (.tuple #[.agg #[.int .i64 bn, .int .i64 bd], .int .i64 gg]) ∧ Below w.heap.size w w')
    (h4 : ∀ w, Calls Tryd.prog 18 #[.agg #[.int .i64 an, .int .i64 ad], .agg #[.int .i64 bn, .int .i64 bd]] w fun e w' => e = .returned (.tuple #[.agg #[.int .i64 cn, .int .i64 cd], .int .i64 hh]) ∧ Below w.heap.size w w') :
    Calls Tryd.prog 9 #[.slice (some ⟨b, off, none⟩) n cap, .int .i64 k] w fun e w' => e = .returned (.bool true) ∧ Below w.heap.size w w' := by
  have mee : (ee != 0) = true := by rw [bne_iff_ne]; exact beq_eq_false_iff_ne.1 nee
  have HS := Lib.hid hs
  have HA := Lib.hid ha
  have HB := Lib.hid hb0
  have K1 := Lib.hid h1
  have K2 := Lib.hid h2
  have K3 := Lib.hid h3
  have K4 := Lib.hid h4
  clear hs ha hb0 h1 h2 h3 h4
  have c1 : ¬ (200 : Int) < (n : Int) := by omega
  have c2 : ¬ (k : Int) < 0 := by omega
  have c3 : ¬ (n : Int) < (k : Int) := by omega
  have c4 : (k : Int) ≤ (cap : Int) := by omega
  have c5 : k ≤ cap := by omega
  have c6 : ¬ cap - k = 0 := by omega
  have c7 : ¬ cap ≤ k := by omega
  have c8 : (cap - k == 0) = false := by rw [beq_eq_false_iff_ne]; omega
  have HT := Lib.hid ht
  clear ht
  go_enter Tryd.func9, Tryd.ntmps9
  go_wp2_with fail
  obtain ⟨w0, hw0⟩ : ∃ w0, w0 = w := ⟨_, rfl⟩
  have B0 : Hid (Below w.heap.size w w0) := by
    show Below _ _ _
    rw [hw0]
    exact (Below.refl _ _)
  have HT0 := Lib.hid (Tab.later HT.out (B0.out.mono (Nat.le_refl _)))
  rw [← hw0]
  clear hw0 HT
  refine (alive_any _ (by exact HT0.out)).mono ?_
  rintro e w1 ⟨rfl, hb⟩
  have HT1 := Lib.hid (Tab.later HT0.out hb)
  have B1 := Lib.hid (B0.out.trans (hb.mono B0.out.size))
  clear hb B0 HT0  
  go_wp2_with fail
  refine (K1.out _ _ (HS.out.later B1.out)).mono ?_
  rintro e w2 ⟨rfl, hb⟩
  have HT2 := Lib.hid (Tab.later HT1.out hb)
  have B2 := Lib.hid (B1.out.trans (hb.mono B1.out.size))
  clear hb B1 HT1  
  go_wp2_with fail
  refine (K2.out _ _ (HA.out.later (B2.out.alloc B2.out.size _))).mono ?_
  rintro e w3 ⟨rfl, hb⟩
  have E0_3 := Lib.hid (below_new hb (heap_alloc_new w2 (.cells #[.int .i64 sn, .int .i64 sd] 23)))
  have HT3 := Lib.hid ((Tab.later HT2.out ((Below.refl _ _).alloc (Nat.le_refl _) (.cells #[.int .i64 sn, .int .i64 sd] 23))).later hb)
  have B3 := Lib.hid ((B2.out.alloc B2.out.size (.cells #[.int .i64 sn, .int .i64 sd] 23)).trans (hb.mono (Nat.le_trans B2.out.size (by simp))))
  clear hb B2 HT2  
  have l0_3 := lt_of_block E0_3.out
  have p0_3 := cell_two0 E0_3.out
  have q0_3 := cell_two1 E0_3.out
  go_wp2_with fail
  refine (K3.out _ _ (HB.out.later (B3.out.alloc B3.out.size _))).mono ?_
  rintro e w4 ⟨rfl, hb⟩
  have E0_4 := Lib.hid (below_new hb (heap_alloc_old (E0_3).out _))
  have E1_4 := Lib.hid (below_new hb (heap_alloc_new w3 (.cells #[.int .i64 an, .int .i64 ad] 23)))
  have HT4 := Lib.hid ((Tab.later HT3.out ((Below.refl _ _).alloc (Nat.le_refl _) (.cells #[.int .i64 an, .int .i64 ad] 23))).later hb)
  have B4 := Lib.hid ((B3.out.alloc B3.out.size (.cells #[.int .i64 an, .int .i64 ad] 23)).trans (hb.mono (Nat.le_trans B3.out.size (by simp))))
  clear hb B3 HT3 E0_3 l0_3 p0_3 q0_3
  have l0_4 := lt_of_block E0_4.out
  have p0_4 := cell_two0 E0_4.out
  have q0_4 := cell_two1 E0_4.out
  have l1_4 := lt_of_block E1_4.out
  have p1_4 := cell_two0 E1_4.out
  have q1_4 := cell_two1 E1_4.out
  have e4 := heap_alloc_new w4 (.cells #[.int .i64 bn, .int .i64 bd] 23)
  have p4 := cell_two0 e4
  have q4 := cell_two1 e4
  clear e4
  go_wp2_with fail
  refine (K4.out _).mono ?_
  rintro e w5 ⟨rfl, hb⟩
  have E0_5 := Lib.hid (below_new hb (heap_alloc_old (E0_4).out _))
  have E1_5 := Lib.hid (below_new hb (heap_alloc_old (E1_4).out _))
  have E2_5 := Lib.hid (below_new hb (heap_alloc_new w4 (.cells #[.int .i64 bn, .int .i64 bd] 23)))
  have HT5 := Lib.hid ((Tab.later HT4.out ((Below.refl _ _).alloc (Nat.le_refl _) (.cells #[.int .i64 bn, .int .i64 bd] 23))).later hb)
  have B5 := Lib.hid ((B4.out.alloc B4.out.size (.cells #[.int .i64 bn, .int .i64 bd] 23)).trans (hb.mono (Nat.le_trans B4.out.size (by simp))))
  clear hb B4 HT4 E0_4 E1_4 l0_4 p0_4 q0_4 l1_4 p1_4 q1_4 p4 q4
  have l0_5 := lt_of_block E0_5.out
  have p0_5 := cell_two0 E0_5.out
  have q0_5 := cell_two1 E0_5.out
  have l1_5 := lt_of_block E1_5.out
  have p1_5 := cell_two0 E1_5.out
  have q1_5 := cell_two1 E1_5.out
  have l2_5 := lt_of_block E2_5.out
  have p2_5 := cell_two0 E2_5.out
  have q2_5 := cell_two1 E2_5.out
  go_wp2_with fail
  go_ret
  exact ⟨rfl, (B5.out.alloc B5.out.size _)⟩

set_option maxHeartbeats 4000000 in
theorem parts_lt_g (b off n cap k : Nat) (rs : List (Int × Int)) (sn sd an ad bn bd cn cd ee ff gg hh : Int) (hk : k ≤ n) (hn : n ≤ 200) (hcap : n ≤ cap) (hlt : k < cap) (ngg : (gg == 0) = false) (w : World) (ht : Tab w)
    (hs : Elems w (.slice (some ⟨b, off, none⟩) n cap) rs) (ha : Elems w (.slice (some ⟨b, off, none⟩) k cap) (rs.take k)) (hb0 : Elems w (.slice (some ⟨b, off + k * 2, none⟩) (n - k) (cap - k)) (rs.drop k))
    (h1 : ∀ sv w, Elems w sv rs → Calls Tryd.prog 19 #[sv] w fun e w' => e = .returned (.tuple #[.agg #[.int .i64 sn, .int .i64 sd], .int .i64 0]) ∧ Below w.heap.size w w')
    (h2 : ∀ sv w, Elems w sv (rs.take k) → Calls Tryd.prog 19 #[sv] w fun e w' => e = .returned (.tuple #[.agg #[.int .i64 an, .int .i64 ad], .int .i64 0]) ∧ Below w.heap.size w w')
    (h3 : ∀ sv w, Elems w sv (rs.drop k) → Calls Tryd.prog 19 #[sv] w fun e w' => e = .returned (.tuple #[.agg #[.int .i64 bn, .int .i64 bd], .int .i64 gg]) ∧ Below w.heap.size w w')
    (h4 : ∀ w, Calls Tryd.prog 18 #[.agg #[.int .i64 an, .int .i64 ad], .agg #[.int .i64 bn, .int .i64 bd]] w fun e w' => e = .returned (.tuple #[.agg #[.int .i64 cn, .int .i64 cd], .int .i64 hh]) ∧ Below w.heap.size w w') :
    Calls Tryd.prog 9 #[.slice (some ⟨b, off, none⟩) n cap, .int .i64 k] w fun e w' => e = .returned (.bool true) ∧ Below w.heap.size w w' := by
  have mgg : (gg != 0) = true := by rw [bne_iff_ne]; exact beq_eq_false_iff_ne.1 ngg
  have HS := Lib.hid hs
  have HA := Lib.hid ha
  have HB := Lib.hid hb0
  have K1 := Lib.hid h1
  have K2 := Lib.hid h2
  have K3 := Lib.hid h3
  have K4 := Lib.hid h4
  clear hs ha hb0 h1 h2 h3 h4
  have c1 : ¬ (200 : Int) < (n : Int) := by omega
  have c2 : ¬ (k : Int) < 0 := by omega
  have c3 : ¬ (n : Int) < (k : Int) := by omega
  have c4 : (k : Int) ≤ (cap : Int) := by omega
  have c5 : k ≤ cap := by omega
  have c6 : ¬ cap - k = 0 := by omega
  have c7 : ¬ cap ≤ k := by omega
  have c8 : (cap - k == 0) = false := by rw [beq_eq_false_iff_ne]; omega
  have HT := Lib.hid ht
  clear ht
  go_enter Tryd.func9, Tryd.ntmps9
  go_wp2_with fail
  obtain ⟨w0, hw0⟩ : ∃ w0, w0 = w := ⟨_, rfl⟩
  have B0 : Hid (Below w.heap.size w w0) := by
    show Below _ _ _
    rw [hw0]
    exact (Below.refl _ _)
  have HT0 := Lib.hid (Tab.later HT.out (B0.out.mono (Nat.le_refl _)))
  rw [← hw0]
  clear hw0 HT
  refine (alive_any _ (by exact HT0.out)).mono ?_
  rintro e w1 ⟨rfl, hb⟩
  have HT1 := Lib.hid (Tab.later HT0.out hb)
  have B1 := Lib.hid (B0.out.trans (hb.mono B0.out.size))
  clear hb B0 HT0  
  go_wp2_with fail
  refine (K1.out _ _ (HS.out.later B1.out)).mono ?_
  rintro e w2 ⟨rfl, hb⟩
  have HT2 := Lib.hid (Tab.later HT1.out hb)
  have B2 := Lib.hid (B1.out.trans (hb.mono B1.out.size))
  clear hb B1 HT1  
  go_wp2_with fail
  refine (K2.out _ _ (HA.out.later (B2.out.alloc B2.out.size _))).mono ?_
  rintro e w3 ⟨rfl, hb⟩
  have E0_3 := Lib.hid (below_new hb (heap_alloc_new w2 (.cells #[.int .i64 sn, .int .i64 sd] 23)))
  have HT3 := Lib.hid ((Tab.later HT2.out ((Below.refl _ _).alloc (Nat.le_refl _) (.cells #[.int .i64 sn, .int .i64 sd] 23))).later hb)
  have B3 := Lib.hid ((B2.out.alloc B2.out.size (.cells #[.int .i64 sn, .int .i64 sd] 23)).trans (hb.mono (Nat.le_trans B2.out.size (by simp))))
  clear hb B2 HT2  
  have l0_3 := lt_of_block E0_3.out
  have p0_3 := cell_two0 E0_3.out
  have q0_3 := cell_two1 E0_3.out
  go_wp2_with fail
  refine (K3.out _ _ (HB.out.later (B3.out.alloc B3.out.size _))).mono ?_
  rintro e w4 ⟨rfl, hb⟩
  have E0_4 := Lib.hid (below_new hb (heap_alloc_old (E0_3).out _))
  have E1_4 := Lib.hid (below_new hb (heap_alloc_new w3 (.cells #[.int .i64 an, .int .i64 ad] 23)))
  have HT4 := Lib.hid ((Tab.later HT3.out ((Below.refl _ _).alloc (Nat.le_refl _) (.cells #[.int .i64 an, .int .i64 ad] 23))).later hb)
  have B4 := Lib.hid ((B3.out.alloc B3.out.size (.cells #[.int .i64 an, .int .i64 ad] 23)).trans (hb.mono (Nat.le_trans B3.out.size (by simp))))
  clear hb B3 HT3 E0_3 l0_3 p0_3 q0_3
  have l0_4 := lt_of_block E0_4.out
  have p0_4 := cell_two0 E0_4.out
  have q0_4 := cell_two1 E0_4.out
  have l1_4 := lt_of_block E1_4.out
  have p1_4 := cell_two0 E1_4.out
  have q1_4 := cell_two1 E1_4.out
  have e4 := heap_alloc_new w4 (.cells #[.int .i64 bn, .int .i64 bd] 23)
  have p4 := cell_two0 e4
  have q4 := cell_two1 e4
  clear e4
  go_wp2_with fail
  refine (K4.out _).mono ?_
  rintro e w5 ⟨rfl, hb⟩
  have E0_5 := Lib.hid (below_new hb (heap_alloc_old (E0_4).out _))
  have E1_5 := Lib.hid (below_new hb (heap_alloc_old (E1_4).out _))
  have E2_5 := Lib.hid (below_new hb (heap_alloc_new w4 (.cells #[.int .i64 bn, .int .i64 bd] 23)))
  have HT5 := Lib.hid ((Tab.later HT4.out ((Below.refl _ _).alloc (Nat.le_refl _) (.cells #[.int .i64 bn, .int .i64 bd] 23))).later hb)
  have B5 := Lib.hid ((B4.out.alloc B4.out.size (.cells #[.int .i64 bn, .int .i64 bd] 23)).trans (hb.mono (Nat.le_trans B4.out.size (by simp))))
  clear hb B4 HT4 E0_4 E1_4 l0_4 p0_4 q0_4 l1_4 p1_4 q1_4 p4 q4
  have l0_5 := lt_of_block E0_5.out
  have p0_5 := cell_two0 E0_5.out
  have q0_5 := cell_two1 E0_5.out
  have l1_5 := lt_of_block E1_5.out
  have p1_5 := cell_two0 E1_5.out
  have q1_5 := cell_two1 E1_5.out
  have l2_5 := lt_of_block E2_5.out
  have p2_5 := cell_two0 E2_5.out
  have q2_5 := cell_two1 E2_5.out
  go_wp2_with fail
  go_ret
  exact ⟨rfl, (B5.out.alloc B5.out.size _)⟩

set_option maxHeartbeats 4000000 in
theorem parts_lt_h (b off n cap k : Nat) (rs : List (Int × Int)) (sn sd an ad bn bd cn cd ee ff gg hh : Int) (hk : k ≤ n) (hn : n ≤ 200) (hcap : n ≤ cap) (hlt : k < cap) (nhh : (hh == 0) = false) (w : World) (ht : Tab w)
    (hs : Elems w (.slice (some ⟨b, off, none⟩) n cap) rs) (ha : Elems w (.slice (some ⟨b, off, none⟩) k cap) (rs.take k)) (hb0 : Elems w (.slice (some ⟨b, off + k * 2, none⟩) (n - k) (cap - k)) (rs.drop k))
    (h1 : ∀ sv w, Elems w sv rs → Calls Tryd.prog 19 #[sv] w fun e w' => e = .returned (.tuple #[.agg #[.int .i64 sn, .int .i64 sd], .int .i64 0]) ∧ Below w.heap.size w w')
    (h2 : ∀ sv w, Elems w sv (rs.take k) → Calls Tryd.prog 19 #[sv] w fun e w' => e = .returned (.tuple #[.agg #[.int .i64 an, .int .i64 ad], .int .i64 0]) ∧ Below w.heap.size w w')
    (h3 : ∀ sv w, Elems w sv (rs.drop k) → Calls Tryd.prog 19 #[sv] w fun e w' => e = .returned (.tuple #[.agg #[.int .i64 bn, .int .i64 bd], .int .i64 0]) ∧ Below w.heap.size w w')
    (h4 : ∀ w, Calls Tryd.prog 18 #[.agg #[.int .i64 an, .int .i64 ad], .agg #[.int .i64 bn, .int .i64 bd]] w fun e w' => e = .returned (.tuple #[.agg #[.int .i64 cn, .int .i64 cd], .int .i64 hh]) ∧ Below w.heap.size w w') :
    Calls Tryd.prog 9 #[.slice (some ⟨b, off, none⟩) n cap, .int .i64 k] w fun e w' => e = .returned (.bool true) ∧ Below w.heap.size w w' := by
  have mhh : (hh != 0) = true := by rw [bne_iff_ne]; exact beq_eq_false_iff_ne.1 nhh
  have HS := Lib.hid hs
  have HA := Lib.hid ha
  have HB := Lib.hid hb0
  have K1 := Lib.hid h1
  have K2 := Lib.hid h2
  have K3 := Lib.hid h3
  have K4 := Lib.hid h4
  clear hs ha hb0 h1 h2 h3 h4
  have c1 : ¬ (200 : Int) < (n : Int) := by omega
  have c2 : ¬ (k : Int) < 0 := by omega
  have c3 : ¬ (n : Int) < (k : Int) := by omega
  have c4 : (k : Int) ≤ (cap : Int) := by omega
  have c5 : k ≤ cap := by omega
  have c6 : ¬ cap - k = 0 := by omega
  have c7 : ¬ cap ≤ k := by omega
  have c8 : (cap - k == 0) = false := by rw [beq_eq_false_iff_ne]; omega
  have HT := Lib.hid ht
  clear ht
  go_enter Tryd.func9, Tryd.ntmps9
  go_wp2_with fail
  obtain ⟨w0, hw0⟩ : ∃ w0, w0 = w := ⟨_, rfl⟩
  have B0 : Hid (Below w.heap.size w w0) := by
    show Below _ _ _
    rw [hw0]
    exact (Below.refl _ _)
  have HT0 := Lib.hid (Tab.later HT.out (B0.out.mono (Nat.le_refl _)))
  rw [← hw0]
  clear hw0 HT
  refine (alive_any _ (by exact HT0.out)).mono ?_
  rintro e w1 ⟨rfl, hb⟩
  have HT1 := Lib.hid (Tab.later HT0.out hb)
  have B1 := Lib.hid (B0.out.trans (hb.mono B0.out.size))
  clear hb B0 HT0  
  go_wp2_with fail
  refine (K1.out _ _ (HS.out.later B1.out)).mono ?_
  rintro e w2 ⟨rfl, hb⟩
  have HT2 := Lib.hid (Tab.later HT1.out hb)
  have B2 := Lib.hid (B1.out.trans (hb.mono B1.out.size))
  clear hb B1 HT1  
  go_wp2_with fail
  refine (K2.out _ _ (HA.out.later (B2.out.alloc B2.out.size _))).mono ?_
  rintro e w3 ⟨rfl, hb⟩
  have E0_3 := Lib.hid (below_new hb (heap_alloc_new w2 (.cells #[.int .i64 sn, .int .i64 sd] 23)))
  have HT3 := Lib.hid ((Tab.later HT2.out ((Below.refl _ _).alloc (Nat.le_refl _) (.cells #[.int .i64 sn, .int .i64 sd] 23))).later hb)
  have B3 := Lib.hid ((B2.out.alloc B2.out.size (.cells #[.int .i64 sn, .int .i64 sd] 23)).trans (hb.mono (Nat.le_trans B2.out.size (by simp))))
  clear hb B2 HT2  
  have l0_3 := lt_of_block E0_3.out
  have p0_3 := cell_two0 E0_3.out
  have q0_3 := cell_two1 E0_3.out
  go_wp2_with fail
  refine (K3.out _ _ (HB.out.later (B3.out.alloc B3.out.size _))).mono ?_
  rintro e w4 ⟨rfl, hb⟩
  have E0_4 := Lib.hid (below_new hb (heap_alloc_old (E0_3).out _))
  have E1_4 := Lib.hid (below_new hb (heap_alloc_new w3 (.cells #[.int .i64 an, .int .i64 ad] 23)))
  have HT4 := Lib.hid ((Tab.later HT3.out ((Below.refl _ _).alloc (Nat.le_refl _) (.cells #[.int .i64 an, .int .i64 ad] 23))).later hb)
  have B4 := Lib.hid ((B3.out.alloc B3.out.size (.cells #[.int .i64 an, .int .i64 ad] 23)).trans (hb.mono (Nat.le_trans B3.out.size (by simp))))
  clear hb B3 HT3 E0_3 l0_3 p0_3 q0_3
  have l0_4 := lt_of_block E0_4.out
  have p0_4 := cell_two0 E0_4.out
  have q0_4 := cell_two1 E0_4.out
  have l1_4 := lt_of_block E1_4.out
  have p1_4 := cell_two0 E1_4.out
  have q1_4 := cell_two1 E1_4.out
  have e4 := heap_alloc_new w4 (.cells #[.int .i64 bn, .int .i64 bd] 23)
  have p4 := cell_two0 e4
  have q4 := cell_two1 e4
  clear e4
  go_wp2_with fail
  refine (K4.out _).mono ?_
  rintro e w5 ⟨rfl, hb⟩
  have E0_5 := Lib.hid (below_new hb (heap_alloc_old (E0_4).out _))
  have E1_5 := Lib.hid (below_new hb (heap_alloc_old (E1_4).out _))
  have E2_5 := Lib.hid (below_new hb (heap_alloc_new w4 (.cells #[.int .i64 bn, .int .i64 bd] 23)))
  have HT5 := Lib.hid ((Tab.later HT4.out ((Below.refl _ _).alloc (Nat.le_refl _) (.cells #[.int .i64 bn, .int .i64 bd] 23))).later hb)
  have B5 := Lib.hid ((B4.out.alloc B4.out.size (.cells #[.int .i64 bn, .int .i64 bd] 23)).trans (hb.mono (Nat.le_trans B4.out.size (by simp))))
  clear hb B4 HT4 E0_4 E1_4 l0_4 p0_4 q0_4 l1_4 p1_4 q1_4 p4 q4
  have l0_5 := lt_of_block E0_5.out
  have p0_5 := cell_two0 E0_5.out
  have q0_5 := cell_two1 E0_5.out
  have l1_5 := lt_of_block E1_5.out
  have p1_5 := cell_two0 E1_5.out
  have q1_5 := cell_two1 E1_5.out
  have l2_5 := lt_of_block E2_5.out
  have p2_5 := cell_two0 E2_5.out
  have q2_5 := cell_two1 E2_5.out
  go_wp2_with fail
  go_ret
  exact ⟨rfl, (B5.out.alloc B5.out.size _)⟩

set_option maxHeartbeats 4000000 in
theorem parts_lt_ok (b off n cap k : Nat) (rs : List (Int × Int)) (sn sd an ad bn bd cn cd ee ff gg hh : Int) (hk : k ≤ n) (hn : n ≤ 200) (hcap : n ≤ cap) (hlt : k < cap) (w : World) (ht : Tab w)
    (hs : Elems w (.slice (some ⟨b, off, none⟩) n cap) rs) (ha : Elems w (.slice (some ⟨b, off, none⟩) k cap) (rs.take k)) (hb0 : Elems w (.slice (some ⟨b, off + k * 2, none⟩) (n - k) (cap - k)) (rs.drop k))
    (h1 : ∀ sv w, Elems w sv rs → Calls Tryd.prog 19 #[sv] w fun e w' => e = .returned (.tuple #[.agg #[.int .i64 sn, .int .i64 sd], .int .i64 0]) ∧ Below w.heap.size w w')
    (h2 : ∀ sv w, Elems w sv (rs.take k) → Calls Tryd.prog 19 #[sv] w fun e w' => e = .returned (.tuple #[.agg #[.int .i64 an, .int .i64 ad], .int .i64 0]) ∧ Below w.heap.size w w')
    (h3 : ∀ sv w, Elems w sv (rs.drop k) → Calls Tryd.prog 19 #[sv] w fun e w' => e = .returned (.tuple #[.agg #[.int .i64 bn, .int .i64 bd], .int .i64 0]) ∧ Below w.heap.size w w')
    (h4 : ∀ w, Calls Tryd.prog 18 #[.agg #[.int .i64 an, .int .i64 ad], .agg #[.int .i64 bn, .int .i64 bd]] w fun e w' => e = .returned (.tuple #[.agg #[.int .i64 sn, .int .i64 sd], .int .i64 0]) ∧ Below w.heap.size w w') :
    Calls Tryd.prog 9 #[.slice (some ⟨b, off, none⟩) n cap, .int .i64 k] w fun e w' => e = .returned (.bool true) ∧ Below w.heap.size w w' := by
  have HS := Lib.hid hs
  have HA := Lib.hid ha
  have HB := Lib.hid hb0
  have K1 := Lib.hid h1
  have K2 := Lib.hid h2
  have K3 := Lib.hid h3
  have K4 := Lib.hid h4
  clear hs ha hb0 h1 h2 h3 h4
  have c1 : ¬ (200 : Int) < (n : Int) := by omega
  have c2 : ¬ (k : Int) < 0 := by omega
  have c3 : ¬ (n : Int) < (k : Int) := by omega
  have c4 : (k : Int) ≤ (cap : Int) := by omega
  have c5 : k ≤ cap := by omega
  have c6 : ¬ cap - k = 0 := by omega
  have c7 : ¬ cap ≤ k := by omega
  have c8 : (cap - k == 0) = false := by rw [beq_eq_false_iff_ne]; omega
  have HT := Lib.hid ht
  clear ht
  go_enter Tryd.func9, Tryd.ntmps9
  go_wp2_with fail
  obtain ⟨w0, hw0⟩ : ∃ w0, w0 = w := ⟨_, rfl⟩
  have B0 : Hid (Below w.heap.size w w0) := by
    show Below _ _ _
    rw [hw0]
    exact (Below.refl _ _)
  have HT0 := Lib.hid (Tab.later HT.out (B0.out.mono (Nat.le_refl _)))
  rw [← hw0]
  clear hw0 HT
  refine (alive_any _ (by exact HT0.out)).mono ?_
  rintro e w1 ⟨rfl, hb⟩
  have HT1 := Lib.hid (Tab.later HT0.out hb)
  have B1 := Lib.hid (B0.out.trans (hb.mono B0.out.size))
  clear hb B0 HT0  
  go_wp2_with fail
  refine (K1.out _ _ (HS.out.later B1.out)).mono ?_
  rintro e w2 ⟨rfl, hb⟩
  have HT2 := Lib.hid (Tab.later HT1.out hb)
  have B2 := Lib.hid (B1.out.trans (hb.mono B1.out.size))
  clear hb B1 HT1  
  go_wp2_with fail
  refine (K2.out _ _ (HA.out.later (B2.out.alloc B2.out.size _))).mono ?_
  rintro e w3 ⟨rfl, hb⟩
  have E0_3 := Lib.hid (below_new hb (heap_alloc_new w2 (.cells #[.int .i64 sn, .int .i64 sd] 23)))
  have HT3 := Lib.hid ((Tab.later HT2.out ((Below.refl _ _).alloc (Nat.le_refl _) (.cells #[.int .i64 sn, .int .i64 sd] 23))).later hb)
  have B3 := Lib.hid ((B2.out.alloc B2.out.size (.cells #[.int .i64 sn, .int .i64 sd] 23)).trans (hb.mono (Nat.le_trans B2.out.size (by simp))))
  clear hb B2 HT2  
  have l0_3 := lt_of_block E0_3.out
  have p0_3 := cell_two0 E0_3.out
  have q0_3 := cell_two1 E0_3.out
  go_wp2_with fail
  refine (K3.out _ _ (HB.out.later (B3.out.alloc B3.out.size _))).mono ?_
  rintro e w4 ⟨rfl, hb⟩
  have E0_4 := Lib.hid (below_new hb (heap_alloc_old (E0_3).out _))
  have E1_4 := Lib.hid (below_new hb (heap_alloc_new w3 (.cells #[.int .i64 an, .int .i64 ad] 23)))
  have HT4 := Lib.hid ((Tab.later HT3.out ((Below.refl _ _).alloc (Nat.le_refl _) (.cells #[.int .i64 an, .int .i64 ad] 23))).later hb)
  have B4 := Lib.hid ((B3.out.alloc B3.out.size (.cells #[.int .i64 an, .int .i64 ad] 23)).trans (hb.mono (Nat.le_trans B3.out.size (by simp))))
  clear hb B3 HT3 E0_3 l0_3 p0_3 q0_3
  have l0_4 := lt_of_block E0_4.out
  have p0_4 := cell_two0 E0_4.out
  have q0_4 := cell_two1 E0_4.out
  have l1_4 := lt_of_block E1_4.out
  have p1_4 := cell_two0 E1_4.out
  have q1_4 := cell_two1 E1_4.out
  have e4 := heap_alloc_new w4 (.cells #[.int .i64 bn, .int .i64 bd] 23)
  have p4 := cell_two0 e4
  have q4 := cell_two1 e4
  clear e4
  go_wp2_with fail
  refine (K4.out _).mono ?_
  rintro e w5 ⟨rfl, hb⟩
  have E0_5 := Lib.hid (below_new hb (heap_alloc_old (E0_4).out _))
  have E1_5 := Lib.hid (below_new hb (heap_alloc_old (E1_4).out _))
  have E2_5 := Lib.hid (below_new hb (heap_alloc_new w4 (.cells #[.int .i64 bn, .int .i64 bd] 23)))
  have HT5 := Lib.hid ((Tab.later HT4.out ((Below.refl _ _).alloc (Nat.le_refl _) (.cells #[.int .i64 bn, .int .i64 bd] 23))).later hb)
  have B5 := Lib.hid ((B4.out.alloc B4.out.size (.cells #[.int .i64 bn, .int .i64 bd] 23)).trans (hb.mono (Nat.le_trans B4.out.size (by simp))))
  clear hb B4 HT4 E0_4 E1_4 l0_4 p0_4 q0_4 l1_4 p1_4 q1_4 p4 q4
  have l0_5 := lt_of_block E0_5.out
  have p0_5 := cell_two0 E0_5.out
  have q0_5 := cell_two1 E0_5.out
  have l1_5 := lt_of_block E1_5.out
  have p1_5 := cell_two0 E1_5.out
  have q1_5 := cell_two1 E1_5.out
  have l2_5 := lt_of_block E2_5.out
  have p2_5 := cell_two0 E2_5.out
  have q2_5 := cell_two1 E2_5.out
  go_wp2_with fail
  go_ret
  exact ⟨rfl, (B5.out.alloc B5.out.size _)⟩

set_option maxHeartbeats 4000000 in
theorem parts_eq_e (b off k : Nat) (rs : List (Int × Int)) (sn sd an ad bn bd cn cd ee ff gg hh : Int) (hn : k ≤ 200) (nee : (ee == 0) = false) (w : World) (ht : Tab w)
    (hs : Elems w (.slice (some ⟨b, off, none⟩) k k) rs) (ha : Elems w (.slice (some ⟨b, off, none⟩) k k) (rs.take k)) (hb0 : Elems w (.slice (some ⟨b, off, none⟩) 0 0) (rs.drop k))
    (h1 : ∀ sv w, Elems w sv rs → Calls Tryd.prog 19 #[sv] w fun e w' => e = .returned (.tuple #[.agg #[.int .i64 sn, .int .i64 sd], .int .i64 ee]) ∧ Below w.heap.size w w')
    (h2 : ∀ sv w, Elems w sv (rs.take k) → Calls Tryd.prog 19 #[sv] w fun e w' => e = .returned (.tuple #[.agg #[.int .i64 an, .int .i64 ad], .int .i64 ff]) ∧ Below w.heap.size w w')
    (h3 : ∀ sv w, Elems w sv (rs.drop k) → Calls Tryd.prog 19 #[sv] w fun e w' => e = .returned (.tuple #[.agg #[.int .i64 bn, .int .i64 bd], .int .i64 gg]) ∧ Below w.heap.size w w')
    (h4 : ∀ w, Calls Tryd.prog 18 #[.agg #[.int .i64 an, .int .i64 ad], .agg #[.int .i64 bn, .int .i64 bd]] w fun e w' => e = .returned (.tuple #[.agg #[.int .i64 cn, .int .i64 cd], .int .i64 hh]) ∧ Below w.heap.size w w') :
    Calls Tryd.prog 9 #[.slice (some ⟨b, off, none⟩) k k, .int .i64 k] w fun e w' => e = .returned (.bool true) ∧ Below w.heap.size w w' := by
  have mee : (ee != 0) = true := by rw [bne_iff_ne]; exact beq_eq_false_iff_ne.1 nee
  have HS := Lib.hid hs
  have HA := Lib.hid ha
  have HB := Lib.hid hb0
  have K1 := Lib.hid h1
  have K2 := Lib.hid h2
  have K3 := Lib.hid h3
  have K4 := Lib.hid h4
  clear hs ha hb0 h1 h2 h3 h4
  have c1 : ¬ (200 : Int) < (k : Int) := by omega
  have c2 : ¬ (k : Int) < 0 := by omega
  have c3 : ¬ (k : Int) < (k : Int) := by omega
  have HT := Lib.hid ht
  clear ht
  go_enter Tryd.func9, Tryd.ntmps9
  go_wp2_with fail
  obtain ⟨w0, hw0⟩ : ∃ w0, w0 = w := ⟨_, rfl⟩
  have B0 : Hid (Below w.heap.size w w0) := by
    show Below _ _ _
    rw [hw0]
    exact (Below.refl _ _)
  have HT0 := Lib.hid (Tab.later HT.out (B0.out.mono (Nat.le_refl _)))
  rw [← hw0]
  clear hw0 HT
  refine (alive_any _ (by exact HT0.out)).mono ?_
  rintro e w1 ⟨rfl, hb⟩
  have HT1 := Lib.hid (Tab.later HT0.out hb)
  have B1 := Lib.hid (B0.out.trans (hb.mono B0.out.size))
  clear hb B0 HT0  
  go_wp2_with fail
  refine (K1.out _ _ (HS.out.later B1.out)).mono ?_
  rintro e w2 ⟨rfl, hb⟩
  have HT2 := Lib.hid (Tab.later HT1.out hb)
  have B2 := Lib.hid (B1.out.trans (hb.mono B1.out.size))
  clear hb B1 HT1  
  go_wp2_with fail
  refine (K2.out _ _ (HA.out.later (B2.out.alloc B2.out.size _))).mono ?_
  rintro e w3 ⟨rfl, hb⟩
  have E0_3 := Lib.hid (below_new hb (heap_alloc_new w2 (.cells #[.int .i64 sn, .int .i64 sd] 23)))
  have HT3 := Lib.hid ((Tab.later HT2.out ((Below.refl _ _).alloc (Nat.le_refl _) (.cells #[.int .i64 sn, .int .i64 sd] 23))).later hb)
  have B3 := Lib.hid ((B2.out.alloc B2.out.size (.cells #[.int .i64 sn, .int .i64 sd] 23)).trans (hb.mono (Nat.le_trans B2.out.size (by simp))))
  clear hb B2 HT2  
  have l0_3 := lt_of_block E0_3.out
  have p0_3 := cell_two0 E0_3.out
  have q0_3 := cell_two1 E0_3.out
  go_wp2_with fail
  refine (K3.out _ _ (HB.out.later (B3.out.alloc B3.out.size _))).mono ?_
  rintro e w4 ⟨rfl, hb⟩
  have E0_4 := Lib.hid (below_new hb (heap_alloc_old (E0_3).out _))
  have E1_4 := Lib.hid (below_new hb (heap_alloc_new w3 (.cells #[.int .i64 an, .int .i64 ad] 23)))
  have HT4 := Lib.hid ((Tab.later HT3.out ((Below.refl _ _).alloc (Nat.le_refl _) (.cells #[.int .i64 an, .int .i64 ad] 23))).later hb)
  have B4 := Lib.hid ((B3.out.alloc B3.out.size (.cells #[.int .i64 an, .int .i64 ad] 23)).trans (hb.mono (Nat.le_trans B3.out.size (by simp))))
  clear hb B3 HT3 E0_3 l0_3 p0_3 q0_3
  have l0_4 := lt_of_block E0_4.out
  have p0_4 := cell_two0 E0_4.out
  have q0_4 := cell_two1 E0_4.out
  have l1_4 := lt_of_block E1_4.out
  have p1_4 := cell_two0 E1_4.out
  have q1_4 := cell_two1 E1_4.out
  have e4 := heap_alloc_new w4 (.cells #[.int .i64 bn, .int .i64 bd] 23)
  have p4 := cell_two0 e4
  have q4 := cell_two1 e4
  clear e4
  go_wp2_with fail
  refine (K4.out _).mono ?_
  rintro e w5 ⟨rfl, hb⟩
  have E0_5 := Lib.hid (below_new hb (heap_alloc_old (E0_4).out _))
  have E1_5 := Lib.hid (below_new hb (heap_alloc_old (E1_4).out _))
  have E2_5 := Lib.hid (below_new hb (heap_alloc_new w4 (.cells #[.int .i64 bn, .int .i64 bd] 23)))
  have HT5 := Lib.hid ((Tab.later HT4.out ((Below.refl _ _).alloc (Nat.le_refl _) (.cells #[.int .i64 bn, .int .i64 bd] 23))).later hb)
  have B5 := Lib.hid ((B4.out.alloc B4.out.size (.cells #[.int .i64 bn, .int .i64 bd] 23)).trans (hb.mono (Nat.le_trans B4.out.size (by simp))))
  clear hb B4 HT4 E0_4 E1_4 l0_4 p0_4 q0_4 l1_4 p1_4 q1_4 p4 q4
  have l0_5 := lt_of_block E0_5.out
  have p0_5 := cell_two0 E0_5.out
  have q0_5 := cell_two1 E0_5.out
  have l1_5 := lt_of_block E1_5.out
  have p1_5 := cell_two0 E1_5.out
  have q1_5 := cell_two1 E1_5.out
  have l2_5 := lt_of_block E2_5.out
  have p2_5 := cell_two0 E2_5.out
  have q2_5 := cell_two1 E2_5.out
  go_wp2_with fail
  go_ret
  exact ⟨rfl, (B5.out.alloc B5.out.size _)⟩

set_option maxHeartbeats 4000000 in
theorem parts_eq_g (b off k : Nat) (rs : List (Int × Int)) (sn sd an ad bn bd cn cd ee ff gg hh : Int) (hn : k ≤ 200) (ngg : (gg == 0) = false) (w : World) (ht : Tab w)
    (hs : Elems w (.slice (some ⟨b, off, none⟩) k k) rs) (ha : Elems w (.slice (some ⟨b, off, none⟩) k k) (rs.take k)) (hb0 : Elems w (.slice (some ⟨b, off, none⟩) 0 0) (rs.drop k))
    (h1 : ∀ sv w, Elems w sv rs → Calls Tryd.prog 19 #[sv] w fun e w' => e = .returned (.tuple #[.agg #[.int .i64 sn, .int .i64 sd], .int .i64 0]) ∧ Below w.heap.size w w')
    (h2 : ∀ sv w, Elems w sv (rs.take k) → Calls Tryd.prog 19 #[sv] w fun e w' => e = .returned (.tuple #[.agg #[.int .i64 an, .int .i64 ad], .int .i64 0]) ∧ Below w.heap.size w w')
    (h3 : ∀ sv w, Elems w sv (rs.drop k) → Calls Tryd.prog 19 #[sv] w fun e w' => e = .returned (.tuple #[.agg #[.int .i64 bn, .int .i64 bd], .int .i64 gg]) ∧ Below w.heap.size w w')
    (h4 : ∀ w, Calls Tryd.prog 18 #[.agg #[.int .i64 an, .int .i64 ad], .agg #[.int .i64 bn, .int .i64 bd]] w fun e w' => e = .returned (.tuple #[.agg #[.int .i64 cn, .int .i64 cd], .int .i64 hh]) ∧ Below w.heap.size w w') :
    Calls Tryd.prog 9 #[.slice (some ⟨b, off, none⟩) k k, .int .i64 k] w fun e w' => e = .returned (.bool true) ∧ Below w.heap.size w w' := by
  have mgg : (gg != 0) = true := by rw [bne_iff_ne]; exact beq_eq_false_iff_ne.1 ngg
  have HS := Lib.hid hs
  have HA := Lib.hid ha
  have HB := Lib.hid hb0
  have K1 := Lib.hid h1
  have K2 := Lib.hid h2
  have K3 := Lib.hid h3
  have K4 := Lib.hid h4
  clear hs ha hb0 h1 h2 h3 h4
  have c1 : ¬ (200 : Int) < (k : Int) := by omega
  have c2 : ¬ (k : Int) < 0 := by omega
  have c3 : ¬ (k : Int) < (k : Int) := by omega
  have HT := Lib.hid ht
  clear ht
  go_enter Tryd.func9, Tryd.ntmps9
  go_wp2_with fail
  obtain ⟨w0, hw0⟩ : ∃ w0, w0 = w := ⟨_, rfl⟩
  have B0 : Hid (Below w.heap.size w w0) := by
    show Below _ _ _
    rw [hw0]
    exact (Below.refl _ _)
  have HT0 := Lib.hid (Tab.later HT.out (B0.out.mono (Nat.le_refl _)))
  rw [← hw0]
  clear hw0 HT
  refine (alive_any _ (by exact HT0.out)).mono ?_
  rintro e w1 ⟨rfl, hb⟩
  have HT1 := Lib.hid (Tab.later HT0.out hb)
  have B1 := Lib.hid (B0.out.trans (hb.mono B0.out.size))
  clear hb B0 HT0  
  go_wp2_with fail
  refine (K1.out _ _ (HS.out.later B1.out)).mono ?_
  rintro e w2 ⟨rfl, hb⟩
  have HT2 := Lib.hid (Tab.later HT1.out hb)
  have B2 := Lib.hid (B1.out.trans (hb.mono B1.out.size))
  clear hb B1 HT1  
  go_wp2_with fail
  refine (K2.out _ _ (HA.out.later (B2.out.alloc B2.out.size _))).mono ?_
  rintro e w3 ⟨rfl, hb⟩
  have E0_3 := Lib.hid (below_new hb (heap_alloc_new w2 (.cells #[.int .i64 sn, .int .i64 sd] 23)))
  have HT3 := Lib.hid ((Tab.later HT2.out ((Below.refl _ _).alloc (Nat.le_refl _) (.cells #[.int .i64 sn, .int .i64 sd] 23))).later hb)
  have B3 := Lib.hid ((B2.out.alloc B2.out.size (.cells #[.int .i64 sn, .int .i64 sd] 23)).trans (hb.mono (Nat.le_trans B2.out.size (by simp))))
  clear hb B2 HT2  
  have l0_3 := lt_of_block E0_3.out
  have p0_3 := cell_two0 E0_3.out
  have q0_3 := cell_two1 E0_3.out
  go_wp2_with fail
  refine (K3.out _ _ (HB.out.later (B3.out.alloc B3.out.size _))).mono ?_
  rintro e w4 ⟨rfl, hb⟩
  have E0_4 := Lib.hid (below_new hb (heap_alloc_old (E0_3).out _))
  have E1_4 := Lib.hid (below_new hb (heap_alloc_new w3 (.cells #[.int .i64 an, .int .i64 ad] 23)))
  have HT4 := Lib.hid ((Tab.later HT3.out ((Below.refl _ _).alloc (Nat.le_refl _) (.cells #[.int .i64 an, .int .i64 ad] 23))).later hb)
  have B4 := Lib.hid ((B3.out.alloc B3.out.size (.cells #[.int .i64 an, .int .i64 ad] 23)).trans (hb.mono (Nat.le_trans B3.out.size (by simp))))
  clear hb B3 HT3 E0_3 l0_3 p0_3 q0_3
  have l0_4 := lt_of_block E0_4.out
  have p0_4 := cell_two0 E0_4.out
  have q0_4 := cell_two1 E0_4.out
  have l1_4 := lt_of_block E1_4.out
  have p1_4 := cell_two0 E1_4.out
  have q1_4 := cell_two1 E1_4.out
  have e4 := heap_alloc_new w4 (.cells #[.int .i64 bn, .int .i64 bd] 23)
  have p4 := cell_two0 e4
  have q4 := cell_two1 e4
  clear e4
  go_wp2_with fail
  refine (K4.out _).mono ?_
  rintro e w5 ⟨rfl, hb⟩
  have E0_5 := Lib.hid (below_new hb (heap_alloc_old (E0_4).out _))
  have E1_5 := Lib.hid (below_new hb (heap_alloc_old (E1_4).out _))
  have E2_5 := Lib.hid (below_new hb (heap_alloc_new w4 (.cells #[.int .i64 bn, .int .i64 bd] 23)))
  have HT5 := Lib.hid ((Tab.later HT4.out ((Below.refl _ _).alloc (Nat.le_refl _) (.cells #[.int .i64 bn, .int .i64 bd] 23))).later hb)
  have B5 := Lib.hid ((B4.out.alloc B4.out.size (.cells #[.int .i64 bn, .int .i64 bd] 23)).trans (hb.mono (Nat.le_trans B4.out.size (by simp))))
  clear hb B4 HT4 E0_4 E1_4 l0_4 p0_4 q0_4 l1_4 p1_4 q1_4 p4 q4
  have l0_5 := lt_of_block E0_5.out
  have p0_5 := cell_two0 E0_5.out
  have q0_5 := cell_two1 E0_5.out
  have l1_5 := lt_of_block E1_5.out
  have p1_5 := cell_two0 E1_5.out
  have q1_5 := cell_two1 E1_5.out
  have l2_5 := lt_of_block E2_5.out
  have p2_5 := cell_two0 E2_5.out
  have q2_5 := cell_two1 E2_5.out
  go_wp2_with fail
  go_ret
  exact ⟨rfl, (B5.out.alloc B5.out.size _)⟩

set_option maxHeartbeats 4000000 in
theorem parts_eq_h (b off k : Nat) (rs : List (Int × Int)) (sn sd an ad bn bd cn cd ee ff gg hh : Int) (hn : k ≤ 200) (nhh : (hh == 0) = false) (w : World) (ht : Tab w)
    (hs : Elems w (.slice (some ⟨b, off, none⟩) k k) rs) (ha : Elems w (.slice (some ⟨b, off, none⟩) k k) (rs.take k)) (hb0 : Elems w (.slice (some ⟨b, off, none⟩) 0 0) (rs.drop k))
    (h1 : ∀ sv w, Elems w sv rs → Calls Tryd.prog 19 #[sv] w fun e w' => e = .returned (.tuple #[.agg #[.int .i64 sn, .int .i64 sd], .int .i64 0]) ∧ Below w.heap.size w w')
    (h2 : ∀ sv w, Elems w sv (rs.take k) → Calls Tryd.prog 19 #[sv] w fun e w' => e = .returned (.tuple #[.agg #[.int .i64 an, .int .i64 ad], .int .i64 0]) ∧ Below w.heap.size w w')
    (h3 : ∀ sv w, Elems w sv (rs.drop k) → Calls Tryd.prog 19 #[sv] w fun e w' => e = .returned (.tuple #[.agg #[.int .i64 bn, .int .i64 bd], .int .i64 0]) ∧ Below w.heap.size w w')
    (h4 : ∀ w, Calls Tryd.prog 18 #[.agg #[.int .i64 an, .int .i64 ad], .agg #[.int .i64 bn, .int .i64 bd]] w fun e w' => e = .returned (.tuple #[.agg #[.int .i64 cn, .int .i64 cd], .int .i64 hh]) ∧ Below w.heap.size w w') :
    Calls Tryd.prog 9 #[.slice (some ⟨b, off, none⟩) k k, .int .i64 k] w fun e w' => e = .returned (.bool true) ∧ Below w.heap.size w w' := by
  have mhh : (hh != 0) = true := by rw [bne_iff_ne]; exact beq_eq_false_iff_ne.1 nhh
  have HS := Lib.hid hs
  have HA := Lib.hid ha
  have HB := Lib.hid hb0
  have K1 := Lib.hid h1
  have K2 := Lib.hid h2
  have K3 := Lib.hid h3
  have K4 := Lib.hid h4
  clear hs ha hb0 h1 h2 h3 h4
  have c1 : ¬ (200 : Int) < (k : Int) := by omega
  have c2 : ¬ (k : Int) < 0 := by omega
  have c3 : ¬ (k : Int) < (k : Int) := by omega
  have HT := Lib.hid ht
  clear ht
  go_enter Tryd.func9, Tryd.ntmps9
  go_wp2_with fail
  obtain ⟨w0, hw0⟩ : ∃ w0, w0 = w := ⟨_, rfl⟩
  have B0 : Hid (Below w.heap.size w w0) := by
    show Below _ _ _
    rw [hw0]
    exact (Below.refl _ _)
  have HT0 := Lib.hid (Tab.later HT.out (B0.out.mono (Nat.le_refl _)))
  rw [← hw0]
  clear hw0 HT
  refine (alive_any _ (by exact HT0.out)).mono ?_
  rintro e w1 ⟨rfl, hb⟩
  have HT1 := Lib.hid (Tab.later HT0.out hb)
  have B1 := Lib.hid (B0.out.trans (hb.mono B0.out.size))
  clear hb B0 HT0  
  go_wp2_with fail
  refine (K1.out _ _ (HS.out.later B1.out)).mono ?_
  rintro e w2 ⟨rfl, hb⟩
  have HT2 := Lib.hid (Tab.later HT1.out hb)
  have B2 := Lib.hid (B1.out.trans (hb.mono B1.out.size))
  clear hb B1 HT1  
  go_wp2_with fail
  refine (K2.out _ _ (HA.out.later (B2.out.alloc B2.out.size _))).mono ?_
  rintro e w3 ⟨rfl, hb⟩
  have E0_3 := Lib.hid (below_new hb (heap_alloc_new w2 (.cells #[.int .i64 sn, .int .i64 sd] 23)))
  have HT3 := Lib.hid ((Tab.later HT2.out ((Below.refl _ _).alloc (Nat.le_refl _) (.cells #[.int .i64 sn, .int .i64 sd] 23))).later hb)
  have B3 := Lib.hid ((B2.out.alloc B2.out.size (.cells #[.int .i64 sn, .int .i64 sd] 23)).trans (hb.mono (Nat.le_trans B2.out.size (by simp))))
  clear hb B2 HT2  
  have l0_3 := lt_of_block E0_3.out
  have p0_3 := cell_two0 E0_3.out
  have q0_3 := cell_two1 E0_3.out
  go_wp2_with fail
  refine (K3.out _ _ (HB.out.later (B3.out.alloc B3.out.size _))).mono ?_
  rintro e w4 ⟨rfl, hb⟩
  have E0_4 := Lib.hid (below_new hb (heap_alloc_old (E0_3).out _))
  have E1_4 := Lib.hid (below_new hb (heap_alloc_new w3 (.cells #[.int .i64 an, .int .i64 ad] 23)))
  have HT4 := Lib.hid ((Tab.later HT3.out ((Below.refl _ _).alloc (Nat.le_refl _) (.cells #[.int .i64 an, .int .i64 ad] 23))).later hb)
  have B4 := Lib.hid ((B3.out.alloc B3.out.size (.cells #[.int .i64 an, .int .i64 ad] 23)).trans (hb.mono (Nat.le_trans B3.out.size (by simp))))
  clear hb B3 HT3 E0_3 l0_3 p0_3 q0_3
  have l0_4 := lt_of_block E0_4.out
  have p0_4 := cell_two0 E0_4.out
  have q0_4 := cell_two1 E0_4.out
  have l1_4 := lt_of_block E1_4.out
  have p1_4 := cell_two0 E1_4.out
  have q1_4 := cell_two1 E1_4.out
  have e4 := heap_alloc_new w4 (.cells #[.int .i64 bn, .int .i64 bd] 23)
  have p4 := cell_two0 e4
  have q4 := cell_two1 e4
  clear e4
  go_wp2_with fail
  refine (K4.out _).mono ?_
  rintro e w5 ⟨rfl, hb⟩
  have E0_5 := Lib.hid (below_new hb (heap_alloc_old (E0_4).out _))
  have E1_5 := Lib.hid (below_new hb (heap_alloc_old (E1_4).out _))
  have E2_5 := Lib.hid (below_new hb (heap_alloc_new w4 (.cells #[.int .i64 bn, .int .i64 bd] 23)))
  have HT5 := Lib.hid ((Tab.later HT4.out ((Below.refl _ _).alloc (Nat.le_refl _) (.cells #[.int .i64 bn, .int .i64 bd] 23))).later hb)
  have B5 := Lib.hid ((B4.out.alloc B4.out.size (.cells #[.int .i64 bn, .int .i64 bd] 23)).trans (hb.mono (Nat.le_trans B4.out.size (by simp))))
  clear hb B4 HT4 E0_4 E1_4 l0_4 p0_4 q0_4 l1_4 p1_4 q1_4 p4 q4
  have l0_5 := lt_of_block E0_5.out
  have p0_5 := cell_two0 E0_5.out
  have q0_5 := cell_two1 E0_5.out
  have l1_5 := lt_of_block E1_5.out
  have p1_5 := cell_two0 E1_5.out
  have q1_5 := cell_two1 E1_5.out
  have l2_5 := lt_of_block E2_5.out
  have p2_5 := cell_two0 E2_5.out
  have q2_5 := cell_two1 E2_5.out
  go_wp2_with fail
  go_ret
  exact ⟨rfl, (B5.out.alloc B5.out.size _)⟩

set_option maxHeartbeats 4000000 in
theorem parts_eq_ok (b off k : Nat) (rs : List (Int × Int)) (sn sd an ad bn bd cn cd ee ff gg hh : Int) (hn : k ≤ 200) (w : World) (ht : Tab w)
    (hs : Elems w (.slice (some ⟨b, off, none⟩) k k) rs) (ha : Elems w (.slice (some ⟨b, off, none⟩) k k) (rs.take k)) (hb0 : Elems w (.slice (some ⟨b, off, none⟩) 0 0) (rs.drop k))
    (h1 : ∀ sv w, Elems w sv rs → Calls Tryd.prog 19 #[sv] w fun e w' => e = .returned (.tuple #[.agg #[.int .i64 sn, .int .i64 sd], .int .i64 0]) ∧ Below w.heap.size w w')
    (h2 : ∀ sv w, Elems w sv (rs.take k) → Calls Tryd.prog 19 #[sv] w fun e w' => e = .returned (.tuple #[.agg #[.int .i64 an, .int .i64 ad], .int .i64 0]) ∧ Below w.heap.size w w')
    (h3 : ∀ sv w, Elems w sv (rs.drop k) → Calls Tryd.prog 19 #[sv] w fun e w' => e = .returned (.tuple #[.agg #[.int .i64 bn, .int .i64 bd], .int .i64 0]) ∧ Below w.heap.size w w')
    (h4 : ∀ w, Calls Tryd.prog 18 #[.agg #[.int .i64 an, .int .i64 ad], .agg #[.int .i64 bn, .int .i64 bd]] w fun e w' => e = .returned (.tuple #[.agg #[.int .i64 sn, .int .i64 sd], .int .i64 0]) ∧ Below w.heap.size w w') :
    Calls Tryd.prog 9 #[.slice (some ⟨b, off, none⟩) k k, .int .i64 k] w fun e w' => e = .returned (.bool true) ∧ Below w.heap.size w w' := by
  have HS := Lib.hid hs
  have HA := Lib.hid ha
  have HB := Lib.hid hb0
  have K1 := Lib.hid h1
  have K2 := Lib.hid h2
  have K3 := Lib.hid h3
  have K4 := Lib.hid h4
  clear hs ha hb0 h1 h2 h3 h4
  have c1 : ¬ (200 : Int) < (k : Int) := by omega
  have c2 : ¬ (k : Int) < 0 := by omega
  have c3 : ¬ (k : Int) < (k : Int) := by omega
  have HT := Lib.hid ht
  clear ht
  go_enter Tryd.func9, Tryd.ntmps9
  go_wp2_with fail
  obtain ⟨w0, hw0⟩ : ∃ w0, w0 = w := ⟨_, rfl⟩
  have B0 : Hid (Below w.heap.size w w0) := by
    show Below _ _ _
    rw [hw0]
    exact (Below.refl _ _)
  have HT0 := Lib.hid (Tab.later HT.out (B0.out.mono (Nat.le_refl _)))
  rw [← hw0]
  clear hw0 HT
  refine (alive_any _ (by exact HT0.out)).mono ?_
  rintro e w1 ⟨rfl, hb⟩
  have HT1 := Lib.hid (Tab.later HT0.out hb)
  have B1 := Lib.hid (B0.out.trans (hb.mono B0.out.size))
  clear hb B0 HT0  
  go_wp2_with fail
  refine (K1.out _ _ (HS.out.later B1.out)).mono ?_
  rintro e w2 ⟨rfl, hb⟩
  have HT2 := Lib.hid (Tab.later HT1.out hb)
  have B2 := Lib.hid (B1.out.trans (hb.mono B1.out.size))
  clear hb B1 HT1  
  go_wp2_with fail
  refine (K2.out _ _ (HA.out.later (B2.out.alloc B2.out.size _))).mono ?_
  rintro e w3 ⟨rfl, hb⟩
  have E0_3 := Lib.hid (below_new hb (heap_alloc_new w2 (.cells #[.int .i64 sn, .int .i64 sd] 23)))
  have HT3 := Lib.hid ((Tab.later HT2.out ((Below.refl _ _).alloc (Nat.le_refl _) (.cells #[.int .i64 sn, .int .i64 sd] 23))).later hb)
  have B3 := Lib.hid ((B2.out.alloc B2.out.size (.cells #[.int .i64 sn, .int .i64 sd] 23)).trans (hb.mono (Nat.le_trans B2.out.size (by simp))))
  clear hb B2 HT2  
  have l0_3 := lt_of_block E0_3.out
  have p0_3 := cell_two0 E0_3.out
  have q0_3 := cell_two1 E0_3.out
  go_wp2_with fail
  refine (K3.out _ _ (HB.out.later (B3.out.alloc B3.out.size _))).mono ?_
  rintro e w4 ⟨rfl, hb⟩
  have E0_4 := Lib.hid (below_new hb (heap_alloc_old (E0_3).out _))
  have E1_4 := Lib.hid (below_new hb (heap_alloc_new w3 (.cells #[.int .i64 an, .int .i64 ad] 23)))
  have HT4 := Lib.hid ((Tab.later HT3.out ((Below.refl _ _).alloc (Nat.le_refl _) (.cells #[.int .i64 an, .int .i64 ad] 23))).later hb)
  have B4 := Lib.hid ((B3.out.alloc B3.out.size (.cells #[.int .i64 an, .int .i64 ad] 23)).trans (hb.mono (Nat.le_trans B3.out.size (by simp))))
  clear hb B3 HT3 E0_3 l0_3 p0_3 q0_3
  have l0_4 := lt_of_block E0_4.out
  have p0_4 := cell_two0 E0_4.out
  have q0_4 := cell_two1 E0_4.out
  have l1_4 := lt_of_block E1_4.out
  have p1_4 := cell_two0 E1_4.out
  have q1_4 := cell_two1 E1_4.out
  have e4 := heap_alloc_new w4 (.cells #[.int .i64 bn, .int .i64 bd] 23)
  have p4 := cell_two0 e4
  have q4 := cell_two1 e4
  clear e4
  go_wp2_with fail
  refine (K4.out _).mono ?_
  rintro e w5 ⟨rfl, hb⟩
  have E0_5 := Lib.hid (below_new hb (heap_alloc_old (E0_4).out _))
  have E1_5 := Lib.hid (below_new hb (heap_alloc_old (E1_4).out _))
  have E2_5 := Lib.hid (below_new hb (heap_alloc_new w4 (.cells #[.int .i64 bn, .int .i64 bd] 23)))
  have HT5 := Lib.hid ((Tab.later HT4.out ((Below.refl _ _).alloc (Nat.le_refl _) (.cells #[.int .i64 bn, .int .i64 bd] 23))).later hb)
  have B5 := Lib.hid ((B4.out.alloc B4.out.size (.cells #[.int .i64 bn, .int .i64 bd] 23)).trans (hb.mono (Nat.le_trans B4.out.size (by simp))))
  clear hb B4 HT4 E0_4 E1_4 l0_4 p0_4 q0_4 l1_4 p1_4 q1_4 p4 q4
  have l0_5 := lt_of_block E0_5.out
  have p0_5 := cell_two0 E0_5.out
  have q0_5 := cell_two1 E0_5.out
  have l1_5 := lt_of_block E1_5.out
  have p1_5 := cell_two0 E1_5.out
  have q1_5 := cell_two1 E1_5.out
  have l2_5 := lt_of_block E2_5.out
  have p2_5 := cell_two0 E2_5.out
  have q2_5 := cell_two1 E2_5.out
  go_wp2_with fail
  go_ret
  exact ⟨rfl, (B5.out.alloc B5.out.size _)⟩

set_option maxHeartbeats 1000000 in
theorem parts_big (p : Option Addr) (n cap : Nat) (at0 : Int) (h1 : (200 : Int) < (n : Int)) (w : World) (ht : Tab w) :
    Calls Tryd.prog 9 #[.slice p n cap, .int .i64 at0] w fun e w' => e = .returned (.bool true) ∧ Below w.heap.size w w' := by
  have HT := Lib.hid ht
  clear ht
  go_enter Tryd.func9, Tryd.ntmps9
  go_wp2_with fail
  obtain ⟨w0, hw0⟩ : ∃ w0, w0 = w := ⟨_, rfl⟩
  have B0 : Hid (Below w.heap.size w w0) := by
    show Below _ _ _
    rw [hw0]
    exact (Below.refl _ _)
  have HT0 := Lib.hid (Tab.later HT.out (B0.out.mono (Nat.le_refl _)))
  rw [← hw0]
  clear hw0 HT
  refine (alive_any _ (by exact HT0.out)).mono ?_
  rintro e w1 ⟨rfl, hb⟩
  have HT1 := Lib.hid (Tab.later HT0.out hb)
  have B1 := Lib.hid (B0.out.trans (hb.mono B0.out.size))
  clear hb B0 HT0  
  go_wp2_with fail
  go_ret
  exact ⟨rfl, B1.out⟩

set_option maxHeartbeats 1000000 in
theorem parts_neg (p : Option Addr) (n cap : Nat) (at0 : Int) (h1 : ¬ (200 : Int) < (n : Int)) (h2 : at0 < 0) (w : World) (ht : Tab w) :
    Calls Tryd.prog 9 #[.slice p n cap, .int .i64 at0] w fun e w' => e = .returned (.bool true) ∧ Below w.heap.size w w' := by
  have HT := Lib.hid ht
  clear ht
  go_enter Tryd.func9, Tryd.ntmps9
  go_wp2_with fail
  obtain ⟨w0, hw0⟩ : ∃ w0, w0 = w := ⟨_, rfl⟩
  have B0 : Hid (Below w.heap.size w w0) := by
    show Below _ _ _
    rw [hw0]
    exact (Below.refl _ _)
  have HT0 := Lib.hid (Tab.later HT.out (B0.out.mono (Nat.le_refl _)))
  rw [← hw0]
  clear hw0 HT
  refine (alive_any _ (by exact HT0.out)).mono ?_
  rintro e w1 ⟨rfl, hb⟩
  have HT1 := Lib.hid (Tab.later HT0.out hb)
  have B1 := Lib.hid (B0.out.trans (hb.mono B0.out.size))
  clear hb B0 HT0  
  go_wp2_with fail
  go_ret
  exact ⟨rfl, B1.out⟩

set_option maxHeartbeats 1000000 in
theorem parts_over (p : Option Addr) (n cap : Nat) (at0 : Int) (h1 : ¬ (200 : Int) < (n : Int)) (h2 : ¬ at0 < 0) (h3 : (n : Int) < at0) (w : World) (ht : Tab w) :
    Calls Tryd.prog 9 #[.slice p n cap, .int .i64 at0] w fun e w' => e = .returned (.bool true) ∧ Below w.heap.size w w' := by
  have HT := Lib.hid ht
  clear ht
  go_enter Tryd.func9, Tryd.ntmps9
  go_wp2_with fail
  obtain ⟨w0, hw0⟩ : ∃ w0, w0 = w := ⟨_, rfl⟩
  have B0 : Hid (Below w.heap.size w w0) := by
    show Below _ _ _
    rw [hw0]
    exact (Below.refl _ _)
  have HT0 := Lib.hid (Tab.later HT.out (B0.out.mono (Nat.le_refl _)))
  rw [← hw0]
  clear hw0 HT
  refine (alive_any _ (by exact HT0.out)).mono ?_
  rintro e w1 ⟨rfl, hb⟩
  have HT1 := Lib.hid (Tab.later HT0.out hb)
  have B1 := Lib.hid (B0.out.trans (hb.mono B0.out.size))
  clear hb B0 HT0  
  go_wp2_with fail
  go_ret
  exact ⟨rfl, B1.out⟩

set_option maxHeartbeats 2000000 in
theorem parts_zero (p : Option Addr) (w : World) (ht : Tab w)
    (h1 : ∀ sv w, Elems w sv [] → Calls Tryd.prog 19 #[sv] w fun e w' => e = .returned (.tuple #[.agg #[.int .i64 0, .int .i64 1], .int .i64 0]) ∧ Below w.heap.size w w')
    (h4 : ∀ w, Calls Tryd.prog 18 #[.agg #[.int .i64 0, .int .i64 1], .agg #[.int .i64 0, .int .i64 1]] w fun e w' => e = .returned (.tuple #[.agg #[.int .i64 0, .int .i64 1], .int .i64 0]) ∧ Below w.heap.size w w') :
    Calls Tryd.prog 9 #[.slice p 0 0, .int .i64 0] w fun e w' => e = .returned (.bool true) ∧ Below w.heap.size w w' := by
  have K1 := Lib.hid h1
  have K4 := Lib.hid h4
  clear h1 h4
  have HT := Lib.hid ht
  clear ht
  go_enter Tryd.func9, Tryd.ntmps9
  go_wp2_with fail
  obtain ⟨w0, hw0⟩ : ∃ w0, w0 = w := ⟨_, rfl⟩
  have B0 : Hid (Below w.heap.size w w0) := by
    show Below _ _ _
    rw [hw0]
    exact (Below.refl _ _)
  have HT0 := Lib.hid (Tab.later HT.out (B0.out.mono (Nat.le_refl _)))
  rw [← hw0]
  clear hw0 HT
  refine (alive_any _ (by exact HT0.out)).mono ?_
  rintro e w1 ⟨rfl, hb⟩
  have HT1 := Lib.hid (Tab.later HT0.out hb)
  have B1 := Lib.hid (B0.out.trans (hb.mono B0.out.size))
  clear hb B0 HT0  
  go_wp2_with fail
  refine (K1.out _ _ (.none _ _)).mono ?_
  rintro e w2 ⟨rfl, hb⟩
  have HT2 := Lib.hid (Tab.later HT1.out hb)
  have B2 := Lib.hid (B1.out.trans (hb.mono B1.out.size))
  clear hb B1 HT1  
  go_wp2_with fail
  refine (K1.out _ _ (.none _ _)).mono ?_
  rintro e w3 ⟨rfl, hb⟩
  have E0_3 := Lib.hid (below_new hb (heap_alloc_new w2 (.cells #[.int .i64 0, .int .i64 1] 23)))
  have HT3 := Lib.hid ((Tab.later HT2.out ((Below.refl _ _).alloc (Nat.le_refl _) (.cells #[.int .i64 0, .int .i64 1] 23))).later hb)
  have B3 := Lib.hid ((B2.out.alloc B2.out.size (.cells #[.int .i64 0, .int .i64 1] 23)).trans (hb.mono (Nat.le_trans B2.out.size (by simp))))
  clear hb B2 HT2  
  have l0_3 := lt_of_block E0_3.out
  have p0_3 := cell_two0 E0_3.out
  have q0_3 := cell_two1 E0_3.out
  go_wp2_with fail
  refine (K1.out _ _ (.none _ _)).mono ?_
  rintro e w4 ⟨rfl, hb⟩
  have E0_4 := Lib.hid (below_new hb (heap_alloc_old (E0_3).out _))
  have E1_4 := Lib.hid (below_new hb (heap_alloc_new w3 (.cells #[.int .i64 0, .int .i64 1] 23)))
  have HT4 := Lib.hid ((Tab.later HT3.out ((Below.refl _ _).alloc (Nat.le_refl _) (.cells #[.int .i64 0, .int .i64 1] 23))).later hb)
  have B4 := Lib.hid ((B3.out.alloc B3.out.size (.cells #[.int .i64 0, .int .i64 1] 23)).trans (hb.mono (Nat.le_trans B3.out.size (by simp))))
  clear hb B3 HT3 E0_3 l0_3 p0_3 q0_3
  have l0_4 := lt_of_block E0_4.out
  have p0_4 := cell_two0 E0_4.out
  have q0_4 := cell_two1 E0_4.out
  have l1_4 := lt_of_block E1_4.out
  have p1_4 := cell_two0 E1_4.out
  have q1_4 := cell_two1 E1_4.out
  have e4 := heap_alloc_new w4 (.cells #[.int .i64 0, .int .i64 1] 23)
  have p4 := cell_two0 e4
  have q4 := cell_two1 e4
  clear e4
  go_wp2_with fail
  refine (K4.out _).mono ?_
  rintro e w5 ⟨rfl, hb⟩
  have E0_5 := Lib.hid (below_new hb (heap_alloc_old (E0_4).out _))
  have E1_5 := Lib.hid (below_new hb (heap_alloc_old (E1_4).out _))
  have E2_5 := Lib.hid (below_new hb (heap_alloc_new w4 (.cells #[.int .i64 0, .int .i64 1] 23)))
  have HT5 := Lib.hid ((Tab.later HT4.out ((Below.refl _ _).alloc (Nat.le_refl _) (.cells #[.int .i64 0, .int .i64 1] 23))).later hb)
  have B5 := Lib.hid ((B4.out.alloc B4.out.size (.cells #[.int .i64 0, .int .i64 1] 23)).trans (hb.mono (Nat.le_trans B4.out.size (by simp))))
  clear hb B4 HT4 E0_4 E1_4 l0_4 p0_4 q0_4 l1_4 p1_4 q1_4 p4 q4
  have l0_5 := lt_of_block E0_5.out
  have p0_5 := cell_two0 E0_5.out
  have q0_5 := cell_two1 E0_5.out
  have l1_5 := lt_of_block E1_5.out
  have p1_5 := cell_two0 E1_5.out
  have q1_5 := cell_two1 E1_5.out
  have l2_5 := lt_of_block E2_5.out
  have p2_5 := cell_two0 E2_5.out
  have q2_5 := cell_two1 E2_5.out
  go_wp2_with fail
  go_ret
  exact ⟨rfl, (B5.out.alloc B5.out.size _)⟩

set_option maxHeartbeats 2000000 in
theorem parts_nil (cap : Nat) (hz : ¬ cap = 0) (w : World) (ht : Tab w)
    (h1 : ∀ sv w, Elems w sv [] → Calls Tryd.prog 19 #[sv] w fun e w' => e = .returned (.tuple #[.agg #[.int .i64 0, .int .i64 1], .int .i64 0]) ∧ Below w.heap.size w w')
    (h4 : ∀ w, Calls Tryd.prog 18 #[.agg #[.int .i64 0, .int .i64 1], .agg #[.int .i64 0, .int .i64 1]] w fun e w' => e = .returned (.tuple #[.agg #[.int .i64 0, .int .i64 1], .int .i64 0]) ∧ Below w.heap.size w w') :
    Calls Tryd.prog 9 #[.slice none 0 cap, .int .i64 0] w fun e w' => e = .returned (.bool true) ∧ Below w.heap.size w w' := by
  have K1 := Lib.hid h1
  have K4 := Lib.hid h4
  clear h1 h4
  have HT := Lib.hid ht
  clear ht
  go_enter Tryd.func9, Tryd.ntmps9
  go_wp2_with fail
  obtain ⟨w0, hw0⟩ : ∃ w0, w0 = w := ⟨_, rfl⟩
  have B0 : Hid (Below w.heap.size w w0) := by
    show Below _ _ _
    rw [hw0]
    exact (Below.refl _ _)
  have HT0 := Lib.hid (Tab.later HT.out (B0.out.mono (Nat.le_refl _)))
  rw [← hw0]
  clear hw0 HT
  refine (alive_any _ (by exact HT0.out)).mono ?_
  rintro e w1 ⟨rfl, hb⟩
  have HT1 := Lib.hid (Tab.later HT0.out hb)
  have B1 := Lib.hid (B0.out.trans (hb.mono B0.out.size))
  clear hb B0 HT0  
  go_wp2_with fail
  refine (K1.out _ _ (.none _ _)).mono ?_
  rintro e w2 ⟨rfl, hb⟩
  have HT2 := Lib.hid (Tab.later HT1.out hb)
  have B2 := Lib.hid (B1.out.trans (hb.mono B1.out.size))
  clear hb B1 HT1  
  go_wp2_with fail
  refine (K1.out _ _ (.none _ _)).mono ?_
  rintro e w3 ⟨rfl, hb⟩
  have E0_3 := Lib.hid (below_new hb (heap_alloc_new w2 (.cells #[.int .i64 0, .int .i64 1] 23)))
  have HT3 := Lib.hid ((Tab.later HT2.out ((Below.refl _ _).alloc (Nat.le_refl _) (.cells #[.int .i64 0, .int .i64 1] 23))).later hb)
  have B3 := Lib.hid ((B2.out.alloc B2.out.size (.cells #[.int .i64 0, .int .i64 1] 23)).trans (hb.mono (Nat.le_trans B2.out.size (by simp))))
  clear hb B2 HT2  
  have l0_3 := lt_of_block E0_3.out
  have p0_3 := cell_two0 E0_3.out
  have q0_3 := cell_two1 E0_3.out
  go_wp2_with fail
  refine (K1.out _ _ (.none _ _)).mono ?_
  rintro e w4 ⟨rfl, hb⟩
  have E0_4 := Lib.hid (below_new hb (heap_alloc_old (E0_3).out _))
  have E1_4 := Lib.hid (below_new hb (heap_alloc_new w3 (.cells #[.int .i64 0, .int .i64 1] 23)))
  have HT4 := Lib.hid ((Tab.later HT3.out ((Below.refl _ _).alloc (Nat.le_refl _) (.cells #[.int .i64 0, .int .i64 1] 23))).later hb)
  have B4 := Lib.hid ((B3.out.alloc B3.out.size (.cells #[.int .i64 0, .int .i64 1] 23)).trans (hb.mono (Nat.le_trans B3.out.size (by simp))))
  clear hb B3 HT3 E0_3 l0_3 p0_3 q0_3
  have l0_4 := lt_of_block E0_4.out
  have p0_4 := cell_two0 E0_4.out
  have q0_4 := cell_two1 E0_4.out
  have l1_4 := lt_of_block E1_4.out
  have p1_4 := cell_two0 E1_4.out
  have q1_4 := cell_two1 E1_4.out
  have e4 := heap_alloc_new w4 (.cells #[.int .i64 0, .int .i64 1] 23)
  have p4 := cell_two0 e4
  have q4 := cell_two1 e4
  clear e4
  go_wp2_with fail
  refine (K4.out _).mono ?_
  rintro e w5 ⟨rfl, hb⟩
  have E0_5 := Lib.hid (below_new hb (heap_alloc_old (E0_4).out _))
  have E1_5 := Lib.hid (below_new hb (heap_alloc_old (E1_4).out _))
  have E2_5 := Lib.hid (below_new hb (heap_alloc_new w4 (.cells #[.int .i64 0, .int .i64 1] 23)))
  have HT5 := Lib.hid ((Tab.later HT4.out ((Below.refl _ _).alloc (Nat.le_refl _) (.cells #[.int .i64 0, .int .i64 1] 23))).later hb)
  have B5 := Lib.hid ((B4.out.alloc B4.out.size (.cells #[.int .i64 0, .int .i64 1] 23)).trans (hb.mono (Nat.le_trans B4.out.size (by simp))))
  clear hb B4 HT4 E0_4 E1_4 l0_4 p0_4 q0_4 l1_4 p1_4 q1_4 p4 q4
  have l0_5 := lt_of_block E0_5.out
  have p0_5 := cell_two0 E0_5.out
  have q0_5 := cell_two1 E0_5.out
  have l1_5 := lt_of_block E1_5.out
  have p1_5 := cell_two0 E1_5.out
  have q1_5 := cell_two1 E1_5.out
  have l2_5 := lt_of_block E2_5.out
  have p2_5 := cell_two0 E2_5.out
  have q2_5 := cell_two1 E2_5.out
  go_wp2_with fail
  go_ret
  exact ⟨rfl, (B5.out.alloc B5.out.size _)⟩

set_option maxHeartbeats 2000000 in
theorem parts_cap (a : Addr) (cap : Nat) (hz : ¬ cap = 0) (w : World) (ht : Tab w)
    (h1 : ∀ sv w, Elems w sv [] → Calls Tryd.prog 19 #[sv] w fun e w' => e = .returned (.tuple #[.agg #[.int .i64 0, .int .i64 1], .int .i64 0]) ∧ Below w.heap.size w w')
    (h4 : ∀ w, Calls Tryd.prog 18 #[.agg #[.int .i64 0, .int .i64 1], .agg #[.int .i64 0, .int .i64 1]] w fun e w' => e = .returned (.tuple #[.agg #[.int .i64 0, .int .i64 1], .int .i64 0]) ∧ Below w.heap.size w w') :
    Calls Tryd.prog 9 #[.slice (some a) 0 cap, .int .i64 0] w fun e w' => e = .returned (.bool true) ∧ Below w.heap.size w w' := by
  have K1 := Lib.hid h1
  have K4 := Lib.hid h4
  clear h1 h4
  have HT := Lib.hid ht
  clear ht
  go_enter Tryd.func9, Tryd.ntmps9
  go_wp2_with fail
  obtain ⟨w0, hw0⟩ : ∃ w0, w0 = w := ⟨_, rfl⟩
  have B0 : Hid (Below w.heap.size w w0) := by
    show Below _ _ _
    rw [hw0]
    exact (Below.refl _ _)
  have HT0 := Lib.hid (Tab.later HT.out (B0.out.mono (Nat.le_refl _)))
  rw [← hw0]
  clear hw0 HT
  refine (alive_any _ (by exact HT0.out)).mono ?_
  rintro e w1 ⟨rfl, hb⟩
  have HT1 := Lib.hid (Tab.later HT0.out hb)
  have B1 := Lib.hid (B0.out.trans (hb.mono B0.out.size))
  clear hb B0 HT0  
  go_wp2_with fail
  refine (K1.out _ _ (.none _ _)).mono ?_
  rintro e w2 ⟨rfl, hb⟩
  have HT2 := Lib.hid (Tab.later HT1.out hb)
  have B2 := Lib.hid (B1.out.trans (hb.mono B1.out.size))
  clear hb B1 HT1  
  go_wp2_with fail
  refine (K1.out _ _ (.none _ _)).mono ?_
  rintro e w3 ⟨rfl, hb⟩
  have E0_3 := Lib.hid (below_new hb (heap_alloc_new w2 (.cells #[.int .i64 0, .int .i64 1] 23)))
  have HT3 := Lib.hid ((Tab.later HT2.out ((Below.refl _ _).alloc (Nat.le_refl _) (.cells #[.int .i64 0, .int .i64 1] 23))).later hb)
  have B3 := Lib.hid ((B2.out.alloc B2.out.size (.cells #[.int .i64 0, .int .i64 1] 23)).trans (hb.mono (Nat.le_trans B2.out.size (by simp))))
  clear hb B2 HT2  
  have l0_3 := lt_of_block E0_3.out
  have p0_3 := cell_two0 E0_3.out
  have q0_3 := cell_two1 E0_3.out
  go_wp2_with fail
  refine (K1.out _ _ (.none _ _)).mono ?_
  rintro e w4 ⟨rfl, hb⟩
  have E0_4 := Lib.hid (below_new hb (heap_alloc_old (E0_3).out _))
  have E1_4 := Lib.hid (below_new hb (heap_alloc_new w3 (.cells #[.int .i64 0, .int .i64 1] 23)))
  have HT4 := Lib.hid ((Tab.later HT3.out ((Below.refl _ _).alloc (Nat.le_refl _) (.cells #[.int .i64 0, .int .i64 1] 23))).later hb)
  have B4 := Lib.hid ((B3.out.alloc B3.out.size (.cells #[.int .i64 0, .int .i64 1] 23)).trans (hb.mono (Nat.le_trans B3.out.size (by simp))))
  clear hb B3 HT3 E0_3 l0_3 p0_3 q0_3
  have l0_4 := lt_of_block E0_4.out
  have p0_4 := cell_two0 E0_4.out
  have q0_4 := cell_two1 E0_4.out
  have l1_4 := lt_of_block E1_4.out
  have p1_4 := cell_two0 E1_4.out
  have q1_4 := cell_two1 E1_4.out
  have e4 := heap_alloc_new w4 (.cells #[.int .i64 0, .int .i64 1] 23)
  have p4 := cell_two0 e4
  have q4 := cell_two1 e4
  clear e4
  go_wp2_with fail
  refine (K4.out _).mono ?_
  rintro e w5 ⟨rfl, hb⟩
  have E0_5 := Lib.hid (below_new hb (heap_alloc_old (E0_4).out _))
  have E1_5 := Lib.hid (below_new hb (heap_alloc_old (E1_4).out _))
  have E2_5 := Lib.hid (below_new hb (heap_alloc_new w4 (.cells #[.int .i64 0, .int .i64 1] 23)))
  have HT5 := Lib.hid ((Tab.later HT4.out ((Below.refl _ _).alloc (Nat.le_refl _) (.cells #[.int .i64 0, .int .i64 1] 23))).later hb)
  have B5 := Lib.hid ((B4.out.alloc B4.out.size (.cells #[.int .i64 0, .int .i64 1] 23)).trans (hb.mono (Nat.le_trans B4.out.size (by simp))))
  clear hb B4 HT4 E0_4 E1_4 l0_4 p0_4 q0_4 l1_4 p1_4 q1_4 p4 q4
  have l0_5 := lt_of_block E0_5.out
  have p0_5 := cell_two0 E0_5.out
  have q0_5 := cell_two1 E0_5.out
  have l1_5 := lt_of_block E1_5.out
  have p1_5 := cell_two0 E1_5.out
  have q1_5 := cell_two1 E1_5.out
  have l2_5 := lt_of_block E2_5.out
  have p2_5 := cell_two0 E2_5.out
  have q2_5 := cell_two1 E2_5.out
  go_wp2_with fail
  go_ret
  exact ⟨rfl, (B5.out.alloc B5.out.size _)⟩

end Go.Proofs.YtchjkjhkmhkjeaaDoor
