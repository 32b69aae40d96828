/-
  What Cmp, Floor and Ceil of package ratio hand back, for any pairs of numbers.
-/
import Derived.Test.YtchjkjhkmhkjeaaDoorRatOps
import Derived.Test.YtchjkjhkmhkjeaaDoorRatDoorI
import Derived.Test.YtchjkjhkmhkjeaaDoorRatDoorL
namespace Go.Proofs.YtchjkjhkmhkjeaaDoor
open Go.RowKit
open RM
set_option linter.unusedVariables false
set_option linter.unusedSimpArgs false

theorem tdiv_bd (n d : Int) (h1 : -1000000000 ≤ n) (h2 : n ≤ 1000000000) : -1000000000 ≤ n.tdiv d ∧ n.tdiv d ≤ 1000000000 := by
  have h : (n.tdiv d).natAbs ≤ n.natAbs := by rw [Int.natAbs_tdiv]; exact Nat.div_le_self _ _
  omega
theorem floor_down {n d : Int} (hd : 1 ≤ d) (h : n.tmod d < 0) : n.tdiv d - 1 = n / d := by
  have e := Int.mul_tdiv_add_tmod n d
  have l := Int.lt_tmod_of_pos n (show 0 < d by omega)
  refine ((Int.ediv_emod_unique (r := n.tmod d + d) (q := n.tdiv d - 1) (show 0 < d by omega)).2 ⟨?_, by omega, by omega⟩).1.symm
  rw [Int.mul_sub, Int.mul_one]; omega
theorem floor_flat {n d : Int} (hd : 1 ≤ d) (h : 0 ≤ n.tmod d) : n.tdiv d = n / d := by
  have e := Int.mul_tdiv_add_tmod n d
  have l := Int.tmod_lt_of_pos n (show 0 < d by omega)
  exact ((Int.ediv_emod_unique (r := n.tmod d) (q := n.tdiv d) (show 0 < d by omega)).2 ⟨by omega, by omega, by omega⟩).1.symm

set_option maxHeartbeats 400000 in
theorem floor_any (n d : Int) (h1 : -1000000000 ≤ n) (h2 : n ≤ 1000000000) (h3 : 1 ≤ d) (h4 : d ≤ 1000000000) (w : World) :
    Calls Tryd.prog 54 #[.agg #[.int .i64 n, .int .i64 d]] w fun e w' => e = .returned (.int .i64 (n / d)) ∧ Below w.heap.size w w' := by
  obtain ⟨b1, b2⟩ := tdiv_bd n d h1 h2
  by_cases ht : n.tmod d < 0
  · have Hf := Lib.hid (floor_down h3 ht)
    go_enter Tryd.func54, Tryd.ntmps54
    go_wp2_with fail
    go_ret
    exact ⟨ret_num Hf.out, (Below.refl _ _).alloc (Nat.le_refl _) _⟩
  · have Hf := Lib.hid (floor_flat h3 (show 0 ≤ n.tmod d by omega))
    go_enter Tryd.func54, Tryd.ntmps54
    go_wp2_with fail
    go_ret
    exact ⟨ret_num Hf.out, (Below.refl _ _).alloc (Nat.le_refl _) _⟩

set_option maxHeartbeats 400000 in
theorem floor_step (c pa : Nat) (an ad : Int) (h1 : -1000000000 ≤ an) (h2 : an ≤ 1000000000) (h3 : 1 ≤ ad) (h4 : ad ≤ 1000000000) (w : World)
    (ea : w.heap[pa]? = some (.cells #[.int .i64 an, .int .i64 ad] 23 (0, 0))) :
    Calls Tryd.prog 53 #[.pointer (some ⟨c, 0, none⟩), .pointer (some ⟨pa, 0, none⟩)] w fun e w' => e = .returned (.int .i64 (an / ad)) ∧ Below w.heap.size w w' := by
  have q1 : w.cell? ⟨pa, 0, none⟩ = some (.int .i64 an) := by simp [World.cell?, ea]
  have q2 : w.cell? ⟨pa, 1, none⟩ = some (.int .i64 ad) := by simp [World.cell?, ea]
  have l1 := lt_of_block ea
  clear ea
  go_enter Tryd.func53, Tryd.ntmps53
  go_wp2_with fail
  refine (floor_any an ad h1 h2 h3 h4 _).mono ?_
  rintro e w1 ⟨rfl, hb⟩
  have HB := Lib.hid hb
  clear hb
  go_wp2_with fail
  go_ret
  exact ⟨rfl, HB.out⟩

set_option maxHeartbeats 400000 in
theorem ceil_step (c pa : Nat) (an ad : Int) (h1 : -1000000000 ≤ an) (h2 : an ≤ 1000000000) (h3 : 1 ≤ ad) (h4 : ad ≤ 1000000000) (w : World)
    (ea : w.heap[pa]? = some (.cells #[.int .i64 an, .int .i64 ad] 23 (0, 0))) :
    Calls Tryd.prog 55 #[.pointer (some ⟨c, 0, none⟩), .pointer (some ⟨pa, 0, none⟩)] w fun e w' => e = .returned (.int .i64 (-(-an / ad))) ∧ Below w.heap.size w w' := by
  have q1 : w.cell? ⟨pa, 0, none⟩ = some (.int .i64 an) := by simp [World.cell?, ea]
  have q2 : w.cell? ⟨pa, 1, none⟩ = some (.int .i64 ad) := by simp [World.cell?, ea]
  have l1 := lt_of_block ea
  have bd : -1000000001 ≤ -an / ad ∧ -an / ad ≤ 1000000000 := by
    have hb := tdiv_bd (-an) ad (by omega) (by omega)
    by_cases ht : (-an).tmod ad < 0
    · have := floor_down h3 ht; omega
    · have := floor_flat (n := -an) h3 (by omega); omega
  obtain ⟨bd1, bd2⟩ := bd
  clear ea
  go_enter Tryd.func55, Tryd.ntmps55
  go_wp2_with fail
  refine (floor_any (-an) ad (by omega) (by omega) h3 h4 _).mono ?_
  rintro e w1 ⟨rfl, hb⟩
  have HB := Lib.hid hb
  clear hb
  go_wp2_with fail
  go_ret
  exact ⟨rfl, HB.out⟩

/-- The sign of a difference. -/
def cmpI (x y : Int) : Int := if x < y then -1 else if y < x then 1 else 0
set_option maxHeartbeats 400000 in
theorem compare_any (a b : Int) (w : World) :
    Calls Tryd.prog 51 #[.int .i64 a, .int .i64 b] w fun e w' => e = .returned (.int .i64 (cmpI a b)) ∧ w = w' := by
  by_cases h : a < b
  · have H := Lib.hid (show (-1 : Int) = cmpI a b by simp [cmpI, h])
    go_enter Tryd.func51, Tryd.ntmps51
    go_wp2
    go_ret
    exact ⟨ret_num H.out, rfl⟩
  by_cases h' : b < a
  · have H := Lib.hid (show (1 : Int) = cmpI a b by simp [cmpI, h, h'])
    go_enter Tryd.func51, Tryd.ntmps51
    go_wp2
    go_ret
    exact ⟨ret_num H.out, rfl⟩
  · have H := Lib.hid (show (0 : Int) = cmpI a b by simp [cmpI, h, h'])
    go_enter Tryd.func51, Tryd.ntmps51
    go_wp2
    go_ret
    exact ⟨ret_num H.out, rfl⟩

set_option maxHeartbeats 400000 in
theorem cmp_step (c pa pb : Nat) (an ad bn bd : Int) (ha : vld an ad = true) (hb : vld bn bd = true) (w : World)
    (ea : w.heap[pa]? = some (.cells #[.int .i64 an, .int .i64 ad] 23 (0, 0))) (eb : w.heap[pb]? = some (.cells #[.int .i64 bn, .int .i64 bd] 23 (0, 0))) :
    Calls Tryd.prog 50 #[.pointer (some ⟨c, 0, none⟩), .pointer (some ⟨pa, 0, none⟩), .pointer (some ⟨pb, 0, none⟩)] w fun e w' => e = .returned (.int .i64 (cmpI (an * bd) (bn * ad))) ∧ w = w' := by
  obtain ⟨a1, a2, a3, a4, a5⟩ := vld_iff.1 ha
  obtain ⟨b1, b2, b3, b4, b5⟩ := vld_iff.1 hb
  clear a5 b5 ha hb
  obtain ⟨m1a, m1b⟩ := mul_bd a3 a4 (by omega) b2
  obtain ⟨m2a, m2b⟩ := mul_bd b3 b4 (by omega) a2
  have q1 : w.cell? ⟨pa, 0, none⟩ = some (.int .i64 an) := by simp [World.cell?, ea]
  have q2 : w.cell? ⟨pa, 1, none⟩ = some (.int .i64 ad) := by simp [World.cell?, ea]
  have q3 : w.cell? ⟨pb, 0, none⟩ = some (.int .i64 bn) := by simp [World.cell?, eb]
  have q4 : w.cell? ⟨pb, 1, none⟩ = some (.int .i64 bd) := by simp [World.cell?, eb]
  have l1 := lt_of_block ea
  have l2 := lt_of_block eb
  clear ea eb
  go_enter Tryd.func50, Tryd.ntmps50
  go_wp2_with fail
  refine (compare_any _ _ _).mono ?_
  rintro e w1 ⟨rfl, rfl⟩
  go_wp2_with fail
  go_ret
  exact ⟨rfl, rfl⟩

set_option maxHeartbeats 400000 in
theorem cmp_any (an ad bn bd : Int) (w : World) :
    Calls Tryd.prog 25 #[.agg #[.int .i64 an, .int .i64 ad], .agg #[.int .i64 bn, .int .i64 bd]] w fun e w' =>
      e = .returned (.tuple #[.int .i64 (okN (vld an ad && vld bn bd) (cmpI (an * bd) (bn * ad))), .int .i64 (okE (vld an ad && vld bn bd))]) ∧ Below w.heap.size w w' := by
  have hmf : ∀ (fn : Fn) (first cap : Array Value) (w : World), (Instr.makeFunc fn first cap).run Tryd.prog w = .ok (.func fn first cap) w := fun _ _ _ _ => rfl
  go_enter Tryd.func25, Tryd.ntmps25
  go_wp2_with fail
  have eA : (((w.alloc (.cells #[.int .i64 an, .int .i64 ad] 23)).alloc (.cells #[.int .i64 bn, .int .i64 bd] 23)).alloc (.cells #[.int .i64 an, .int .i64 ad, .int .i64 bn, .int .i64 bd] 23)).heap[w.heap.size]? = some (.cells #[.int .i64 an, .int .i64 ad] 23 (0, 0)) := heap_alloc_old (heap_alloc_old (heap_alloc_new _ _) _) _
  have eB : (((w.alloc (.cells #[.int .i64 an, .int .i64 ad] 23)).alloc (.cells #[.int .i64 bn, .int .i64 bd] 23)).alloc (.cells #[.int .i64 an, .int .i64 ad, .int .i64 bn, .int .i64 bd] 23)).heap[w.heap.size + 1]? = some (.cells #[.int .i64 bn, .int .i64 bd] 23 (0, 0)) :=
    heap_alloc_old (by have := heap_alloc_new (w.alloc (.cells #[.int .i64 an, .int .i64 ad] 23)) (.cells #[.int .i64 bn, .int .i64 bd] 23); simpa using this) _
  have eS : (((w.alloc (.cells #[.int .i64 an, .int .i64 ad] 23)).alloc (.cells #[.int .i64 bn, .int .i64 bd] 23)).alloc (.cells #[.int .i64 an, .int .i64 ad, .int .i64 bn, .int .i64 bd] 23)).heap[w.heap.size + 1 + 1]? = some (.cells #[.int .i64 an, .int .i64 ad, .int .i64 bn, .int .i64 bd] 23 (0, 0)) := by
    have := heap_alloc_new ((w.alloc (.cells #[.int .i64 an, .int .i64 ad] 23)).alloc (.cells #[.int .i64 bn, .int .i64 bd] 23)) (.cells #[.int .i64 an, .int .i64 ad, .int .i64 bn, .int .i64 bd] 23)
    simpa using this
  refine (calcI_some 50 #[.pointer (some ⟨w.heap.size, 0, none⟩), .pointer (some ⟨w.heap.size + 1, 0, none⟩)] (w.heap.size + 1 + 1) 2 [(an, ad), (bn, bd)]
    (cmpI (an * bd) (bn * ad)) 0 _ (by simp) (operands_two _ an ad bn bd _ eS) (fun us v => by simp [go_sem]) ?_).mono ?_
  · intro herr wr hcalc
    have hv : (vld an ad && vld bn bd) = true := by rw [errAll_two] at herr; revert herr; split <;> simp_all
    rw [Bool.and_eq_true] at hv
    refine (cmp_step _ _ _ an ad bn bd hv.1 hv.2 wr ((hcalc.below.block _ (lt_of_block eA)).trans eA) ((hcalc.below.block _ (lt_of_block eB)).trans eB)).mono ?_
    rintro e w2 ⟨rfl, rfl⟩
    exact ⟨rfl, hcalc⟩
  rintro e w1 ⟨rfl, hb1⟩
  have HB := Lib.hid hb1
  obtain ⟨o1, o2⟩ := out_ok2 an ad bn bd (cmpI (an * bd) (bn * ad))
  rw [o1, o2]
  clear hb1 eA eB eS o1 o2
  go_wp2_with fail
  go_ret2
  exact ⟨rfl, Below.trans ((((Below.refl _ _).alloc (Nat.le_refl _) _).alloc (by simp) _).alloc (by simp; omega) _) (HB.out.mono (by simp; omega))⟩

set_option maxHeartbeats 400000 in
theorem floorR_any (an ad : Int) (w : World) :
    Calls Tryd.prog 26 #[.agg #[.int .i64 an, .int .i64 ad]] w fun e w' =>
      e = .returned (.tuple #[.int .i64 (okN (vld an ad) (an / ad)), .int .i64 (okE (vld an ad))]) ∧ Below w.heap.size w w' := by
  have hmf : ∀ (fn : Fn) (first cap : Array Value) (w : World), (Instr.makeFunc fn first cap).run Tryd.prog w = .ok (.func fn first cap) w := fun _ _ _ _ => rfl
  go_enter Tryd.func26, Tryd.ntmps26
  go_wp2_with fail
  have eA : ((w.alloc (.cells #[.int .i64 an, .int .i64 ad] 23)).alloc (.cells #[.int .i64 an, .int .i64 ad] 23)).heap[w.heap.size]? = some (.cells #[.int .i64 an, .int .i64 ad] 23 (0, 0)) := heap_alloc_old (heap_alloc_new _ _) _
  have eS : ((w.alloc (.cells #[.int .i64 an, .int .i64 ad] 23)).alloc (.cells #[.int .i64 an, .int .i64 ad] 23)).heap[w.heap.size + 1]? = some (.cells #[.int .i64 an, .int .i64 ad] 23 (0, 0)) := by
    have := heap_alloc_new (w.alloc (.cells #[.int .i64 an, .int .i64 ad] 23)) (.cells #[.int .i64 an, .int .i64 ad] 23)
    simpa using this
  refine (calcL_some 53 #[.pointer (some ⟨w.heap.size, 0, none⟩)] (w.heap.size + 1) 1 [(an, ad)]
    (an / ad) 0 _ (by simp) (operands_one _ an ad _ eS) (fun us v => by simp [go_sem]) ?_).mono ?_
  · intro herr wr hcalc
    have hv : vld an ad = true := by rw [errAll_one] at herr; revert herr; split <;> simp_all
    obtain ⟨a1, a2, a3, a4, a5⟩ := vld_iff.1 hv
    refine (floor_step _ _ an ad a3 a4 a1 a2 wr ((hcalc.below.block _ (lt_of_block eA)).trans eA)).mono ?_
    rintro e w2 ⟨rfl, h2⟩
    exact ⟨rfl, hcalc.later h2⟩
  rintro e w1 ⟨rfl, hb1⟩
  have HB := Lib.hid hb1
  obtain ⟨o1, o2⟩ := out_ok1 an ad (an / ad)
  rw [o1, o2]
  clear hb1 eA eS o1 o2
  go_wp2_with fail
  go_ret2
  exact ⟨rfl, Below.trans (((Below.refl _ _).alloc (Nat.le_refl _) _).alloc (by simp) _) (HB.out.mono (by simp; omega))⟩

set_option maxHeartbeats 400000 in
theorem ceilR_any (an ad : Int) (w : World) :
    Calls Tryd.prog 27 #[.agg #[.int .i64 an, .int .i64 ad]] w fun e w' =>
      e = .returned (.tuple #[.int .i64 (okN (vld an ad) (-(-an / ad))), .int .i64 (okE (vld an ad))]) ∧ Below w.heap.size w w' := by
  have hmf : ∀ (fn : Fn) (first cap : Array Value) (w : World), (Instr.makeFunc fn first cap).run Tryd.prog w = .ok (.func fn first cap) w := fun _ _ _ _ => rfl
  go_enter Tryd.func27, Tryd.ntmps27
  go_wp2_with fail
  have eA : ((w.alloc (.cells #[.int .i64 an, .int .i64 ad] 23)).alloc (.cells #[.int .i64 an, .int .i64 ad] 23)).heap[w.heap.size]? = some (.cells #[.int .i64 an, .int .i64 ad] 23 (0, 0)) := heap_alloc_old (heap_alloc_new _ _) _
  have eS : ((w.alloc (.cells #[.int .i64 an, .int .i64 ad] 23)).alloc (.cells #[.int .i64 an, .int .i64 ad] 23)).heap[w.heap.size + 1]? = some (.cells #[.int .i64 an, .int .i64 ad] 23 (0, 0)) := by
    have := heap_alloc_new (w.alloc (.cells #[.int .i64 an, .int .i64 ad] 23)) (.cells #[.int .i64 an, .int .i64 ad] 23)
    simpa using this
  refine (calcL_some 55 #[.pointer (some ⟨w.heap.size, 0, none⟩)] (w.heap.size + 1) 1 [(an, ad)]
    (-(-an / ad)) 0 _ (by simp) (operands_one _ an ad _ eS) (fun us v => by simp [go_sem]) ?_).mono ?_
  · intro herr wr hcalc
    have hv : vld an ad = true := by rw [errAll_one] at herr; revert herr; split <;> simp_all
    obtain ⟨a1, a2, a3, a4, a5⟩ := vld_iff.1 hv
    refine (ceil_step _ _ an ad a3 a4 a1 a2 wr ((hcalc.below.block _ (lt_of_block eA)).trans eA)).mono ?_
    rintro e w2 ⟨rfl, h2⟩
    exact ⟨rfl, hcalc.later h2⟩
  rintro e w1 ⟨rfl, hb1⟩
  have HB := Lib.hid hb1
  obtain ⟨o1, o2⟩ := out_ok1 an ad (-(-an / ad))
  rw [o1, o2]
  clear hb1 eA eS o1 o2
  go_wp2_with fail
  go_ret2
  exact ⟨rfl, Below.trans (((Below.refl _ _).alloc (Nat.le_refl _) _).alloc (by simp) _) (HB.out.mono (by simp; omega))⟩

end Go.Proofs.YtchjkjhkmhkjeaaDoor
