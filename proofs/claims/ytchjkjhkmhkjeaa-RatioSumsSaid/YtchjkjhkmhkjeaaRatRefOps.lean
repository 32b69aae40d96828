/-
  What the reference's Add, Sub, Mul, Div, Neg, Cmp, Floor and Ceil hand back: the same numbers.
-/
import Derived.Test.YtchjkjhkmhkjeaaRatRef
namespace Go.Proofs.Ytchjkjhkmhkjeaa
open Go.RowKit
open RM
set_option linter.unusedVariables false
set_option linter.unusedSimpArgs false

theorem both_ok {an ad bn bd : Int} (h : (vld an ad && vld bn bd) = true) : both an ad bn bd = 0 := by simp only [both, h, if_true]
theorem both_not {an ad bn bd : Int} (h : (vld an ad && vld bn bd) = false) : both an ad bn bd = 8 := by simp [both, h]
theorem Below.via {W X Y Z : World} (h1 : Below W.heap.size W X) (h2 : Below X.heap.size X Y) (h3 : Below Y.heap.size Y Z) : Below W.heap.size W Z :=
  (h1.trans (h2.mono h1.size)).trans (h3.mono (Nat.le_trans h1.size h2.size))

set_option maxHeartbeats 800000 in
theorem refadd_ok (an ad bn bd : Int) (hv : (vld an ad && vld bn bd) = true) (w : World) :
    Calls Try.prog 6 #[.agg #[.int .i64 an, .int .i64 ad], .agg #[.int .i64 bn, .int .i64 bd]] w fun e w' =>
      e = .returned (.tuple #[.agg #[.int .i64 (mkN (an * bd + bn * ad) (ad * bd)), .int .i64 (mkD (an * bd + bn * ad) (ad * bd))], .int .i64 (mkE (an * bd + bn * ad) (ad * bd))]) ∧ Below w.heap.size w w' := by
  have hb0 := both_ok hv
  have hbe : (both an ad bn bd != 0) = false := by rw [hb0]; rfl
  rw [Bool.and_eq_true] at hv
  obtain ⟨a1, a2, a3, a4, a5⟩ := vld_iff.1 hv.1
  obtain ⟨b1, b2, b3, b4, b5⟩ := vld_iff.1 hv.2
  clear a5 b5 hv hb0
  obtain ⟨m1a, m1b⟩ := mul_bd a3 a4 (by omega) b2
  obtain ⟨m2a, m2b⟩ := mul_bd b3 b4 (by omega) a2
  obtain ⟨m3a, m3b⟩ := mul_bd (by omega) a2 (by omega) b2
  obtain ⟨m4a, m4b⟩ := mul_bd a3 a4 b3 b4
  obtain ⟨m5a, m5b⟩ := mul_bd (by omega) a2 b3 b4
  go_enter Try.func6, Try.ntmps6
  go_wp2_with fail
  refine (both_any an ad bn bd _).mono ?_
  rintro e w1 ⟨rfl, hb1⟩
  have HB1 := Lib.hid hb1
  have hs1 : w.heap.size + 1 + 1 + 1 ≤ w1.heap.size := by simpa using hb1.size
  have e0 : w1.heap[w.heap.size]? = some (.cells #[.int .i64 an, .int .i64 ad] 23 (0, 0)) := by
    refine (hb1.block _ (by simp <;> omega)).trans ?_
    refine heap_alloc_old ?_ _
    refine heap_alloc_old ?_ _
    have := heap_alloc_new w (.cells #[.int .i64 an, .int .i64 ad] 23)
    simpa using this
  have e1 : w1.heap[w.heap.size + 1]? = some (.cells #[.int .i64 bn, .int .i64 bd] 23 (0, 0)) := by
    refine (hb1.block _ (by simp <;> omega)).trans ?_
    refine heap_alloc_old ?_ _
    have := heap_alloc_new (w.alloc (.cells #[.int .i64 an, .int .i64 ad] 23)) (.cells #[.int .i64 bn, .int .i64 bd] 23)
    simpa using this
  have e2 : w1.heap[w.heap.size + 1 + 1]? = some (.cells #[.int .i64 0, .int .i64 0] 23 (0, 0)) := by
    refine (hb1.block _ (by simp <;> omega)).trans ?_
    have := heap_alloc_new ((w.alloc (.cells #[.int .i64 an, .int .i64 ad] 23)).alloc (.cells #[.int .i64 bn, .int .i64 bd] 23)) (.cells #[.int .i64 0, .int .i64 0] 23)
    simpa using this
  have q00 : w1.cell? ⟨w.heap.size, 0, none⟩ = some (.int .i64 an) := by simp [World.cell?, e0]
  have q01 : w1.cell? ⟨w.heap.size, 1, none⟩ = some (.int .i64 ad) := by simp [World.cell?, e0]
  have q10 : w1.cell? ⟨w.heap.size + 1, 0, none⟩ = some (.int .i64 bn) := by simp [World.cell?, e1]
  have q11 : w1.cell? ⟨w.heap.size + 1, 1, none⟩ = some (.int .i64 bd) := by simp [World.cell?, e1]
  have q20 : w1.cell? ⟨w.heap.size + 1 + 1, 0, none⟩ = some (.int .i64 0) := by simp [World.cell?, e2]
  have f20 : w1.frozen? ⟨w.heap.size + 1 + 1, 0, none⟩ = false := by simp [World.frozen?, e2]
  have q21 : w1.cell? ⟨w.heap.size + 1 + 1, 1, none⟩ = some (.int .i64 0) := by simp [World.cell?, e2]
  have f21 : w1.frozen? ⟨w.heap.size + 1 + 1, 1, none⟩ = false := by simp [World.frozen?, e2]
  have E2 := Lib.hid e2
  clear hb1 e0 e1 e2
  go_wp2_with fail
  refine (refmake_any (an * bd + bn * ad) (ad * bd) (by omega) (by omega) (by omega) (by omega) _).mono ?_
  rintro e w2 ⟨he, hb2⟩
  unfold Made at he
  subst he
  have HB2 := Lib.hid hb2
  have hs2 : w.heap.size + 1 + 1 + 1 ≤ w2.heap.size := Nat.le_trans hs1 hb2.size
  have e2b : w2.heap[w.heap.size + 1 + 1]? = some (.cells #[.int .i64 0, .int .i64 0] 23 (0, 0)) := (hb2.block _ (by omega)).trans E2.out
  have q20b : w2.cell? ⟨w.heap.size + 1 + 1, 0, none⟩ = some (.int .i64 0) := by simp [World.cell?, e2b]
  have f20b : w2.frozen? ⟨w.heap.size + 1 + 1, 0, none⟩ = false := by simp [World.frozen?, e2b]
  have q21b : w2.cell? ⟨w.heap.size + 1 + 1, 1, none⟩ = some (.int .i64 0) := by simp [World.cell?, e2b]
  have f21b : w2.frozen? ⟨w.heap.size + 1 + 1, 1, none⟩ = false := by simp [World.frozen?, e2b]
  clear hb2 e2b
  go_wp2_with fail
  refine bodyPost_ret (v := .tuple #[.agg #[.int .i64 (mkN (an * bd + bn * ad) (ad * bd)), .int .i64 (mkD (an * bd + bn * ad) (ad * bd))], .int .i64 (mkE (an * bd + bn * ad) (ad * bd))]) (by simp [results, Try.results6, go_sem, q20b, q21b]) rfl ⟨rfl, ?_⟩
  refine Below.setCell (Below.setCell (Below.trans (Below.trans ?_ (HB1.out.mono ?_)) (HB2.out.mono ?_)) ?_ _) ?_ _
  · exact (((Below.refl _ _).alloc (Nat.le_refl _) _).alloc (by simp) _).alloc (by simp; omega) _
  all_goals (first | omega | (simp; done) | (simp; omega))

set_option maxHeartbeats 800000 in
theorem refadd_bad (an ad bn bd : Int) (hv : (vld an ad && vld bn bd) = false) (w : World) :
    Calls Try.prog 6 #[.agg #[.int .i64 an, .int .i64 ad], .agg #[.int .i64 bn, .int .i64 bd]] w fun e w' =>
      e = .returned (.tuple #[.agg #[.int .i64 0, .int .i64 0], .int .i64 8]) ∧ Below w.heap.size w w' := by
  have hb0 := both_not hv
  have hbe : (both an ad bn bd != 0) = true := by rw [hb0]; rfl
  have Hb0 := Lib.hid hb0
  clear hb0 hv
  go_enter Try.func6, Try.ntmps6
  go_wp2_with fail
  refine (both_any an ad bn bd _).mono ?_
  rintro e w1 ⟨rfl, hb1⟩
  have HB1 := Lib.hid hb1
  have hs1 : w.heap.size + 1 + 1 + 1 ≤ w1.heap.size := by simpa using hb1.size
  have e0 : w1.heap[w.heap.size]? = some (.cells #[.int .i64 an, .int .i64 ad] 23 (0, 0)) := by
    refine (hb1.block _ (by simp <;> omega)).trans ?_
    refine heap_alloc_old ?_ _
    refine heap_alloc_old ?_ _
    have := heap_alloc_new w (.cells #[.int .i64 an, .int .i64 ad] 23)
    simpa using this
  have e1 : w1.heap[w.heap.size + 1]? = some (.cells #[.int .i64 bn, .int .i64 bd] 23 (0, 0)) := by
    refine (hb1.block _ (by simp <;> omega)).trans ?_
    refine heap_alloc_old ?_ _
    have := heap_alloc_new (w.alloc (.cells #[.int .i64 an, .int .i64 ad] 23)) (.cells #[.int .i64 bn, .int .i64 bd] 23)
    simpa using this
  have e2 : w1.heap[w.heap.size + 1 + 1]? = some (.cells #[.int .i64 0, .int .i64 0] 23 (0, 0)) := by
    refine (hb1.block _ (by simp <;> omega)).trans ?_
    have := heap_alloc_new ((w.alloc (.cells #[.int .i64 an, .int .i64 ad] 23)).alloc (.cells #[.int .i64 bn, .int .i64 bd] 23)) (.cells #[.int .i64 0, .int .i64 0] 23)
    simpa using this
  have q00 : w1.cell? ⟨w.heap.size, 0, none⟩ = some (.int .i64 an) := by simp [World.cell?, e0]
  have q01 : w1.cell? ⟨w.heap.size, 1, none⟩ = some (.int .i64 ad) := by simp [World.cell?, e0]
  have q10 : w1.cell? ⟨w.heap.size + 1, 0, none⟩ = some (.int .i64 bn) := by simp [World.cell?, e1]
  have q11 : w1.cell? ⟨w.heap.size + 1, 1, none⟩ = some (.int .i64 bd) := by simp [World.cell?, e1]
  have q20 : w1.cell? ⟨w.heap.size + 1 + 1, 0, none⟩ = some (.int .i64 0) := by simp [World.cell?, e2]
  have f20 : w1.frozen? ⟨w.heap.size + 1 + 1, 0, none⟩ = false := by simp [World.frozen?, e2]
  have q21 : w1.cell? ⟨w.heap.size + 1 + 1, 1, none⟩ = some (.int .i64 0) := by simp [World.cell?, e2]
  have f21 : w1.frozen? ⟨w.heap.size + 1 + 1, 1, none⟩ = false := by simp [World.frozen?, e2]
  have E2 := Lib.hid e2
  clear hb1 e0 e1 e2
  go_wp2_with fail
  refine (both_any an ad bn bd _).mono ?_
  rintro e w2 ⟨rfl, hb2⟩
  have HB2 := Lib.hid hb2
  have hs2 : w.heap.size + 1 + 1 + 1 ≤ w2.heap.size := Nat.le_trans hs1 hb2.size
  have e2b : w2.heap[w.heap.size + 1 + 1]? = some (.cells #[.int .i64 0, .int .i64 0] 23 (0, 0)) := (hb2.block _ (by omega)).trans E2.out
  have q20b : w2.cell? ⟨w.heap.size + 1 + 1, 0, none⟩ = some (.int .i64 0) := by simp [World.cell?, e2b]
  have f20b : w2.frozen? ⟨w.heap.size + 1 + 1, 0, none⟩ = false := by simp [World.frozen?, e2b]
  have q21b : w2.cell? ⟨w.heap.size + 1 + 1, 1, none⟩ = some (.int .i64 0) := by simp [World.cell?, e2b]
  have f21b : w2.frozen? ⟨w.heap.size + 1 + 1, 1, none⟩ = false := by simp [World.frozen?, e2b]
  clear hb2 e2b
  go_wp2_with fail
  refine bodyPost_ret (v := .tuple #[.agg #[.int .i64 0, .int .i64 0], .int .i64 (both an ad bn bd)]) (by simp [results, Try.results6, go_sem, q20b, q21b]) rfl ⟨by rw [Hb0.out], ?_⟩
  refine Below.setCell (Below.setCell (Below.trans (Below.trans ?_ (HB1.out.mono ?_)) (HB2.out.mono ?_)) ?_ _) ?_ _
  · exact (((Below.refl _ _).alloc (Nat.le_refl _) _).alloc (by simp) _).alloc (by simp; omega) _
  all_goals (first | omega | (simp; done) | (simp; omega))

theorem refadd_any (an ad bn bd : Int) (w : World) :
    Calls Try.prog 6 #[.agg #[.int .i64 an, .int .i64 ad], .agg #[.int .i64 bn, .int .i64 bd]] w fun e w' =>
      e = .returned (.tuple #[.agg #[.int .i64 (op2N (vld an ad && vld bn bd) (an * bd + bn * ad) (ad * bd)), .int .i64 (op2D (vld an ad && vld bn bd) (an * bd + bn * ad) (ad * bd))], .int .i64 (op2E (vld an ad && vld bn bd) (an * bd + bn * ad) (ad * bd))]) ∧ Below w.heap.size w w' := by
  cases hv : (vld an ad && vld bn bd) with
  | true => simpa only [op2N, op2D, op2E, if_true] using refadd_ok an ad bn bd hv w
  | false => simpa [op2N, op2D, op2E] using refadd_bad an ad bn bd hv w

set_option maxHeartbeats 800000 in
theorem refsub_ok (an ad bn bd : Int) (hv : (vld an ad && vld bn bd) = true) (w : World) :
    Calls Try.prog 10 #[.agg #[.int .i64 an, .int .i64 ad], .agg #[.int .i64 bn, .int .i64 bd]] w fun e w' =>
      e = .returned (.tuple #[.agg #[.int .i64 (mkN (an * bd - bn * ad) (ad * bd)), .int .i64 (mkD (an * bd - bn * ad) (ad * bd))], .int .i64 (mkE (an * bd - bn * ad) (ad * bd))]) ∧ Below w.heap.size w w' := by
  have hb0 := both_ok hv
  have hbe : (both an ad bn bd != 0) = false := by rw [hb0]; rfl
  rw [Bool.and_eq_true] at hv
  obtain ⟨a1, a2, a3, a4, a5⟩ := vld_iff.1 hv.1
  obtain ⟨b1, b2, b3, b4, b5⟩ := vld_iff.1 hv.2
  clear a5 b5 hv hb0
  obtain ⟨m1a, m1b⟩ := mul_bd a3 a4 (by omega) b2
  obtain ⟨m2a, m2b⟩ := mul_bd b3 b4 (by omega) a2
  obtain ⟨m3a, m3b⟩ := mul_bd (by omega) a2 (by omega) b2
  obtain ⟨m4a, m4b⟩ := mul_bd a3 a4 b3 b4
  obtain ⟨m5a, m5b⟩ := mul_bd (by omega) a2 b3 b4
  go_enter Try.func10, Try.ntmps10
  go_wp2_with fail
  refine (both_any an ad bn bd _).mono ?_
  rintro e w1 ⟨rfl, hb1⟩
  have HB1 := Lib.hid hb1
  have hs1 : w.heap.size + 1 + 1 + 1 ≤ w1.heap.size := by simpa using hb1.size
  have e0 : w1.heap[w.heap.size]? = some (.cells #[.int .i64 an, .int .i64 ad] 23 (0, 0)) := by
    refine (hb1.block _ (by simp <;> omega)).trans ?_
    refine heap_alloc_old ?_ _
    refine heap_alloc_old ?_ _
    have := heap_alloc_new w (.cells #[.int .i64 an, .int .i64 ad] 23)
    simpa using this
  have e1 : w1.heap[w.heap.size + 1]? = some (.cells #[.int .i64 bn, .int .i64 bd] 23 (0, 0)) := by
    refine (hb1.block _ (by simp <;> omega)).trans ?_
    refine heap_alloc_old ?_ _
    have := heap_alloc_new (w.alloc (.cells #[.int .i64 an, .int .i64 ad] 23)) (.cells #[.int .i64 bn, .int .i64 bd] 23)
    simpa using this
  have e2 : w1.heap[w.heap.size + 1 + 1]? = some (.cells #[.int .i64 0, .int .i64 0] 23 (0, 0)) := by
    refine (hb1.block _ (by simp <;> omega)).trans ?_
    have := heap_alloc_new ((w.alloc (.cells #[.int .i64 an, .int .i64 ad] 23)).alloc (.cells #[.int .i64 bn, .int .i64 bd] 23)) (.cells #[.int .i64 0, .int .i64 0] 23)
    simpa using this
  have q00 : w1.cell? ⟨w.heap.size, 0, none⟩ = some (.int .i64 an) := by simp [World.cell?, e0]
  have q01 : w1.cell? ⟨w.heap.size, 1, none⟩ = some (.int .i64 ad) := by simp [World.cell?, e0]
  have q10 : w1.cell? ⟨w.heap.size + 1, 0, none⟩ = some (.int .i64 bn) := by simp [World.cell?, e1]
  have q11 : w1.cell? ⟨w.heap.size + 1, 1, none⟩ = some (.int .i64 bd) := by simp [World.cell?, e1]
  have q20 : w1.cell? ⟨w.heap.size + 1 + 1, 0, none⟩ = some (.int .i64 0) := by simp [World.cell?, e2]
  have f20 : w1.frozen? ⟨w.heap.size + 1 + 1, 0, none⟩ = false := by simp [World.frozen?, e2]
  have q21 : w1.cell? ⟨w.heap.size + 1 + 1, 1, none⟩ = some (.int .i64 0) := by simp [World.cell?, e2]
  have f21 : w1.frozen? ⟨w.heap.size + 1 + 1, 1, none⟩ = false := by simp [World.frozen?, e2]
  have E2 := Lib.hid e2
  clear hb1 e0 e1 e2
  go_wp2_with fail
  refine (refmake_any (an * bd - bn * ad) (ad * bd) (by omega) (by omega) (by omega) (by omega) _).mono ?_
  rintro e w2 ⟨he, hb2⟩
  unfold Made at he
  subst he
  have HB2 := Lib.hid hb2
  have hs2 : w.heap.size + 1 + 1 + 1 ≤ w2.heap.size := Nat.le_trans hs1 hb2.size
  have e2b : w2.heap[w.heap.size + 1 + 1]? = some (.cells #[.int .i64 0, .int .i64 0] 23 (0, 0)) := (hb2.block _ (by omega)).trans E2.out
  have q20b : w2.cell? ⟨w.heap.size + 1 + 1, 0, none⟩ = some (.int .i64 0) := by simp [World.cell?, e2b]
  have f20b : w2.frozen? ⟨w.heap.size + 1 + 1, 0, none⟩ = false := by simp [World.frozen?, e2b]
  have q21b : w2.cell? ⟨w.heap.size + 1 + 1, 1, none⟩ = some (.int .i64 0) := by simp [World.cell?, e2b]
  have f21b : w2.frozen? ⟨w.heap.size + 1 + 1, 1, none⟩ = false := by simp [World.frozen?, e2b]
  clear hb2 e2b
  go_wp2_with fail
  refine bodyPost_ret (v := .tuple #[.agg #[.int .i64 (mkN (an * bd - bn * ad) (ad * bd)), .int .i64 (mkD (an * bd - bn * ad) (ad * bd))], .int .i64 (mkE (an * bd - bn * ad) (ad * bd))]) (by simp [results, Try.results10, go_sem, q20b, q21b]) rfl ⟨rfl, ?_⟩
  refine Below.setCell (Below.setCell (Below.trans (Below.trans ?_ (HB1.out.mono ?_)) (HB2.out.mono ?_)) ?_ _) ?_ _
  · exact (((Below.refl _ _).alloc (Nat.le_refl _) _).alloc (by simp) _).alloc (by simp; omega) _
  all_goals (first | omega | (simp; done) | (simp; omega))

set_option maxHeartbeats 800000 in
theorem refsub_bad (an ad bn bd : Int) (hv : (vld an ad && vld bn bd) = false) (w : World) :
    Calls Try.prog 10 #[.agg #[.int .i64 an, .int .i64 ad], .agg #[.int .i64 bn, .int .i64 bd]] w fun e w' =>
      e = .returned (.tuple #[.agg #[.int .i64 0, .int .i64 0], .int .i64 8]) ∧ Below w.heap.size w w' := by
  have hb0 := both_not hv
  have hbe : (both an ad bn bd != 0) = true := by rw [hb0]; rfl
  have Hb0 := Lib.hid hb0
  clear hb0 hv
  go_enter Try.func10, Try.ntmps10
  go_wp2_with fail
  refine (both_any an ad bn bd _).mono ?_
  rintro e w1 ⟨rfl, hb1⟩
  have HB1 := Lib.hid hb1
  have hs1 : w.heap.size + 1 + 1 + 1 ≤ w1.heap.size := by simpa using hb1.size
  have e0 : w1.heap[w.heap.size]? = some (.cells #[.int .i64 an, .int .i64 ad] 23 (0, 0)) := by
    refine (hb1.block _ (by simp <;> omega)).trans ?_
    refine heap_alloc_old ?_ _
    refine heap_alloc_old ?_ _
    have := heap_alloc_new w (.cells #[.int .i64 an, .int .i64 ad] 23)
    simpa using this
  have e1 : w1.heap[w.heap.size + 1]? = some (.cells #[.int .i64 bn, .int .i64 bd] 23 (0, 0)) := by
    refine (hb1.block _ (by simp <;> omega)).trans ?_
    refine heap_alloc_old ?_ _
    have := heap_alloc_new (w.alloc (.cells #[.int .i64 an, .int .i64 ad] 23)) (.cells #[.int .i64 bn, .int .i64 bd] 23)
    simpa using this
  have e2 : w1.heap[w.heap.size + 1 + 1]? = some (.cells #[.int .i64 0, .int .i64 0] 23 (0, 0)) := by
    refine (hb1.block _ (by simp <;> omega)).trans ?_
    have := heap_alloc_new ((w.alloc (.cells #[.int .i64 an, .int .i64 ad] 23)).alloc (.cells #[.int .i64 bn, .int .i64 bd] 23)) (.cells #[.int .i64 0, .int .i64 0] 23)
    simpa using this
  have q00 : w1.cell? ⟨w.heap.size, 0, none⟩ = some (.int .i64 an) := by simp [World.cell?, e0]
  have q01 : w1.cell? ⟨w.heap.size, 1, none⟩ = some (.int .i64 ad) := by simp [World.cell?, e0]
  have q10 : w1.cell? ⟨w.heap.size + 1, 0, none⟩ = some (.int .i64 bn) := by simp [World.cell?, e1]
  have q11 : w1.cell? ⟨w.heap.size + 1, 1, none⟩ = some (.int .i64 bd) := by simp [World.cell?, e1]
  have q20 : w1.cell? ⟨w.heap.size + 1 + 1, 0, none⟩ = some (.int .i64 0) := by simp [World.cell?, e2]
  have f20 : w1.frozen? ⟨w.heap.size + 1 + 1, 0, none⟩ = false := by simp [World.frozen?, e2]
  have q21 : w1.cell? ⟨w.heap.size + 1 + 1, 1, none⟩ = some (.int .i64 0) := by simp [World.cell?, e2]
  have f21 : w1.frozen? ⟨w.heap.size + 1 + 1, 1, none⟩ = false := by simp [World.frozen?, e2]
  have E2 := Lib.hid e2
  clear hb1 e0 e1 e2
  go_wp2_with fail
  refine (both_any an ad bn bd _).mono ?_
  rintro e w2 ⟨rfl, hb2⟩
  have HB2 := Lib.hid hb2
  have hs2 : w.heap.size + 1 + 1 + 1 ≤ w2.heap.size := Nat.le_trans hs1 hb2.size
  have e2b : w2.heap[w.heap.size + 1 + 1]? = some (.cells #[.int .i64 0, .int .i64 0] 23 (0, 0)) := (hb2.block _ (by omega)).trans E2.out
  have q20b : w2.cell? ⟨w.heap.size + 1 + 1, 0, none⟩ = some (.int .i64 0) := by simp [World.cell?, e2b]
  have f20b : w2.frozen? ⟨w.heap.size + 1 + 1, 0, none⟩ = false := by simp [World.frozen?, e2b]
  have q21b : w2.cell? ⟨w.heap.size + 1 + 1, 1, none⟩ = some (.int .i64 0) := by simp [World.cell?, e2b]
  have f21b : w2.frozen? ⟨w.heap.size + 1 + 1, 1, none⟩ = false := by simp [World.frozen?, e2b]
  clear hb2 e2b
  go_wp2_with fail
  refine bodyPost_ret (v := .tuple #[.agg #[.int .i64 0, .int .i64 0], .int .i64 (both an ad bn bd)]) (by simp [results, Try.results10, go_sem, q20b, q21b]) rfl ⟨by rw [Hb0.out], ?_⟩
  refine Below.setCell (Below.setCell (Below.trans (Below.trans ?_ (HB1.out.mono ?_)) (HB2.out.mono ?_)) ?_ _) ?_ _
  · exact (((Below.refl _ _).alloc (Nat.le_refl _) _).alloc (by simp) _).alloc (by simp; omega) _
  all_goals (first | omega | (simp; done) | (simp; omega))

theorem refsub_any (an ad bn bd : Int) (w : World) :
    Calls Try.prog 10 #[.agg #[.int .i64 an, .int .i64 ad], .agg #[.int .i64 bn, .int .i64 bd]] w fun e w' =>
      e = .returned (.tuple #[.agg #[.int .i64 (op2N (vld an ad && vld bn bd) (an * bd - bn * ad) (ad * bd)), .int .i64 (op2D (vld an ad && vld bn bd) (an * bd - bn * ad) (ad * bd))], .int .i64 (op2E (vld an ad && vld bn bd) (an * bd - bn * ad) (ad * bd))]) ∧ Below w.heap.size w w' := by
  cases hv : (vld an ad && vld bn bd) with
  | true => simpa only [op2N, op2D, op2E, if_true] using refsub_ok an ad bn bd hv w
  | false => simpa [op2N, op2D, op2E] using refsub_bad an ad bn bd hv w

set_option maxHeartbeats 800000 in
theorem refmul_ok (an ad bn bd : Int) (hv : (vld an ad && vld bn bd) = true) (w : World) :
    Calls Try.prog 12 #[.agg #[.int .i64 an, .int .i64 ad], .agg #[.int .i64 bn, .int .i64 bd]] w fun e w' =>
      e = .returned (.tuple #[.agg #[.int .i64 (mkN (an * bn) (ad * bd)), .int .i64 (mkD (an * bn) (ad * bd))], .int .i64 (mkE (an * bn) (ad * bd))]) ∧ Below w.heap.size w w' := by
  have hb0 := both_ok hv
  have hbe : (both an ad bn bd != 0) = false := by rw [hb0]; rfl
  rw [Bool.and_eq_true] at hv
  obtain ⟨a1, a2, a3, a4, a5⟩ := vld_iff.1 hv.1
  obtain ⟨b1, b2, b3, b4, b5⟩ := vld_iff.1 hv.2
  clear a5 b5 hv hb0
  obtain ⟨m1a, m1b⟩ := mul_bd a3 a4 (by omega) b2
  obtain ⟨m2a, m2b⟩ := mul_bd b3 b4 (by omega) a2
  obtain ⟨m3a, m3b⟩ := mul_bd (by omega) a2 (by omega) b2
  obtain ⟨m4a, m4b⟩ := mul_bd a3 a4 b3 b4
  obtain ⟨m5a, m5b⟩ := mul_bd (by omega) a2 b3 b4
  go_enter Try.func12, Try.ntmps12
  go_wp2_with fail
  refine (both_any an ad bn bd _).mono ?_
  rintro e w1 ⟨rfl, hb1⟩
  have HB1 := Lib.hid hb1
  have hs1 : w.heap.size + 1 + 1 + 1 ≤ w1.heap.size := by simpa using hb1.size
  have e0 : w1.heap[w.heap.size]? = some (.cells #[.int .i64 an, .int .i64 ad] 23 (0, 0)) := by
    refine (hb1.block _ (by simp <;> omega)).trans ?_
    refine heap_alloc_old ?_ _
    refine heap_alloc_old ?_ _
    have := heap_alloc_new w (.cells #[.int .i64 an, .int .i64 ad] 23)
    simpa using this
  have e1 : w1.heap[w.heap.size + 1]? = some (.cells #[.int .i64 bn, .int .i64 bd] 23 (0, 0)) := by
    refine (hb1.block _ (by simp <;> omega)).trans ?_
    refine heap_alloc_old ?_ _
    have := heap_alloc_new (w.alloc (.cells #[.int .i64 an, .int .i64 ad] 23)) (.cells #[.int .i64 bn, .int .i64 bd] 23)
    simpa using this
  have e2 : w1.heap[w.heap.size + 1 + 1]? = some (.cells #[.int .i64 0, .int .i64 0] 23 (0, 0)) := by
    refine (hb1.block _ (by simp <;> omega)).trans ?_
    have := heap_alloc_new ((w.alloc (.cells #[.int .i64 an, .int .i64 ad] 23)).alloc (.cells #[.int .i64 bn, .int .i64 bd] 23)) (.cells #[.int .i64 0, .int .i64 0] 23)
    simpa using this
  have q00 : w1.cell? ⟨w.heap.size, 0, none⟩ = some (.int .i64 an) := by simp [World.cell?, e0]
  have q01 : w1.cell? ⟨w.heap.size, 1, none⟩ = some (.int .i64 ad) := by simp [World.cell?, e0]
  have q10 : w1.cell? ⟨w.heap.size + 1, 0, none⟩ = some (.int .i64 bn) := by simp [World.cell?, e1]
  have q11 : w1.cell? ⟨w.heap.size + 1, 1, none⟩ = some (.int .i64 bd) := by simp [World.cell?, e1]
  have q20 : w1.cell? ⟨w.heap.size + 1 + 1, 0, none⟩ = some (.int .i64 0) := by simp [World.cell?, e2]
  have f20 : w1.frozen? ⟨w.heap.size + 1 + 1, 0, none⟩ = false := by simp [World.frozen?, e2]
  have q21 : w1.cell? ⟨w.heap.size + 1 + 1, 1, none⟩ = some (.int .i64 0) := by simp [World.cell?, e2]
  have f21 : w1.frozen? ⟨w.heap.size + 1 + 1, 1, none⟩ = false := by simp [World.frozen?, e2]
  have E2 := Lib.hid e2
  clear hb1 e0 e1 e2
  go_wp2_with fail
  refine (refmake_any (an * bn) (ad * bd) (by omega) (by omega) (by omega) (by omega) _).mono ?_
  rintro e w2 ⟨he, hb2⟩
  unfold Made at he
  subst he
  have HB2 := Lib.hid hb2
  have hs2 : w.heap.size + 1 + 1 + 1 ≤ w2.heap.size := Nat.le_trans hs1 hb2.size
  have e2b : w2.heap[w.heap.size + 1 + 1]? = some (.cells #[.int .i64 0, .int .i64 0] 23 (0, 0)) := (hb2.block _ (by omega)).trans E2.out
  have q20b : w2.cell? ⟨w.heap.size + 1 + 1, 0, none⟩ = some (.int .i64 0) := by simp [World.cell?, e2b]
  have f20b : w2.frozen? ⟨w.heap.size + 1 + 1, 0, none⟩ = false := by simp [World.frozen?, e2b]
  have q21b : w2.cell? ⟨w.heap.size + 1 + 1, 1, none⟩ = some (.int .i64 0) := by simp [World.cell?, e2b]
  have f21b : w2.frozen? ⟨w.heap.size + 1 + 1, 1, none⟩ = false := by simp [World.frozen?, e2b]
  clear hb2 e2b
  go_wp2_with fail
  refine bodyPost_ret (v := .tuple #[.agg #[.int .i64 (mkN (an * bn) (ad * bd)), .int .i64 (mkD (an * bn) (ad * bd))], .int .i64 (mkE (an * bn) (ad * bd))]) (by simp [results, Try.results12, go_sem, q20b, q21b]) rfl ⟨rfl, ?_⟩
  refine Below.setCell (Below.setCell (Below.trans (Below.trans ?_ (HB1.out.mono ?_)) (HB2.out.mono ?_)) ?_ _) ?_ _
  · exact (((Below.refl _ _).alloc (Nat.le_refl _) _).alloc (by simp) _).alloc (by simp; omega) _
  all_goals (first | omega | (simp; done) | (simp; omega))

set_option maxHeartbeats 800000 in
theorem refmul_bad (an ad bn bd : Int) (hv : (vld an ad && vld bn bd) = false) (w : World) :
    Calls Try.prog 12 #[.agg #[.int .i64 an, .int .i64 ad], .agg #[.int .i64 bn, .int .i64 bd]] w fun e w' =>
      e = .returned (.tuple #[.agg #[.int .i64 0, .int .i64 0], .int .i64 8]) ∧ Below w.heap.size w w' := by
  have hb0 := both_not hv
  have hbe : (both an ad bn bd != 0) = true := by rw [hb0]; rfl
  have Hb0 := Lib.hid hb0
  clear hb0 hv
  go_enter Try.func12, Try.ntmps12
  go_wp2_with fail
  refine (both_any an ad bn bd _).mono ?_
  rintro e w1 ⟨rfl, hb1⟩
  have HB1 := Lib.hid hb1
  have hs1 : w.heap.size + 1 + 1 + 1 ≤ w1.heap.size := by simpa using hb1.size
  have e0 : w1.heap[w.heap.size]? = some (.cells #[.int .i64 an, .int .i64 ad] 23 (0, 0)) := by
    refine (hb1.block _ (by simp <;> omega)).trans ?_
    refine heap_alloc_old ?_ _
    refine heap_alloc_old ?_ _
    have := heap_alloc_new w (.cells #[.int .i64 an, .int .i64 ad] 23)
    simpa using this
  have e1 : w1.heap[w.heap.size + 1]? = some (.cells #[.int .i64 bn, .int .i64 bd] 23 (0, 0)) := by
    refine (hb1.block _ (by simp <;> omega)).trans ?_
    refine heap_alloc_old ?_ _
    have := heap_alloc_new (w.alloc (.cells #[.int .i64 an, .int .i64 ad] 23)) (.cells #[.int .i64 bn, .int .i64 bd] 23)
    simpa using this
  have e2 : w1.heap[w.heap.size + 1 + 1]? = some (.cells #[.int .i64 0, .int .i64 0] 23 (0, 0)) := by
    refine (hb1.block _ (by simp <;> omega)).trans ?_
    have := heap_alloc_new ((w.alloc (.cells #[.int .i64 an, .int .i64 ad] 23)).alloc (.cells #[.int .i64 bn, .int .i64 bd] 23)) (.cells #[.int .i64 0, .int .i64 0] 23)
    simpa using this
  have q00 : w1.cell? ⟨w.heap.size, 0, none⟩ = some (.int .i64 an) := by simp [World.cell?, e0]
  have q01 : w1.cell? ⟨w.heap.size, 1, none⟩ = some (.int .i64 ad) := by simp [World.cell?, e0]
  have q10 : w1.cell? ⟨w.heap.size + 1, 0, none⟩ = some (.int .i64 bn) := by simp [World.cell?, e1]
  have q11 : w1.cell? ⟨w.heap.size + 1, 1, none⟩ = some (.int .i64 bd) := by simp [World.cell?, e1]
  have q20 : w1.cell? ⟨w.heap.size + 1 + 1, 0, none⟩ = some (.int .i64 0) := by simp [World.cell?, e2]
  have f20 : w1.frozen? ⟨w.heap.size + 1 + 1, 0, none⟩ = false := by simp [World.frozen?, e2]
  have q21 : w1.cell? ⟨w.heap.size + 1 + 1, 1, none⟩ = some (.int .i64 0) := by simp [World.cell?, e2]
  have f21 : w1.frozen? ⟨w.heap.size + 1 + 1, 1, none⟩ = false := by simp [World.frozen?, e2]
  have E2 := Lib.hid e2
  clear hb1 e0 e1 e2
  go_wp2_with fail
  refine (both_any an ad bn bd _).mono ?_
  rintro e w2 ⟨rfl, hb2⟩
  have HB2 := Lib.hid hb2
  have hs2 : w.heap.size + 1 + 1 + 1 ≤ w2.heap.size := Nat.le_trans hs1 hb2.size
  have e2b : w2.heap[w.heap.size + 1 + 1]? = some (.cells #[.int .i64 0, .int .i64 0] 23 (0, 0)) := (hb2.block _ (by omega)).trans E2.out
  have q20b : w2.cell? ⟨w.heap.size + 1 + 1, 0, none⟩ = some (.int .i64 0) := by simp [World.cell?, e2b]
  have f20b : w2.frozen? ⟨w.heap.size + 1 + 1, 0, none⟩ = false := by simp [World.frozen?, e2b]
  have q21b : w2.cell? ⟨w.heap.size + 1 + 1, 1, none⟩ = some (.int .i64 0) := by simp [World.cell?, e2b]
  have f21b : w2.frozen? ⟨w.heap.size + 1 + 1, 1, none⟩ = false := by simp [World.frozen?, e2b]
  clear hb2 e2b
  go_wp2_with fail
  refine bodyPost_ret (v := .tuple #[.agg #[.int .i64 0, .int .i64 0], .int .i64 (both an ad bn bd)]) (by simp [results, Try.results12, go_sem, q20b, q21b]) rfl ⟨by rw [Hb0.out], ?_⟩
  refine Below.setCell (Below.setCell (Below.trans (Below.trans ?_ (HB1.out.mono ?_)) (HB2.out.mono ?_)) ?_ _) ?_ _
  · exact (((Below.refl _ _).alloc (Nat.le_refl _) _).alloc (by simp) _).alloc (by simp; omega) _
  all_goals (first | omega | (simp; done) | (simp; omega))

theorem refmul_any (an ad bn bd : Int) (w : World) :
    Calls Try.prog 12 #[.agg #[.int .i64 an, .int .i64 ad], .agg #[.int .i64 bn, .int .i64 bd]] w fun e w' =>
      e = .returned (.tuple #[.agg #[.int .i64 (op2N (vld an ad && vld bn bd) (an * bn) (ad * bd)), .int .i64 (op2D (vld an ad && vld bn bd) (an * bn) (ad * bd))], .int .i64 (op2E (vld an ad && vld bn bd) (an * bn) (ad * bd))]) ∧ Below w.heap.size w w' := by
  cases hv : (vld an ad && vld bn bd) with
  | true => simpa only [op2N, op2D, op2E, if_true] using refmul_ok an ad bn bd hv w
  | false => simpa [op2N, op2D, op2E] using refmul_bad an ad bn bd hv w

set_option maxHeartbeats 800000 in
theorem refdiv_ok (an ad bn bd : Int) (hv : (vld an ad && vld bn bd) = true) (w : World) :
    Calls Try.prog 14 #[.agg #[.int .i64 an, .int .i64 ad], .agg #[.int .i64 bn, .int .i64 bd]] w fun e w' =>
      e = .returned (.tuple #[.agg #[.int .i64 (mkN (an * bd) (ad * bn)), .int .i64 (mkD (an * bd) (ad * bn))], .int .i64 (mkE (an * bd) (ad * bn))]) ∧ Below w.heap.size w w' := by
  have hb0 := both_ok hv
  have hbe : (both an ad bn bd != 0) = false := by rw [hb0]; rfl
  rw [Bool.and_eq_true] at hv
  obtain ⟨a1, a2, a3, a4, a5⟩ := vld_iff.1 hv.1
  obtain ⟨b1, b2, b3, b4, b5⟩ := vld_iff.1 hv.2
  clear a5 b5 hv hb0
  obtain ⟨m1a, m1b⟩ := mul_bd a3 a4 (by omega) b2
  obtain ⟨m2a, m2b⟩ := mul_bd b3 b4 (by omega) a2
  obtain ⟨m3a, m3b⟩ := mul_bd (by omega) a2 (by omega) b2
  obtain ⟨m4a, m4b⟩ := mul_bd a3 a4 b3 b4
  obtain ⟨m5a, m5b⟩ := mul_bd (by omega) a2 b3 b4
  go_enter Try.func14, Try.ntmps14
  go_wp2_with fail
  refine (both_any an ad bn bd _).mono ?_
  rintro e w1 ⟨rfl, hb1⟩
  have HB1 := Lib.hid hb1
  have hs1 : w.heap.size + 1 + 1 + 1 ≤ w1.heap.size := by simpa using hb1.size
  have e0 : w1.heap[w.heap.size]? = some (.cells #[.int .i64 an, .int .i64 ad] 23 (0, 0)) := by
    refine (hb1.block _ (by simp <;> omega)).trans ?_
    refine heap_alloc_old ?_ _
    refine heap_alloc_old ?_ _
    have := heap_alloc_new w (.cells #[.int .i64 an, .int .i64 ad] 23)
    simpa using this
  have e1 : w1.heap[w.heap.size + 1]? = some (.cells #[.int .i64 bn, .int .i64 bd] 23 (0, 0)) := by
    refine (hb1.block _ (by simp <;> omega)).trans ?_
    refine heap_alloc_old ?_ _
    have := heap_alloc_new (w.alloc (.cells #[.int .i64 an, .int .i64 ad] 23)) (.cells #[.int .i64 bn, .int .i64 bd] 23)
    simpa using this
  have e2 : w1.heap[w.heap.size + 1 + 1]? = some (.cells #[.int .i64 0, .int .i64 0] 23 (0, 0)) := by
    refine (hb1.block _ (by simp <;> omega)).trans ?_
    have := heap_alloc_new ((w.alloc (.cells #[.int .i64 an, .int .i64 ad] 23)).alloc (.cells #[.int .i64 bn, .int .i64 bd] 23)) (.cells #[.int .i64 0, .int .i64 0] 23)
    simpa using this
  have q00 : w1.cell? ⟨w.heap.size, 0, none⟩ = some (.int .i64 an) := by simp [World.cell?, e0]
  have q01 : w1.cell? ⟨w.heap.size, 1, none⟩ = some (.int .i64 ad) := by simp [World.cell?, e0]
  have q10 : w1.cell? ⟨w.heap.size + 1, 0, none⟩ = some (.int .i64 bn) := by simp [World.cell?, e1]
  have q11 : w1.cell? ⟨w.heap.size + 1, 1, none⟩ = some (.int .i64 bd) := by simp [World.cell?, e1]
  have q20 : w1.cell? ⟨w.heap.size + 1 + 1, 0, none⟩ = some (.int .i64 0) := by simp [World.cell?, e2]
  have f20 : w1.frozen? ⟨w.heap.size + 1 + 1, 0, none⟩ = false := by simp [World.frozen?, e2]
  have q21 : w1.cell? ⟨w.heap.size + 1 + 1, 1, none⟩ = some (.int .i64 0) := by simp [World.cell?, e2]
  have f21 : w1.frozen? ⟨w.heap.size + 1 + 1, 1, none⟩ = false := by simp [World.frozen?, e2]
  have E2 := Lib.hid e2
  clear hb1 e0 e1 e2
  go_wp2_with fail
  refine (refmake_any (an * bd) (ad * bn) (by omega) (by omega) (by omega) (by omega) _).mono ?_
  rintro e w2 ⟨he, hb2⟩
  unfold Made at he
  subst he
  have HB2 := Lib.hid hb2
  have hs2 : w.heap.size + 1 + 1 + 1 ≤ w2.heap.size := Nat.le_trans hs1 hb2.size
  have e2b : w2.heap[w.heap.size + 1 + 1]? = some (.cells #[.int .i64 0, .int .i64 0] 23 (0, 0)) := (hb2.block _ (by omega)).trans E2.out
  have q20b : w2.cell? ⟨w.heap.size + 1 + 1, 0, none⟩ = some (.int .i64 0) := by simp [World.cell?, e2b]
  have f20b : w2.frozen? ⟨w.heap.size + 1 + 1, 0, none⟩ = false := by simp [World.frozen?, e2b]
  have q21b : w2.cell? ⟨w.heap.size + 1 + 1, 1, none⟩ = some (.int .i64 0) := by simp [World.cell?, e2b]
  have f21b : w2.frozen? ⟨w.heap.size + 1 + 1, 1, none⟩ = false := by simp [World.frozen?, e2b]
  clear hb2 e2b
  go_wp2_with fail
  refine bodyPost_ret (v := .tuple #[.agg #[.int .i64 (mkN (an * bd) (ad * bn)), .int .i64 (mkD (an * bd) (ad * bn))], .int .i64 (mkE (an * bd) (ad * bn))]) (by simp [results, Try.results14, go_sem, q20b, q21b]) rfl ⟨rfl, ?_⟩
  refine Below.setCell (Below.setCell (Below.trans (Below.trans ?_ (HB1.out.mono ?_)) (HB2.out.mono ?_)) ?_ _) ?_ _
  · exact (((Below.refl _ _).alloc (Nat.le_refl _) _).alloc (by simp) _).alloc (by simp; omega) _
  all_goals (first | omega | (simp; done) | (simp; omega))

set_option maxHeartbeats 800000 in
theorem refdiv_bad (an ad bn bd : Int) (hv : (vld an ad && vld bn bd) = false) (w : World) :
    Calls Try.prog 14 #[.agg #[.int .i64 an, .int .i64 ad], .agg #[.int .i64 bn, .int .i64 bd]] w fun e w' =>
      e = .returned (.tuple #[.agg #[.int .i64 0, .int .i64 0], .int .i64 8]) ∧ Below w.heap.size w w' := by
  have hb0 := both_not hv
  have hbe : (both an ad bn bd != 0) = true := by rw [hb0]; rfl
  have Hb0 := Lib.hid hb0
  clear hb0 hv
  go_enter Try.func14, Try.ntmps14
  go_wp2_with fail
  refine (both_any an ad bn bd _).mono ?_
  rintro e w1 ⟨rfl, hb1⟩
  have HB1 := Lib.hid hb1
  have hs1 : w.heap.size + 1 + 1 + 1 ≤ w1.heap.size := by simpa using hb1.size
  have e0 : w1.heap[w.heap.size]? = some (.cells #[.int .i64 an, .int .i64 ad] 23 (0, 0)) := by
    refine (hb1.block _ (by simp <;> omega)).trans ?_
    refine heap_alloc_old ?_ _
    refine heap_alloc_old ?_ _
    have := heap_alloc_new w (.cells #[.int .i64 an, .int .i64 ad] 23)
    simpa using this
  have e1 : w1.heap[w.heap.size + 1]? = some (.cells #[.int .i64 bn, .int .i64 bd] 23 (0, 0)) := by
    refine (hb1.block _ (by simp <;> omega)).trans ?_
    refine heap_alloc_old ?_ _
    have := heap_alloc_new (w.alloc (.cells #[.int .i64 an, .int .i64 ad] 23)) (.cells #[.int .i64 bn, .int .i64 bd] 23)
    simpa using this
  have e2 : w1.heap[w.heap.size + 1 + 1]? = some (.cells #[.int .i64 0, .int .i64 0] 23 (0, 0)) := by
    refine (hb1.block _ (by simp <;> omega)).trans ?_
    have := heap_alloc_new ((w.alloc (.cells #[.int .i64 an, .int .i64 ad] 23)).alloc (.cells #[.int .i64 bn, .int .i64 bd] 23)) (.cells #[.int .i64 0, .int .i64 0] 23)
    simpa using this
  have q00 : w1.cell? ⟨w.heap.size, 0, none⟩ = some (.int .i64 an) := by simp [World.cell?, e0]
  have q01 : w1.cell? ⟨w.heap.size, 1, none⟩ = some (.int .i64 ad) := by simp [World.cell?, e0]
  have q10 : w1.cell? ⟨w.heap.size + 1, 0, none⟩ = some (.int .i64 bn) := by simp [World.cell?, e1]
  have q11 : w1.cell? ⟨w.heap.size + 1, 1, none⟩ = some (.int .i64 bd) := by simp [World.cell?, e1]
  have q20 : w1.cell? ⟨w.heap.size + 1 + 1, 0, none⟩ = some (.int .i64 0) := by simp [World.cell?, e2]
  have f20 : w1.frozen? ⟨w.heap.size + 1 + 1, 0, none⟩ = false := by simp [World.frozen?, e2]
  have q21 : w1.cell? ⟨w.heap.size + 1 + 1, 1, none⟩ = some (.int .i64 0) := by simp [World.cell?, e2]
  have f21 : w1.frozen? ⟨w.heap.size + 1 + 1, 1, none⟩ = false := by simp [World.frozen?, e2]
  have E2 := Lib.hid e2
  clear hb1 e0 e1 e2
  go_wp2_with fail
  refine (both_any an ad bn bd _).mono ?_
  rintro e w2 ⟨rfl, hb2⟩
  have HB2 := Lib.hid hb2
  have hs2 : w.heap.size + 1 + 1 + 1 ≤ w2.heap.size := Nat.le_trans hs1 hb2.size
  have e2b : w2.heap[w.heap.size + 1 + 1]? = some (.cells #[.int .i64 0, .int .i64 0] 23 (0, 0)) := (hb2.block _ (by omega)).trans E2.out
  have q20b : w2.cell? ⟨w.heap.size + 1 + 1, 0, none⟩ = some (.int .i64 0) := by simp [World.cell?, e2b]
  have f20b : w2.frozen? ⟨w.heap.size + 1 + 1, 0, none⟩ = false := by simp [World.frozen?, e2b]
  have q21b : w2.cell? ⟨w.heap.size + 1 + 1, 1, none⟩ = some (.int .i64 0) := by simp [World.cell?, e2b]
  have f21b : w2.frozen? ⟨w.heap.size + 1 + 1, 1, none⟩ = false := by simp [World.frozen?, e2b]
  clear hb2 e2b
  go_wp2_with fail
  refine bodyPost_ret (v := .tuple #[.agg #[.int .i64 0, .int .i64 0], .int .i64 (both an ad bn bd)]) (by simp [results, Try.results14, go_sem, q20b, q21b]) rfl ⟨by rw [Hb0.out], ?_⟩
  refine Below.setCell (Below.setCell (Below.trans (Below.trans ?_ (HB1.out.mono ?_)) (HB2.out.mono ?_)) ?_ _) ?_ _
  · exact (((Below.refl _ _).alloc (Nat.le_refl _) _).alloc (by simp) _).alloc (by simp; omega) _
  all_goals (first | omega | (simp; done) | (simp; omega))

theorem refdiv_any (an ad bn bd : Int) (w : World) :
    Calls Try.prog 14 #[.agg #[.int .i64 an, .int .i64 ad], .agg #[.int .i64 bn, .int .i64 bd]] w fun e w' =>
      e = .returned (.tuple #[.agg #[.int .i64 (op2N (vld an ad && vld bn bd) (an * bd) (ad * bn)), .int .i64 (op2D (vld an ad && vld bn bd) (an * bd) (ad * bn))], .int .i64 (op2E (vld an ad && vld bn bd) (an * bd) (ad * bn))]) ∧ Below w.heap.size w w' := by
  cases hv : (vld an ad && vld bn bd) with
  | true => simpa only [op2N, op2D, op2E, if_true] using refdiv_ok an ad bn bd hv w
  | false => simpa [op2N, op2D, op2E] using refdiv_bad an ad bn bd hv w

set_option maxHeartbeats 800000 in
theorem refneg_raw (an ad : Int) (w : World) :
    Calls Try.prog 16 #[.agg #[.int .i64 an, .int .i64 ad]] w fun e w' =>
      e = .returned (.tuple #[.agg #[.int .i64 (op2N (vld 0 1 && vld an ad) (0 * ad - an * 1) (1 * ad)), .int .i64 (op2D (vld 0 1 && vld an ad) (0 * ad - an * 1) (1 * ad))], .int .i64 (op2E (vld 0 1 && vld an ad) (0 * ad - an * 1) (1 * ad))]) ∧ Below w.heap.size w w' := by
  go_enter Try.func16, Try.ntmps16
  go_wp2_with fail
  refine (refsub_any 0 1 an ad _).mono ?_
  rintro e w1 ⟨rfl, hb1⟩
  have HB1 := Lib.hid hb1
  have hs1 : w.heap.size + 1 + 1 ≤ w1.heap.size := by simpa using hb1.size
  have e0 : w1.heap[w.heap.size]? = some (.cells #[.int .i64 an, .int .i64 ad] 23 (0, 0)) := by
    refine (hb1.block _ (by simp <;> omega)).trans ?_
    refine heap_alloc_old ?_ _
    have := heap_alloc_new w (.cells #[.int .i64 an, .int .i64 ad] 23)
    simpa using this
  have e1 : w1.heap[w.heap.size + 1]? = some (.cells #[.int .i64 0, .int .i64 0] 23 (0, 0)) := by
    refine (hb1.block _ (by simp <;> omega)).trans ?_
    have := heap_alloc_new (w.alloc (.cells #[.int .i64 an, .int .i64 ad] 23)) (.cells #[.int .i64 0, .int .i64 0] 23)
    simpa using this
  have q00 : w1.cell? ⟨w.heap.size, 0, none⟩ = some (.int .i64 an) := by simp [World.cell?, e0]
  have q01 : w1.cell? ⟨w.heap.size, 1, none⟩ = some (.int .i64 ad) := by simp [World.cell?, e0]
  have q10 : w1.cell? ⟨w.heap.size + 1, 0, none⟩ = some (.int .i64 0) := by simp [World.cell?, e1]
  have f10 : w1.frozen? ⟨w.heap.size + 1, 0, none⟩ = false := by simp [World.frozen?, e1]
  have q11 : w1.cell? ⟨w.heap.size + 1, 1, none⟩ = some (.int .i64 0) := by simp [World.cell?, e1]
  have f11 : w1.frozen? ⟨w.heap.size + 1, 1, none⟩ = false := by simp [World.frozen?, e1]
  clear hb1 e0 e1
  go_wp2_with fail
  refine bodyPost_ret (v := .tuple #[.agg #[.int .i64 (op2N (vld 0 1 && vld an ad) (0 * ad - an * 1) (1 * ad)), .int .i64 (op2D (vld 0 1 && vld an ad) (0 * ad - an * 1) (1 * ad))], .int .i64 (op2E (vld 0 1 && vld an ad) (0 * ad - an * 1) (1 * ad))]) (by simp [results, Try.results16, go_sem, q10, q11]) rfl ⟨rfl, ?_⟩
  refine Below.setCell (Below.setCell (Below.trans ?_ (HB1.out.mono ?_)) ?_ _) ?_ _
  · exact ((Below.refl _ _).alloc (Nat.le_refl _) _).alloc (by simp) _
  all_goals (first | omega | (simp; done) | (simp; omega))

theorem mk_self {n d : Int} (h : vld n d = true) : mkN n d = n ∧ mkD n d = d ∧ mkE n d = 0 := by
  obtain ⟨h1, h2, h3, h4, h5⟩ := vld_iff.1 h
  have g : Nat.gcd n.natAbs d.natAbs = 1 := by unfold gcdI at h5; omega
  have eN : amN n d = n.natAbs := by unfold amN; rw [g, Nat.div_one]
  have eD : amD n d = d.natAbs := by unfold amD; rw [g, Nat.div_one]
  have hf : fits n d = true := by simp only [fits, eN, eD, decide_eq_true_eq]; omega
  have hd : ¬ d < 0 := by omega
  refine ⟨?_, ?_, ?_⟩
  · by_cases hn : n < 0 <;> simp [mkN, hf, eN, hn, hd] <;> omega
  · simp [mkD, hf, eD]; omega
  · simp [mkE, hf]
theorem vld_neg {n d : Int} (h : vld n d = true) : vld (-n) d = true := by
  obtain ⟨h1, h2, h3, h4, h5⟩ := vld_iff.1 h
  refine vld_iff.2 ⟨h1, h2, by omega, by omega, ?_⟩
  unfold gcdI at *; rw [Int.natAbs_neg]; exact h5
theorem vld_nought : vld 0 1 = true := by decide

theorem refneg_any (an ad : Int) (w : World) :
    Calls Try.prog 16 #[.agg #[.int .i64 an, .int .i64 ad]] w fun e w' =>
      e = .returned (.tuple #[.agg #[.int .i64 (okN (vld an ad) (-an)), .int .i64 (okN (vld an ad) ad)], .int .i64 (okE (vld an ad))]) ∧ Below w.heap.size w w' := by
  refine (refneg_raw an ad w).mono fun e w' ⟨he, hb⟩ => ⟨?_, hb⟩
  rw [he, vld_nought, Bool.true_and]
  have e1 : (0 * ad - an * 1 : Int) = -an := by omega
  have e2 : (1 * ad : Int) = ad := by omega
  rw [e1, e2]
  cases hv : vld an ad with
  | true =>
    obtain ⟨r1, r2, r3⟩ := mk_self (vld_neg hv)
    simp [op2N, op2D, op2E, okN, okE, r1, r2, r3]
  | false => simp [op2N, op2D, op2E, okN, okE]

theorem ret_pair {k l : IntKind} {a b c d : Int} (h1 : a = c) (h2 : b = d) : Ending.returned (.tuple #[.int k a, .int l b]) = .returned (.tuple #[.int k c, .int l d]) := by rw [h1, h2]
set_option maxHeartbeats 800000 in
theorem refcmp_ok (an ad bn bd : Int) (hv : (vld an ad && vld bn bd) = true) (w : World) :
    Calls Try.prog 18 #[.agg #[.int .i64 an, .int .i64 ad], .agg #[.int .i64 bn, .int .i64 bd]] w fun e w' =>
      e = .returned (.tuple #[.int .i64 (cmpI (an * bd) (bn * ad)), .int .i64 0]) ∧ Below w.heap.size w w' := by
  have hb0 := both_ok hv
  have hbe : (both an ad bn bd != 0) = false := by rw [hb0]; rfl
  rw [Bool.and_eq_true] at hv
  obtain ⟨a1, a2, a3, a4, a5⟩ := vld_iff.1 hv.1
  obtain ⟨b1, b2, b3, b4, b5⟩ := vld_iff.1 hv.2
  clear a5 b5 hv hb0
  obtain ⟨m1a, m1b⟩ := mul_bd a3 a4 (by omega) b2
  obtain ⟨m2a, m2b⟩ := mul_bd b3 b4 (by omega) a2
  by_cases h : an * bd < bn * ad
  · have H := Lib.hid (show (-1 : Int) = cmpI (an * bd) (bn * ad) by simp [cmpI, h])
    go_enter Try.func18, Try.ntmps18
    go_wp2_with fail
    refine (both_any an ad bn bd _).mono ?_
    rintro e w1 ⟨rfl, hb1⟩
    have HB1 := Lib.hid hb1
    have hs1 : w.heap.size + 1 + 1 ≤ w1.heap.size := by simpa using hb1.size
    have e0 : w1.heap[w.heap.size]? = some (.cells #[.int .i64 an, .int .i64 ad] 23 (0, 0)) := by
      refine (hb1.block _ (by simp <;> omega)).trans ?_
      refine heap_alloc_old ?_ _
      have := heap_alloc_new w (.cells #[.int .i64 an, .int .i64 ad] 23)
      simpa using this
    have e1 : w1.heap[w.heap.size + 1]? = some (.cells #[.int .i64 bn, .int .i64 bd] 23 (0, 0)) := by
      refine (hb1.block _ (by simp <;> omega)).trans ?_
      have := heap_alloc_new (w.alloc (.cells #[.int .i64 an, .int .i64 ad] 23)) (.cells #[.int .i64 bn, .int .i64 bd] 23)
      simpa using this
    have q00 : w1.cell? ⟨w.heap.size, 0, none⟩ = some (.int .i64 an) := by simp [World.cell?, e0]
    have q01 : w1.cell? ⟨w.heap.size, 1, none⟩ = some (.int .i64 ad) := by simp [World.cell?, e0]
    have q10 : w1.cell? ⟨w.heap.size + 1, 0, none⟩ = some (.int .i64 bn) := by simp [World.cell?, e1]
    have q11 : w1.cell? ⟨w.heap.size + 1, 1, none⟩ = some (.int .i64 bd) := by simp [World.cell?, e1]
    clear hb1 e0 e1
    go_wp2_with fail
    go_ret2
    exact ⟨ret_pair H.out rfl, Below.trans (((Below.refl _ _).alloc (Nat.le_refl _) _).alloc (by simp) _) (HB1.out.mono (by simp; omega))⟩
  by_cases h' : bn * ad < an * bd
  · have H := Lib.hid (show (1 : Int) = cmpI (an * bd) (bn * ad) by simp [cmpI, h, h'])
    go_enter Try.func18, Try.ntmps18
    go_wp2_with fail
    refine (both_any an ad bn bd _).mono ?_
    rintro e w1 ⟨rfl, hb1⟩
    have HB1 := Lib.hid hb1
    have hs1 : w.heap.size + 1 + 1 ≤ w1.heap.size := by simpa using hb1.size
    have e0 : w1.heap[w.heap.size]? = some (.cells #[.int .i64 an, .int .i64 ad] 23 (0, 0)) := by
      refine (hb1.block _ (by simp <;> omega)).trans ?_
      refine heap_alloc_old ?_ _
      have := heap_alloc_new w (.cells #[.int .i64 an, .int .i64 ad] 23)
      simpa using this
    have e1 : w1.heap[w.heap.size + 1]? = some (.cells #[.int .i64 bn, .int .i64 bd] 23 (0, 0)) := by
      refine (hb1.block _ (by simp <;> omega)).trans ?_
      have := heap_alloc_new (w.alloc (.cells #[.int .i64 an, .int .i64 ad] 23)) (.cells #[.int .i64 bn, .int .i64 bd] 23)
      simpa using this
    have q00 : w1.cell? ⟨w.heap.size, 0, none⟩ = some (.int .i64 an) := by simp [World.cell?, e0]
    have q01 : w1.cell? ⟨w.heap.size, 1, none⟩ = some (.int .i64 ad) := by simp [World.cell?, e0]
    have q10 : w1.cell? ⟨w.heap.size + 1, 0, none⟩ = some (.int .i64 bn) := by simp [World.cell?, e1]
    have q11 : w1.cell? ⟨w.heap.size + 1, 1, none⟩ = some (.int .i64 bd) := by simp [World.cell?, e1]
    clear hb1 e0 e1
    go_wp2_with fail
    go_ret2
    exact ⟨ret_pair H.out rfl, Below.trans (((Below.refl _ _).alloc (Nat.le_refl _) _).alloc (by simp) _) (HB1.out.mono (by simp; omega))⟩
  · have H := Lib.hid (show (0 : Int) = cmpI (an * bd) (bn * ad) by simp [cmpI, h, h'])
    go_enter Try.func18, Try.ntmps18
    go_wp2_with fail
    refine (both_any an ad bn bd _).mono ?_
    rintro e w1 ⟨rfl, hb1⟩
    have HB1 := Lib.hid hb1
    have hs1 : w.heap.size + 1 + 1 ≤ w1.heap.size := by simpa using hb1.size
    have e0 : w1.heap[w.heap.size]? = some (.cells #[.int .i64 an, .int .i64 ad] 23 (0, 0)) := by
      refine (hb1.block _ (by simp <;> omega)).trans ?_
      refine heap_alloc_old ?_ _
      have := heap_alloc_new w (.cells #[.int .i64 an, .int .i64 ad] 23)
      simpa using this
    have e1 : w1.heap[w.heap.size + 1]? = some (.cells #[.int .i64 bn, .int .i64 bd] 23 (0, 0)) := by
      refine (hb1.block _ (by simp <;> omega)).trans ?_
      have := heap_alloc_new (w.alloc (.cells #[.int .i64 an, .int .i64 ad] 23)) (.cells #[.int .i64 bn, .int .i64 bd] 23)
      simpa using this
    have q00 : w1.cell? ⟨w.heap.size, 0, none⟩ = some (.int .i64 an) := by simp [World.cell?, e0]
    have q01 : w1.cell? ⟨w.heap.size, 1, none⟩ = some (.int .i64 ad) := by simp [World.cell?, e0]
    have q10 : w1.cell? ⟨w.heap.size + 1, 0, none⟩ = some (.int .i64 bn) := by simp [World.cell?, e1]
    have q11 : w1.cell? ⟨w.heap.size + 1, 1, none⟩ = some (.int .i64 bd) := by simp [World.cell?, e1]
    clear hb1 e0 e1
    go_wp2_with fail
    go_ret2
    exact ⟨ret_pair H.out rfl, Below.trans (((Below.refl _ _).alloc (Nat.le_refl _) _).alloc (by simp) _) (HB1.out.mono (by simp; omega))⟩

set_option maxHeartbeats 800000 in
theorem refcmp_bad (an ad bn bd : Int) (hv : (vld an ad && vld bn bd) = false) (w : World) :
    Calls Try.prog 18 #[.agg #[.int .i64 an, .int .i64 ad], .agg #[.int .i64 bn, .int .i64 bd]] w fun e w' =>
      e = .returned (.tuple #[.int .i64 0, .int .i64 8]) ∧ Below w.heap.size w w' := by
  have hb0 := both_not hv
  have hbe : (both an ad bn bd != 0) = true := by rw [hb0]; rfl
  have Hb0 := Lib.hid hb0
  clear hb0 hv
  go_enter Try.func18, Try.ntmps18
  go_wp2_with fail
  refine (both_any an ad bn bd _).mono ?_
  rintro e w1 ⟨rfl, hb1⟩
  have HB1 := Lib.hid hb1
  have hs1 : w.heap.size + 1 + 1 ≤ w1.heap.size := by simpa using hb1.size
  have e0 : w1.heap[w.heap.size]? = some (.cells #[.int .i64 an, .int .i64 ad] 23 (0, 0)) := by
    refine (hb1.block _ (by simp <;> omega)).trans ?_
    refine heap_alloc_old ?_ _
    have := heap_alloc_new w (.cells #[.int .i64 an, .int .i64 ad] 23)
    simpa using this
  have e1 : w1.heap[w.heap.size + 1]? = some (.cells #[.int .i64 bn, .int .i64 bd] 23 (0, 0)) := by
    refine (hb1.block _ (by simp <;> omega)).trans ?_
    have := heap_alloc_new (w.alloc (.cells #[.int .i64 an, .int .i64 ad] 23)) (.cells #[.int .i64 bn, .int .i64 bd] 23)
    simpa using this
  have q00 : w1.cell? ⟨w.heap.size, 0, none⟩ = some (.int .i64 an) := by simp [World.cell?, e0]
  have q01 : w1.cell? ⟨w.heap.size, 1, none⟩ = some (.int .i64 ad) := by simp [World.cell?, e0]
  have q10 : w1.cell? ⟨w.heap.size + 1, 0, none⟩ = some (.int .i64 bn) := by simp [World.cell?, e1]
  have q11 : w1.cell? ⟨w.heap.size + 1, 1, none⟩ = some (.int .i64 bd) := by simp [World.cell?, e1]
  clear hb1 e0 e1
  go_wp2_with fail
  refine (both_any an ad bn bd _).mono ?_
  rintro e w2 ⟨rfl, hb2⟩
  have HB2 := Lib.hid hb2
  clear hb2
  go_wp2_with fail
  go_ret2
  exact ⟨ret_pair rfl Hb0.out, Below.trans (Below.trans (((Below.refl _ _).alloc (Nat.le_refl _) _).alloc (by simp) _) (HB1.out.mono (by simp; omega))) (HB2.out.mono (by omega))⟩

theorem refcmp_any (an ad bn bd : Int) (w : World) :
    Calls Try.prog 18 #[.agg #[.int .i64 an, .int .i64 ad], .agg #[.int .i64 bn, .int .i64 bd]] w fun e w' =>
      e = .returned (.tuple #[.int .i64 (okN (vld an ad && vld bn bd) (cmpI (an * bd) (bn * ad))), .int .i64 (okE (vld an ad && vld bn bd))]) ∧ Below w.heap.size w w' := by
  cases hv : (vld an ad && vld bn bd) with
  | true => simpa only [okN, okE, if_true] using refcmp_ok an ad bn bd hv w
  | false => simpa [okN, okE] using refcmp_bad an ad bn bd hv w

theorem tdiv_rest (n d : Int) : n.tdiv d * d + n.tmod d = n := by have := Int.mul_tdiv_add_tmod n d; rw [Int.mul_comm] at this; exact this
theorem reffloor_eq_off {n d : Int} (hd : 1 ≤ d) (h : n < n.tdiv d * d) : n.tdiv d - 1 = n / d := by
  have := tdiv_rest n d; exact floor_down hd (by omega)
theorem reffloor_eq_on {n d : Int} (hd : 1 ≤ d) (h : ¬ n < n.tdiv d * d) : n.tdiv d = n / d := by
  have := tdiv_rest n d; exact floor_flat hd (by omega)
theorem refceil_eq_off {n d : Int} (hd : 1 ≤ d) (h : n.tdiv d * d < n) : n.tdiv d + 1 = -(-n / d) := by
  have e := tdiv_rest n d
  have f := floor_down (n := -n) hd (by rw [Int.neg_tmod]; omega)
  rw [Int.neg_tdiv] at f; omega
theorem refceil_eq_on {n d : Int} (hd : 1 ≤ d) (h : ¬ n.tdiv d * d < n) : n.tdiv d = -(-n / d) := by
  have e := tdiv_rest n d
  have f := floor_flat (n := -n) hd (by rw [Int.neg_tmod]; omega)
  rw [Int.neg_tdiv] at f; omega

set_option maxHeartbeats 800000 in
theorem reffloor_ok (an ad : Int) (hv : vld an ad = true) (w : World) :
    Calls Try.prog 20 #[.agg #[.int .i64 an, .int .i64 ad]] w fun e w' => e = .returned (.tuple #[.int .i64 (an / ad), .int .i64 0]) ∧ Below w.heap.size w w' := by
  have hbe : (chk an ad != 0) = false := by rw [chk_valid hv]; rfl
  obtain ⟨a1, a2, a3, a4, a5⟩ := vld_iff.1 hv
  clear a5 hv
  obtain ⟨t1, t2⟩ := tdiv_bd an ad a3 a4
  obtain ⟨m1, m2⟩ := mul_bd t1 t2 (by omega) a2
  by_cases hc : an < an.tdiv ad * ad
  · have H := Lib.hid (reffloor_eq_off a1 hc)
    go_enter Try.func20, Try.ntmps20
    go_wp2_with fail
    refine (refcheck_any an ad _).mono ?_
    rintro e w1 ⟨rfl, hb1⟩
    have HB1 := Lib.hid hb1
    have hs1 : w.heap.size + 1 ≤ w1.heap.size := by simpa using hb1.size
    have e0 : w1.heap[w.heap.size]? = some (.cells #[.int .i64 an, .int .i64 ad] 23 (0, 0)) := by
      refine (hb1.block _ (by simp <;> omega)).trans ?_
      have := heap_alloc_new w (.cells #[.int .i64 an, .int .i64 ad] 23)
      simpa using this
    have q00 : w1.cell? ⟨w.heap.size, 0, none⟩ = some (.int .i64 an) := by simp [World.cell?, e0]
    have q01 : w1.cell? ⟨w.heap.size, 1, none⟩ = some (.int .i64 ad) := by simp [World.cell?, e0]
    clear hb1 e0
    go_wp2_with fail
    go_ret2
    exact ⟨ret_pair H.out rfl, Below.trans ((Below.refl _ _).alloc (Nat.le_refl _) _) (HB1.out.mono (by simp))⟩
  · have H := Lib.hid (reffloor_eq_on a1 hc)
    go_enter Try.func20, Try.ntmps20
    go_wp2_with fail
    refine (refcheck_any an ad _).mono ?_
    rintro e w1 ⟨rfl, hb1⟩
    have HB1 := Lib.hid hb1
    have hs1 : w.heap.size + 1 ≤ w1.heap.size := by simpa using hb1.size
    have e0 : w1.heap[w.heap.size]? = some (.cells #[.int .i64 an, .int .i64 ad] 23 (0, 0)) := by
      refine (hb1.block _ (by simp <;> omega)).trans ?_
      have := heap_alloc_new w (.cells #[.int .i64 an, .int .i64 ad] 23)
      simpa using this
    have q00 : w1.cell? ⟨w.heap.size, 0, none⟩ = some (.int .i64 an) := by simp [World.cell?, e0]
    have q01 : w1.cell? ⟨w.heap.size, 1, none⟩ = some (.int .i64 ad) := by simp [World.cell?, e0]
    clear hb1 e0
    go_wp2_with fail
    go_ret2
    exact ⟨ret_pair H.out rfl, Below.trans ((Below.refl _ _).alloc (Nat.le_refl _) _) (HB1.out.mono (by simp))⟩

set_option maxHeartbeats 800000 in
theorem reffloor_bad (an ad : Int) (hv : vld an ad = false) (w : World) :
    Calls Try.prog 20 #[.agg #[.int .i64 an, .int .i64 ad]] w fun e w' => e = .returned (.tuple #[.int .i64 0, .int .i64 8]) ∧ Below w.heap.size w w' := by
  have hbe : (chk an ad != 0) = true := by rw [chk_not hv]; rfl
  have Hb0 := Lib.hid (chk_not hv)
  clear hv
  go_enter Try.func20, Try.ntmps20
  go_wp2_with fail
  refine (refcheck_any an ad _).mono ?_
  rintro e w1 ⟨rfl, hb1⟩
  have HB1 := Lib.hid hb1
  have hs1 : w.heap.size + 1 ≤ w1.heap.size := by simpa using hb1.size
  have e0 : w1.heap[w.heap.size]? = some (.cells #[.int .i64 an, .int .i64 ad] 23 (0, 0)) := by
    refine (hb1.block _ (by simp <;> omega)).trans ?_
    have := heap_alloc_new w (.cells #[.int .i64 an, .int .i64 ad] 23)
    simpa using this
  have q00 : w1.cell? ⟨w.heap.size, 0, none⟩ = some (.int .i64 an) := by simp [World.cell?, e0]
  have q01 : w1.cell? ⟨w.heap.size, 1, none⟩ = some (.int .i64 ad) := by simp [World.cell?, e0]
  clear hb1 e0
  go_wp2_with fail
  refine (refcheck_any an ad _).mono ?_
  rintro e w2 ⟨rfl, hb2⟩
  have HB2 := Lib.hid hb2
  clear hb2
  go_wp2_with fail
  go_ret2
  exact ⟨ret_pair rfl Hb0.out, Below.trans (Below.trans ((Below.refl _ _).alloc (Nat.le_refl _) _) (HB1.out.mono (by simp))) (HB2.out.mono (by omega))⟩

theorem reffloor_any (an ad : Int) (w : World) :
    Calls Try.prog 20 #[.agg #[.int .i64 an, .int .i64 ad]] w fun e w' => e = .returned (.tuple #[.int .i64 (okN (vld an ad) (an / ad)), .int .i64 (okE (vld an ad))]) ∧ Below w.heap.size w w' := by
  cases hv : vld an ad with
  | true => simpa only [okN, okE, if_true] using reffloor_ok an ad hv w
  | false => simpa [okN, okE] using reffloor_bad an ad hv w

set_option maxHeartbeats 800000 in
theorem refceil_ok (an ad : Int) (hv : vld an ad = true) (w : World) :
    Calls Try.prog 22 #[.agg #[.int .i64 an, .int .i64 ad]] w fun e w' => e = .returned (.tuple #[.int .i64 (-(-an / ad)), .int .i64 0]) ∧ Below w.heap.size w w' := by
  have hbe : (chk an ad != 0) = false := by rw [chk_valid hv]; rfl
  obtain ⟨a1, a2, a3, a4, a5⟩ := vld_iff.1 hv
  clear a5 hv
  obtain ⟨t1, t2⟩ := tdiv_bd an ad a3 a4
  obtain ⟨m1, m2⟩ := mul_bd t1 t2 (by omega) a2
  by_cases hc : an.tdiv ad * ad < an
  · have H := Lib.hid (refceil_eq_off a1 hc)
    go_enter Try.func22, Try.ntmps22
    go_wp2_with fail
    refine (refcheck_any an ad _).mono ?_
    rintro e w1 ⟨rfl, hb1⟩
    have HB1 := Lib.hid hb1
    have hs1 : w.heap.size + 1 ≤ w1.heap.size := by simpa using hb1.size
    have e0 : w1.heap[w.heap.size]? = some (.cells #[.int .i64 an, .int .i64 ad] 23 (0, 0)) := by
      refine (hb1.block _ (by simp <;> omega)).trans ?_
      have := heap_alloc_new w (.cells #[.int .i64 an, .int .i64 ad] 23)
      simpa using this
    have q00 : w1.cell? ⟨w.heap.size, 0, none⟩ = some (.int .i64 an) := by simp [World.cell?, e0]
    have q01 : w1.cell? ⟨w.heap.size, 1, none⟩ = some (.int .i64 ad) := by simp [World.cell?, e0]
    clear hb1 e0
    go_wp2_with fail
    go_ret2
    exact ⟨ret_pair H.out rfl, Below.trans ((Below.refl _ _).alloc (Nat.le_refl _) _) (HB1.out.mono (by simp))⟩
  · have H := Lib.hid (refceil_eq_on a1 hc)
    go_enter Try.func22, Try.ntmps22
    go_wp2_with fail
    refine (refcheck_any an ad _).mono ?_
    rintro e w1 ⟨rfl, hb1⟩
    have HB1 := Lib.hid hb1
    have hs1 : w.heap.size + 1 ≤ w1.heap.size := by simpa using hb1.size
    have e0 : w1.heap[w.heap.size]? = some (.cells #[.int .i64 an, .int .i64 ad] 23 (0, 0)) := by
      refine (hb1.block _ (by simp <;> omega)).trans ?_
      have := heap_alloc_new w (.cells #[.int .i64 an, .int .i64 ad] 23)
      simpa using this
    have q00 : w1.cell? ⟨w.heap.size, 0, none⟩ = some (.int .i64 an) := by simp [World.cell?, e0]
    have q01 : w1.cell? ⟨w.heap.size, 1, none⟩ = some (.int .i64 ad) := by simp [World.cell?, e0]
    clear hb1 e0
    go_wp2_with fail
    go_ret2
    exact ⟨ret_pair H.out rfl, Below.trans ((Below.refl _ _).alloc (Nat.le_refl _) _) (HB1.out.mono (by simp))⟩

set_option maxHeartbeats 800000 in
theorem refceil_bad (an ad : Int) (hv : vld an ad = false) (w : World) :
    Calls Try.prog 22 #[.agg #[.int .i64 an, .int .i64 ad]] w fun e w' => e = .returned (.tuple #[.int .i64 0, .int .i64 8]) ∧ Below w.heap.size w w' := by
  have hbe : (chk an ad != 0) = true := by rw [chk_not hv]; rfl
  have Hb0 := Lib.hid (chk_not hv)
  clear hv
  go_enter Try.func22, Try.ntmps22
  go_wp2_with fail
  refine (refcheck_any an ad _).mono ?_
  rintro e w1 ⟨rfl, hb1⟩
  have HB1 := Lib.hid hb1
  have hs1 : w.heap.size + 1 ≤ w1.heap.size := by simpa using hb1.size
  have e0 : w1.heap[w.heap.size]? = some (.cells #[.int .i64 an, .int .i64 ad] 23 (0, 0)) := by
    refine (hb1.block _ (by simp <;> omega)).trans ?_
    have := heap_alloc_new w (.cells #[.int .i64 an, .int .i64 ad] 23)
    simpa using this
  have q00 : w1.cell? ⟨w.heap.size, 0, none⟩ = some (.int .i64 an) := by simp [World.cell?, e0]
  have q01 : w1.cell? ⟨w.heap.size, 1, none⟩ = some (.int .i64 ad) := by simp [World.cell?, e0]
  clear hb1 e0
  go_wp2_with fail
  refine (refcheck_any an ad _).mono ?_
  rintro e w2 ⟨rfl, hb2⟩
  have HB2 := Lib.hid hb2
  clear hb2
  go_wp2_with fail
  go_ret2
  exact ⟨ret_pair rfl Hb0.out, Below.trans (Below.trans ((Below.refl _ _).alloc (Nat.le_refl _) _) (HB1.out.mono (by simp))) (HB2.out.mono (by omega))⟩

theorem refceil_any (an ad : Int) (w : World) :
    Calls Try.prog 22 #[.agg #[.int .i64 an, .int .i64 ad]] w fun e w' => e = .returned (.tuple #[.int .i64 (okN (vld an ad) (-(-an / ad))), .int .i64 (okE (vld an ad))]) ∧ Below w.heap.size w w' := by
  cases hv : vld an ad with
  | true => simpa only [okN, okE, if_true] using refceil_ok an ad hv w
  | false => simpa [okN, okE] using refceil_bad an ad hv w

end Go.Proofs.Ytchjkjhkmhkjeaa
