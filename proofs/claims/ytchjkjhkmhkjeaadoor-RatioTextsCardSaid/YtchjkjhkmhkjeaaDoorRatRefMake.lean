/-
  What the reference's Make hands back, at the least number too.
-/
import Derived.Test.YtchjkjhkmhkjeaaDoorRatRef
import Derived.Test.YtchjkjhkmhkjeaaDoorRatLaw
namespace Go.Proofs.YtchjkjhkmhkjeaaDoor
open Go.RowKit
open RM
set_option linter.unusedVariables false
set_option linter.unusedSimpArgs false

set_option maxHeartbeats 400000 in
theorem refmake_least2 (w : World) :
    Calls Tryd.prog 11 #[.int .i64 (-9223372036854775808), .int .i64 (-9223372036854775808)] w fun e w' => e = .returned (.tuple #[.agg #[.int .i64 1, .int .i64 1], .int .i64 0]) ∧ Below w.heap.size w w' := by
  go_enter Tryd.func11, Tryd.ntmps11
  go_wp2_with fail
  refine bodyPost_ret (v := .tuple #[.agg #[.int .i64 1, .int .i64 1], .int .i64 0]) (by simp [results, Tryd.results11, go_sem]) rfl ⟨rfl, ?_⟩
  repeat (with_reducible (first | exact Below.refl _ _ | refine Below.alloc ?_ (by simp) _))

set_option maxHeartbeats 400000 in
theorem refmake_far (n d : Int) (c1 : (d == 0) = false) (c2 : (n == -9223372036854775808 && d == -9223372036854775808) = false) (c3 : (n == -9223372036854775808 || d == -9223372036854775808) = true)
    (c4 : (n.tmod 2 == 0 && d.tmod 2 == 0) = false) (w : World) :
    Calls Tryd.prog 11 #[.int .i64 n, .int .i64 d] w fun e w' => e = .returned (.tuple #[.agg #[.int .i64 0, .int .i64 0], .int .i64 16]) ∧ Below w.heap.size w w' := by
  cases a1 : (n == -9223372036854775808) <;> cases a2 : (d == -9223372036854775808) <;> cases a3 : (n.tmod 2 == 0) <;> cases a4 : (d.tmod 2 == 0) <;> simp only [a1, a2, a3, a4, Bool.and_true, Bool.true_and, Bool.or_true, Bool.or_false, Bool.false_or, Bool.true_or, Bool.and_false, Bool.false_and, Bool.true_eq_false, Bool.false_eq_true, Bool.or_self, Bool.and_self] at c2 c3 c4
  all_goals
    go_enter Tryd.func11, Tryd.ntmps11
    go_wp2_with fail
    refine bodyPost_ret (v := .tuple #[.agg #[.int .i64 0, .int .i64 0], .int .i64 16]) (by simp [results, Tryd.results11, go_sem]) rfl ⟨rfl, ?_⟩
    repeat (with_reducible (first | exact Below.refl _ _ | refine Below.alloc ?_ (by simp) _))

theorem half (x : Int) : x = 2 * x.tdiv 2 + x.tmod 2 ∧ (x.tdiv 2).natAbs = x.natAbs / 2 ∧ (x.tmod 2).natAbs = x.natAbs % 2 :=
  ⟨(Int.mul_tdiv_add_tmod x 2).symm, by rw [Int.natAbs_tdiv]; rfl, by rw [Int.natAbs_tmod]; rfl⟩

set_option maxHeartbeats 400000 in
theorem refmake_half (n d x y f : Int) (b1 : -9223372036854775808 ≤ n) (b2 : n ≤ 9223372036854775807) (b3 : -9223372036854775808 ≤ d) (b4 : d ≤ 9223372036854775807) (c1 : (d == 0) = false) (c2 : (n == -9223372036854775808 && d == -9223372036854775808) = false) (c3 : (n == -9223372036854775808 || d == -9223372036854775808) = true)
    (e1 : (n.tmod 2 == 0) = true) (e2 : (d.tmod 2 == 0) = true) (w : World)
    (h : ∀ w, Calls Tryd.prog 11 #[.int .i64 (n.tdiv 2), .int .i64 (d.tdiv 2)] w fun e w' => e = .returned (.tuple #[.agg #[.int .i64 x, .int .i64 y], .int .i64 f]) ∧ Below w.heap.size w w') :
    Calls Tryd.prog 11 #[.int .i64 n, .int .i64 d] w fun e w' => e = .returned (.tuple #[.agg #[.int .i64 x, .int .i64 y], .int .i64 f]) ∧ Below w.heap.size w w' := by
  have K := Lib.hid h
  have u1 := half n
  have u2 := half d
  have t1 : -9223372036854775808 ≤ n.tdiv 2 ∧ n.tdiv 2 ≤ 9223372036854775807 := by omega
  have t2 : -9223372036854775808 ≤ d.tdiv 2 ∧ d.tdiv 2 ≤ 9223372036854775807 := by omega
  clear h u1 u2
  cases a1 : (n == -9223372036854775808) <;> cases a2 : (d == -9223372036854775808) <;> simp only [a1, a2, Bool.and_true, Bool.true_and, Bool.or_true, Bool.or_false, Bool.false_or, Bool.true_or, Bool.and_false, Bool.false_and, Bool.true_eq_false, Bool.false_eq_true, Bool.or_self, Bool.and_self] at c2 c3
  all_goals
    go_enter Tryd.func11, Tryd.ntmps11
    go_wp2_with fail
    refine (K.out _).mono ?_
    rintro e w1 ⟨rfl, hb⟩
    have b0 : Below w.heap.size w (w.alloc (.cells #[.int .i64 0, .int .i64 0] 23)) := (Below.refl _ _).alloc (Nat.le_refl _) _
    have HB := Lib.hid (b0.trans (hb.mono b0.size))
    have E1 := Lib.hid (below_new hb (heap_alloc_new w (.cells #[.int .i64 0, .int .i64 0] 23)))
    have l1 := lt_of_block E1.out
    have p1 := cell_two0 E1.out
    have q1 := cell_two1 E1.out
    have f1 := free_two0 E1.out
    have g1 := free_two1 E1.out
    clear hb b0
    go_wp2_with fail
    refine bodyPost_ret (v := .tuple #[.agg #[.int .i64 x, .int .i64 y], .int .i64 f]) (by simp [results, Tryd.results11, go_sem, p1, q1]) rfl ⟨rfl, ?_⟩
    repeat (with_reducible (first | exact HB.out | refine Below.setCell ?_ (by exact Nat.le_refl _) _))

theorem gcd_two63 {m : Nat} (h : m % 2 = 1) : Nat.gcd 9223372036854775808 m = 1 := by
  have h2 : Nat.Coprime 2 m := by unfold Nat.Coprime; rw [Nat.gcd_rec, h]; rfl
  have := Nat.Coprime.pow_left 63 h2
  exact this
theorem odd_abs {x : Int} (h : (x.tmod 2 == 0) = false) : x.natAbs % 2 = 1 := by
  have u := half x
  rw [beq_eq_false_iff_ne] at h; omega
theorem mk_far1 {d : Int} (hd : d ≠ 0) (h : (d.tmod 2 == 0) = false) : mkN (-9223372036854775808) d = 0 ∧ mkD (-9223372036854775808) d = 0 ∧ mkE (-9223372036854775808) d = 16 := by
  refine mk_big hd (.inl ?_)
  unfold amN
  rw [show (-9223372036854775808 : Int).natAbs = 9223372036854775808 from rfl, gcd_two63 (odd_abs h)]; decide
theorem mk_far2 {n : Int} (h : (n.tmod 2 == 0) = false) : mkN n (-9223372036854775808) = 0 ∧ mkD n (-9223372036854775808) = 0 ∧ mkE n (-9223372036854775808) = 16 := by
  refine mk_big (by decide) (.inr ?_)
  unfold amD
  rw [show (-9223372036854775808 : Int).natAbs = 9223372036854775808 from rfl, Nat.gcd_comm, gcd_two63 (odd_abs h)]; decide

theorem refmake_all (n d : Int) (b1 : -9223372036854775808 ≤ n) (b2 : n ≤ 9223372036854775807) (b3 : -9223372036854775808 ≤ d) (b4 : d ≤ 9223372036854775807) (w : World) :
    Calls Tryd.prog 11 #[.int .i64 n, .int .i64 d] w fun e w' => e = .returned (.tuple #[.agg #[.int .i64 (mkN n d), .int .i64 (mkD n d)], .int .i64 (mkE n d)]) ∧ Below w.heap.size w w' := by
  by_cases hz : d = 0
  · subst hz
    obtain ⟨z1, z2, z3⟩ := mk_zero n
    rw [z1, z2, z3]; exact refmake_zero n w
  have c1 : (d == 0) = false := beq_eq_false_iff_ne.2 hz
  have u1 := half n
  have u2 := half d
  by_cases hl : n = -9223372036854775808 ∨ d = -9223372036854775808
  · by_cases hb : n = -9223372036854775808 ∧ d = -9223372036854775808
    · obtain ⟨rfl, rfl⟩ := hb
      have h := refmake_least2 w
      rwa [show mkN (-9223372036854775808) (-9223372036854775808) = 1 by decide +kernel, show mkD (-9223372036854775808) (-9223372036854775808) = 1 by decide +kernel, show mkE (-9223372036854775808) (-9223372036854775808) = 0 by decide +kernel]
    · have c2 : (n == -9223372036854775808 && d == -9223372036854775808) = false := by
        cases hh : (n == -9223372036854775808 && d == -9223372036854775808)
        · rfl
        · rw [Bool.and_eq_true, beq_iff_eq, beq_iff_eq] at hh; exact absurd hh hb
      have c3 : (n == -9223372036854775808 || d == -9223372036854775808) = true := by
        rw [Bool.or_eq_true, beq_iff_eq, beq_iff_eq]; exact hl
      cases e1 : (n.tmod 2 == 0) with
      | false =>
        have hd : d = -9223372036854775808 := by
          rcases hl with rfl | hl
          · exact absurd e1 (by decide)
          · exact hl
        subst hd
        obtain ⟨z1, z2, z3⟩ := mk_far2 e1
        rw [z1, z2, z3]
        exact refmake_far n _ c1 c2 c3 (by rw [e1]; rfl) w
      | true =>
        cases e2 : (d.tmod 2 == 0) with
        | false =>
          have hn : n = -9223372036854775808 := by
            rcases hl with hl | rfl
            · exact hl
            · exact absurd e2 (by decide)
          subst hn
          obtain ⟨z1, z2, z3⟩ := mk_far1 hz e2
          rw [z1, z2, z3]
          exact refmake_far _ d c1 c2 c3 (by rw [e2, Bool.and_false]) w
        | true =>
          refine refmake_half n d _ _ _ b1 b2 b3 b4 c1 c2 c3 e1 e2 w fun w => ?_
          rw [beq_iff_eq] at e1 e2
          have hn : n = 2 * n.tdiv 2 := by omega
          have hd : d = 2 * d.tdiv 2 := by omega
          obtain ⟨s1, s2, s3⟩ := mk_scale 2 (n.tdiv 2) (d.tdiv 2) (by decide)
          rw [← hn, ← hd] at s1 s2 s3
          rw [s1, s2, s3]
          exact refmake_any (n.tdiv 2) (d.tdiv 2) (by omega) (by omega) (by omega) (by omega) w
  · exact refmake_any n d (by omega) b2 (by omega) b4 w
end Go.Proofs.YtchjkjhkmhkjeaaDoor
