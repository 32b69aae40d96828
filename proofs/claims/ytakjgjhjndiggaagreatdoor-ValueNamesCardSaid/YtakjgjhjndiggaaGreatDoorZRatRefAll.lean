/-
  What the reference's Check, Both and Make hand back. What the reference's Make hands back, at the least number too.
-/
import Derived.Test.YtakjgjhjndiggaaGreatDoorZRatDoorAll
import Derived.Test.YtakjgjhjndiggaaGreatDoorRatLaw
namespace Go.Proofs.YtakjgjhjndiggaaGreatDoor
open Go.RowKit
open RM
set_option linter.unusedVariables false
set_option linter.unusedSimpArgs false

theorem tmod_gcd (p q : Int) : Nat.gcd q.natAbs (p.tmod q).natAbs = Nat.gcd p.natAbs q.natAbs := by
  rw [Int.natAbs_tmod]; exact gcd_step _ _
theorem tmod_bd (p q : Int) (hp : -9223372036854775807 ≤ p) (hp2 : p ≤ 9223372036854775807) : -9223372036854775807 ≤ p.tmod q ∧ p.tmod q ≤ 9223372036854775807 := by
  have h : (p.tmod q).natAbs ≤ p.natAbs := by rw [Int.natAbs_tmod]; exact Nat.mod_le _ _
  omega

set_option maxHeartbeats 400000 in
theorem common_any (a b : Int) (ha : -9223372036854775807 ≤ a) (ha2 : a ≤ 9223372036854775807) (hb : -9223372036854775807 ≤ b) (hb2 : b ≤ 9223372036854775807) (w : World) :
    Calls Tryz.prog 81 #[.int .i64 a, .int .i64 b] w fun e w' => e = .returned (.int .i64 (gcdI a b)) ∧ ∃ n, w' = w.drewN n := by
  go_enter Tryz.func81, Tryz.ntmps81
  go_wp2
  go_loopw [0, 1] (fun x y wr => ∃ p q : Int, -9223372036854775807 ≤ p ∧ p ≤ 9223372036854775807 ∧ -9223372036854775807 ≤ q ∧ q ≤ 9223372036854775807 ∧ x = .int .i64 p ∧ y = .int .i64 q ∧ Nat.gcd p.natAbs q.natAbs = Nat.gcd a.natAbs b.natAbs ∧ ∃ n, wr = w.drewN n) (fun _ y _ => (intOf y).natAbs)
  case atStart => exact ⟨a, b, ha, ha2, hb, hb2, rfl, rfl, rfl, 0, rfl⟩
  case round =>
    obtain ⟨p, q, hp, hp2, hq, hq2, rfl, rfl, hg, n, rfl⟩ := hrel
    have Hg := Lib.hid hg
    clear hg
    by_cases hq0 : q = 0
    · have hz : (q != 0) = false := by simp [hq0]
      have HQ := Lib.hid hq0
      clear hq0
      by_cases hs : p < 0
      all_goals
        go_wp2
        go_ret
        exact ⟨ret_num (by have := Hg.out; rw [HQ.out] at this; unfold gcdI; rw [← this]; simp <;> omega), n, rfl⟩
    · have hz : (q != 0) = true := by rw [bne_iff_ne]; omega
      have hlt : (p.tmod q).natAbs < q.natAbs := by rw [Int.natAbs_tmod]; exact Nat.mod_lt _ (by omega)
      obtain ⟨b1, b2⟩ := tmod_bd p q hp hp2
      have hw : IntKind.i64.wrap (p.tmod q) = p.tmod q := IntWalk.i64_in _ (by omega)
      go_wp2
      go_quiet (fail)
      go_wp2
      go_roundw
      case rel => exact ⟨q, p.tmod q, hq, hq2, b1, b2, rfl, rfl, by rw [tmod_gcd]; exact Hg.out, n + nq, by rw [World.drewN_drewN]⟩
      case measure => exact hlt

set_option maxHeartbeats 400000 in
theorem refcheck_valid (n d : Int) (h : vld n d = true) (w : World) :
    Calls Tryz.prog 82 #[.agg #[.int .i64 n, .int .i64 d]] w fun e w' => e = .returned (.int .i64 0) ∧ Below w.heap.size w w' := by
  obtain ⟨h1, h2, h3, h4, h5⟩ := vld_iff.1 h
  have h6 : (gcdI n d != 1) = false := by rw [h5]; rfl
  have H5 := Lib.hid h5
  clear h5 h
  have t1 : decide (d < 1) = false := by simp; omega
  have t2 : decide (1000000000 < d) = false := by simp; omega
  have t3 : decide (n < -1000000000) = false := by simp; omega
  have t4 : decide (1000000000 < n) = false := by simp; omega
  go_enter Tryz.func82, Tryz.ntmps82
  go_wp2_with fail
  refine (common_any n d (by omega) (by omega) (by omega) (by omega) _).mono ?_
  rintro e w1 ⟨rfl, nq, rfl⟩
  go_wp2_with fail
  go_ret
  exact ⟨rfl, below_drewN ((Below.refl _ _).alloc (Nat.le_refl _) _) _⟩

set_option maxHeartbeats 400000 in
theorem refcheck_common (n d : Int) (h1 : 1 ≤ d) (h2 : d ≤ 1000000000) (h3 : -1000000000 ≤ n) (h4 : n ≤ 1000000000) (h5 : gcdI n d ≠ 1) (w : World) :
    Calls Tryz.prog 82 #[.agg #[.int .i64 n, .int .i64 d]] w fun e w' => e = .returned (.int .i64 8) ∧ Below w.heap.size w w' := by
  have h6 : (gcdI n d != 1) = true := by rw [bne_iff_ne]; exact h5
  clear h5
  have t1 : decide (d < 1) = false := by simp; omega
  have t2 : decide (1000000000 < d) = false := by simp; omega
  have t3 : decide (n < -1000000000) = false := by simp; omega
  have t4 : decide (1000000000 < n) = false := by simp; omega
  go_enter Tryz.func82, Tryz.ntmps82
  go_wp2_with fail
  refine (common_any n d (by omega) (by omega) (by omega) (by omega) _).mono ?_
  rintro e w1 ⟨rfl, nq, rfl⟩
  go_wp2_with fail
  go_ret
  exact ⟨rfl, below_drewN ((Below.refl _ _).alloc (Nat.le_refl _) _) _⟩

set_option maxHeartbeats 400000 in
theorem refcheck_bounds (n d : Int) (h : d < 1 ∨ 1000000000 < d ∨ n < -1000000000 ∨ 1000000000 < n) (w : World) :
    Calls Tryz.prog 82 #[.agg #[.int .i64 n, .int .i64 d]] w fun e w' => e = .returned (.int .i64 8) ∧ Below w.heap.size w w' := by
  by_cases c1 : d < 1
  · have t1 : decide (d < 1) = true := by simpa using c1
    go_enter Tryz.func82, Tryz.ntmps82
    go_wp2_with fail
    go_ret
    exact ⟨rfl, ((Below.refl _ _).alloc (Nat.le_refl _) _)⟩
  have t1 : decide (d < 1) = false := by simpa using c1
  by_cases c2 : 1000000000 < d
  · have t2 : decide (1000000000 < d) = true := by simpa using c2
    go_enter Tryz.func82, Tryz.ntmps82
    go_wp2_with fail
    go_ret
    exact ⟨rfl, ((Below.refl _ _).alloc (Nat.le_refl _) _)⟩
  have t2 : decide (1000000000 < d) = false := by simpa using c2
  by_cases c3 : n < -1000000000
  · have t3 : decide (n < -1000000000) = true := by simpa using c3
    go_enter Tryz.func82, Tryz.ntmps82
    go_wp2_with fail
    go_ret
    exact ⟨rfl, ((Below.refl _ _).alloc (Nat.le_refl _) _)⟩
  have t3 : decide (n < -1000000000) = false := by simpa using c3
  have c4 : 1000000000 < n := by omega
  have t4 : decide (1000000000 < n) = true := by simpa using c4
  go_enter Tryz.func82, Tryz.ntmps82
  go_wp2_with fail
  go_ret
  exact ⟨rfl, ((Below.refl _ _).alloc (Nat.le_refl _) _)⟩

theorem refcheck_any (n d : Int) (w : World) :
    Calls Tryz.prog 82 #[.agg #[.int .i64 n, .int .i64 d]] w fun e w' => e = .returned (.int .i64 (chk n d)) ∧ Below w.heap.size w w' := by
  by_cases hv : vld n d = true
  · rw [chk_valid hv]; exact refcheck_valid n d hv w
  · rw [chk_not (by simpa using hv)]
    by_cases hb : d < 1 ∨ 1000000000 < d ∨ n < -1000000000 ∨ 1000000000 < n
    · exact refcheck_bounds n d hb w
    · refine refcheck_common n d (by omega) (by omega) (by omega) (by omega) (fun h5 => hv (vld_iff.2 ⟨by omega, by omega, by omega, by omega, h5⟩)) w

/-- The first error of two ratios. -/
def both (an ad bn bd : Int) : Int := if (vld an ad && vld bn bd) = true then 0 else 8

set_option maxHeartbeats 800000 in
theorem refmake_pos_ok (n d : Int) (hn : -9223372036854775807 ≤ n) (hn2 : n ≤ 9223372036854775807) (hd : 1 ≤ d) (hd2 : d ≤ 9223372036854775807) (hok : vld (n.tdiv (gcdI (n) (d))) (d.tdiv (gcdI (n) (d))) = true) (w : World) :
    Calls Tryz.prog 50 #[.int .i64 n, .int .i64 d] w fun e w' => e = .returned (.tuple #[.agg #[.int .i64 (n.tdiv (gcdI (n) (d))), .int .i64 (d.tdiv (gcdI (n) (d)))], .int .i64 0]) ∧ Below w.heap.size w w' := by
  have hg : 1 ≤ gcdI (n) (d) := by
    have : 0 < Nat.gcd (n).natAbs (d).natAbs := Nat.gcd_pos_of_pos_right _ (by omega)
    unfold gcdI; omega
  have c1 : (d == 0) = false := beq_eq_false_iff_ne.2 (by omega)
  have c2 : (n == -9223372036854775808) = false := beq_eq_false_iff_ne.2 (by omega)
  have c3 : (d == -9223372036854775808) = false := beq_eq_false_iff_ne.2 (by omega)
  have c4 : decide (d < 0) = false := by simp; omega
  have h1 : (chk (n.tdiv (gcdI (n) (d))) (d.tdiv (gcdI (n) (d))) != 0) = false := by rw [chk_valid hok]; rfl
  have b1 : (n.tdiv (gcdI (n) (d))).natAbs ≤ (n).natAbs := by simp only [Int.natAbs_neg, Int.natAbs_tdiv]; exact Nat.div_le_self _ _
  have b2 : (d.tdiv (gcdI (n) (d))).natAbs ≤ (d).natAbs := by simp only [Int.natAbs_neg, Int.natAbs_tdiv]; exact Nat.div_le_self _ _
  have b3 : -9223372036854775807 ≤ (n.tdiv (gcdI (n) (d))) := by omega
  have b4 : (n.tdiv (gcdI (n) (d))) ≤ 9223372036854775807 := by omega
  have b5 : -9223372036854775807 ≤ (d.tdiv (gcdI (n) (d))) := by omega
  have b6 : (d.tdiv (gcdI (n) (d))) ≤ 9223372036854775807 := by omega
  clear hok b1 b2
  go_enter Tryz.func50, Tryz.ntmps50
  go_wp2_with fail
  refine (common_any _ _ (by omega) (by omega) (by omega) (by omega) _).mono ?_
  rintro e w1 ⟨rfl, nq, rfl⟩
  go_wp2_with fail
  go_region
  go_wp2_with fail
  refine (refcheck_any _ _ _).mono ?_
  rintro e w1 ⟨rfl, hb⟩
  have HB := Lib.hid hb
  have q0 : w.heap.size + 1 + 1 ≤ w1.heap.size := by simpa using hb.size
  have e0 : w1.heap[w.heap.size]? = some (.cells #[.int .i64 0, .int .i64 0] 25 (0, 0)) := (hb.block _ (by simp; omega)).trans (heap_alloc_old (heap_drewN_old (heap_alloc_new _ _) _) _)
  have e1 : w1.heap[w.heap.size + 1]? = some (.cells #[.int .i64 (n.tdiv (gcdI (n) (d))), .int .i64 (d.tdiv (gcdI (n) (d)))] 25 (0, 0)) := by
    refine (hb.block _ (by simp)).trans ?_
    have := heap_alloc_new ((w.alloc (.cells #[.int .i64 0, .int .i64 0] 25)).drewN (nq + 1)) (.cells #[.int .i64 (n.tdiv (gcdI (n) (d))), .int .i64 (d.tdiv (gcdI (n) (d)))] 25)
    simpa using this
  have q1 : w1.cell? ⟨w.heap.size, 0, none⟩ = some (.int .i64 0) := by simp [World.cell?, e0]
  have q2 : w1.cell? ⟨w.heap.size, 1, none⟩ = some (.int .i64 0) := by simp [World.cell?, e0]
  have q3 : w1.frozen? ⟨w.heap.size, 0, none⟩ = false := by simp [World.frozen?, e0]
  have q4 : w1.frozen? ⟨w.heap.size, 1, none⟩ = false := by simp [World.frozen?, e0]
  have q5 : w1.cell? ⟨w.heap.size + 1, 0, none⟩ = some (.int .i64 (n.tdiv (gcdI (n) (d)))) := by simp [World.cell?, e1]
  have q6 : w1.cell? ⟨w.heap.size + 1, 1, none⟩ = some (.int .i64 (d.tdiv (gcdI (n) (d)))) := by simp [World.cell?, e1]
  clear e0 e1
  clear hb
  go_wp2_with fail
  refine bodyPost_ret (v := .tuple #[.agg #[.int .i64 (n.tdiv (gcdI (n) (d))), .int .i64 (d.tdiv (gcdI (n) (d)))], .int .i64 0]) (by simp [results, Tryz.results50, go_sem, q1, q2]) rfl ⟨rfl, ?_⟩
  refine Below.setCell (Below.setCell (Below.trans ?_ (HB.out.mono ?_)) ?_ _) ?_ _
  · exact (below_drewN ((Below.refl _ _).alloc (Nat.le_refl _) _) _).alloc (by simp) _
  all_goals (simp <;> omega)

set_option maxHeartbeats 800000 in
theorem refmake_pos_bad (n d : Int) (hn : -9223372036854775807 ≤ n) (hn2 : n ≤ 9223372036854775807) (hd : 1 ≤ d) (hd2 : d ≤ 9223372036854775807) (hok : vld (n.tdiv (gcdI (n) (d))) (d.tdiv (gcdI (n) (d))) = false) (w : World) :
    Calls Tryz.prog 50 #[.int .i64 n, .int .i64 d] w fun e w' => e = .returned (.tuple #[.agg #[.int .i64 0, .int .i64 0], .int .i64 16]) ∧ Below w.heap.size w w' := by
  have hg : 1 ≤ gcdI (n) (d) := by
    have : 0 < Nat.gcd (n).natAbs (d).natAbs := Nat.gcd_pos_of_pos_right _ (by omega)
    unfold gcdI; omega
  have c1 : (d == 0) = false := beq_eq_false_iff_ne.2 (by omega)
  have c2 : (n == -9223372036854775808) = false := beq_eq_false_iff_ne.2 (by omega)
  have c3 : (d == -9223372036854775808) = false := beq_eq_false_iff_ne.2 (by omega)
  have c4 : decide (d < 0) = false := by simp; omega
  have h1 : (chk (n.tdiv (gcdI (n) (d))) (d.tdiv (gcdI (n) (d))) != 0) = true := by rw [chk_not hok]; rfl
  have b1 : (n.tdiv (gcdI (n) (d))).natAbs ≤ (n).natAbs := by simp only [Int.natAbs_neg, Int.natAbs_tdiv]; exact Nat.div_le_self _ _
  have b2 : (d.tdiv (gcdI (n) (d))).natAbs ≤ (d).natAbs := by simp only [Int.natAbs_neg, Int.natAbs_tdiv]; exact Nat.div_le_self _ _
  have b3 : -9223372036854775807 ≤ (n.tdiv (gcdI (n) (d))) := by omega
  have b4 : (n.tdiv (gcdI (n) (d))) ≤ 9223372036854775807 := by omega
  have b5 : -9223372036854775807 ≤ (d.tdiv (gcdI (n) (d))) := by omega
  have b6 : (d.tdiv (gcdI (n) (d))) ≤ 9223372036854775807 := by omega
  clear hok b1 b2
  go_enter Tryz.func50, Tryz.ntmps50
  go_wp2_with fail
  refine (common_any _ _ (by omega) (by omega) (by omega) (by omega) _).mono ?_
  rintro e w1 ⟨rfl, nq, rfl⟩
  go_wp2_with fail
  go_region
  go_wp2_with fail
  refine (refcheck_any _ _ _).mono ?_
  rintro e w1 ⟨rfl, hb⟩
  have HB := Lib.hid hb
  have q0 : w.heap.size + 1 + 1 ≤ w1.heap.size := by simpa using hb.size
  have e0 : w1.heap[w.heap.size]? = some (.cells #[.int .i64 0, .int .i64 0] 25 (0, 0)) := (hb.block _ (by simp; omega)).trans (heap_alloc_old (heap_drewN_old (heap_alloc_new _ _) _) _)
  have e1 : w1.heap[w.heap.size + 1]? = some (.cells #[.int .i64 (n.tdiv (gcdI (n) (d))), .int .i64 (d.tdiv (gcdI (n) (d)))] 25 (0, 0)) := by
    refine (hb.block _ (by simp)).trans ?_
    have := heap_alloc_new ((w.alloc (.cells #[.int .i64 0, .int .i64 0] 25)).drewN (nq + 1)) (.cells #[.int .i64 (n.tdiv (gcdI (n) (d))), .int .i64 (d.tdiv (gcdI (n) (d)))] 25)
    simpa using this
  have q1 : w1.cell? ⟨w.heap.size, 0, none⟩ = some (.int .i64 0) := by simp [World.cell?, e0]
  have q2 : w1.cell? ⟨w.heap.size, 1, none⟩ = some (.int .i64 0) := by simp [World.cell?, e0]
  have q3 : w1.frozen? ⟨w.heap.size, 0, none⟩ = false := by simp [World.frozen?, e0]
  have q4 : w1.frozen? ⟨w.heap.size, 1, none⟩ = false := by simp [World.frozen?, e0]
  have q5 : w1.cell? ⟨w.heap.size + 1, 0, none⟩ = some (.int .i64 (n.tdiv (gcdI (n) (d)))) := by simp [World.cell?, e1]
  have q6 : w1.cell? ⟨w.heap.size + 1, 1, none⟩ = some (.int .i64 (d.tdiv (gcdI (n) (d)))) := by simp [World.cell?, e1]
  clear e0 e1
  clear hb
  go_wp2_with fail
  refine bodyPost_ret (v := .tuple #[.agg #[.int .i64 0, .int .i64 0], .int .i64 16]) (by simp [results, Tryz.results50, go_sem, q1, q2]) rfl ⟨rfl, ?_⟩
  refine Below.setCell (Below.setCell (Below.trans ?_ (HB.out.mono ?_)) ?_ _) ?_ _
  · exact (below_drewN ((Below.refl _ _).alloc (Nat.le_refl _) _) _).alloc (by simp) _
  all_goals (simp <;> omega)

set_option maxHeartbeats 800000 in
theorem refmake_neg_ok (n d : Int) (hn : -9223372036854775807 ≤ n) (hn2 : n ≤ 9223372036854775807) (hd : -9223372036854775807 ≤ d) (hd2 : d ≤ -1) (hok : vld (-n.tdiv (gcdI (-n) (-d))) (-d.tdiv (gcdI (-n) (-d))) = true) (w : World) :
    Calls Tryz.prog 50 #[.int .i64 n, .int .i64 d] w fun e w' => e = .returned (.tuple #[.agg #[.int .i64 (-n.tdiv (gcdI (-n) (-d))), .int .i64 (-d.tdiv (gcdI (-n) (-d)))], .int .i64 0]) ∧ Below w.heap.size w w' := by
  have hg : 1 ≤ gcdI (-n) (-d) := by
    have : 0 < Nat.gcd (-n).natAbs (-d).natAbs := Nat.gcd_pos_of_pos_right _ (by omega)
    unfold gcdI; omega
  have c1 : (d == 0) = false := beq_eq_false_iff_ne.2 (by omega)
  have c2 : (n == -9223372036854775808) = false := beq_eq_false_iff_ne.2 (by omega)
  have c3 : (d == -9223372036854775808) = false := beq_eq_false_iff_ne.2 (by omega)
  have c4 : decide (d < 0) = true := by simp; omega
  have h1 : (chk (-n.tdiv (gcdI (-n) (-d))) (-d.tdiv (gcdI (-n) (-d))) != 0) = false := by rw [chk_valid hok]; rfl
  have b1 : (-n.tdiv (gcdI (-n) (-d))).natAbs ≤ (-n).natAbs := by simp only [Int.natAbs_neg, Int.natAbs_tdiv]; exact Nat.div_le_self _ _
  have b2 : (-d.tdiv (gcdI (-n) (-d))).natAbs ≤ (-d).natAbs := by simp only [Int.natAbs_neg, Int.natAbs_tdiv]; exact Nat.div_le_self _ _
  have b3 : -9223372036854775807 ≤ (-n.tdiv (gcdI (-n) (-d))) := by omega
  have b4 : (-n.tdiv (gcdI (-n) (-d))) ≤ 9223372036854775807 := by omega
  have b5 : -9223372036854775807 ≤ (-d.tdiv (gcdI (-n) (-d))) := by omega
  have b6 : (-d.tdiv (gcdI (-n) (-d))) ≤ 9223372036854775807 := by omega
  clear hok b1 b2
  go_enter Tryz.func50, Tryz.ntmps50
  go_wp2_with fail
  refine (common_any _ _ (by omega) (by omega) (by omega) (by omega) _).mono ?_
  rintro e w1 ⟨rfl, nq, rfl⟩
  go_wp2_with fail
  go_region
  go_wp2_with fail
  refine (refcheck_any _ _ _).mono ?_
  rintro e w1 ⟨rfl, hb⟩
  have HB := Lib.hid hb
  have q0 : w.heap.size + 1 + 1 ≤ w1.heap.size := by simpa using hb.size
  have e0 : w1.heap[w.heap.size]? = some (.cells #[.int .i64 0, .int .i64 0] 25 (0, 0)) := (hb.block _ (by simp; omega)).trans (heap_alloc_old (heap_drewN_old (heap_alloc_new _ _) _) _)
  have e1 : w1.heap[w.heap.size + 1]? = some (.cells #[.int .i64 (-n.tdiv (gcdI (-n) (-d))), .int .i64 (-d.tdiv (gcdI (-n) (-d)))] 25 (0, 0)) := by
    refine (hb.block _ (by simp)).trans ?_
    have := heap_alloc_new ((w.alloc (.cells #[.int .i64 0, .int .i64 0] 25)).drewN (nq + 1)) (.cells #[.int .i64 (-n.tdiv (gcdI (-n) (-d))), .int .i64 (-d.tdiv (gcdI (-n) (-d)))] 25)
    simpa using this
  have q1 : w1.cell? ⟨w.heap.size, 0, none⟩ = some (.int .i64 0) := by simp [World.cell?, e0]
  have q2 : w1.cell? ⟨w.heap.size, 1, none⟩ = some (.int .i64 0) := by simp [World.cell?, e0]
  have q3 : w1.frozen? ⟨w.heap.size, 0, none⟩ = false := by simp [World.frozen?, e0]
  have q4 : w1.frozen? ⟨w.heap.size, 1, none⟩ = false := by simp [World.frozen?, e0]
  have q5 : w1.cell? ⟨w.heap.size + 1, 0, none⟩ = some (.int .i64 (-n.tdiv (gcdI (-n) (-d)))) := by simp [World.cell?, e1]
  have q6 : w1.cell? ⟨w.heap.size + 1, 1, none⟩ = some (.int .i64 (-d.tdiv (gcdI (-n) (-d)))) := by simp [World.cell?, e1]
  clear e0 e1
  clear hb
  go_wp2_with fail
  refine bodyPost_ret (v := .tuple #[.agg #[.int .i64 (-n.tdiv (gcdI (-n) (-d))), .int .i64 (-d.tdiv (gcdI (-n) (-d)))], .int .i64 0]) (by simp [results, Tryz.results50, go_sem, q1, q2]) rfl ⟨rfl, ?_⟩
  refine Below.setCell (Below.setCell (Below.trans ?_ (HB.out.mono ?_)) ?_ _) ?_ _
  · exact (below_drewN ((Below.refl _ _).alloc (Nat.le_refl _) _) _).alloc (by simp) _
  all_goals (simp <;> omega)

set_option maxHeartbeats 800000 in
theorem refmake_neg_bad (n d : Int) (hn : -9223372036854775807 ≤ n) (hn2 : n ≤ 9223372036854775807) (hd : -9223372036854775807 ≤ d) (hd2 : d ≤ -1) (hok : vld (-n.tdiv (gcdI (-n) (-d))) (-d.tdiv (gcdI (-n) (-d))) = false) (w : World) :
    Calls Tryz.prog 50 #[.int .i64 n, .int .i64 d] w fun e w' => e = .returned (.tuple #[.agg #[.int .i64 0, .int .i64 0], .int .i64 16]) ∧ Below w.heap.size w w' := by
  have hg : 1 ≤ gcdI (-n) (-d) := by
    have : 0 < Nat.gcd (-n).natAbs (-d).natAbs := Nat.gcd_pos_of_pos_right _ (by omega)
    unfold gcdI; omega
  have c1 : (d == 0) = false := beq_eq_false_iff_ne.2 (by omega)
  have c2 : (n == -9223372036854775808) = false := beq_eq_false_iff_ne.2 (by omega)
  have c3 : (d == -9223372036854775808) = false := beq_eq_false_iff_ne.2 (by omega)
  have c4 : decide (d < 0) = true := by simp; omega
  have h1 : (chk (-n.tdiv (gcdI (-n) (-d))) (-d.tdiv (gcdI (-n) (-d))) != 0) = true := by rw [chk_not hok]; rfl
  have b1 : (-n.tdiv (gcdI (-n) (-d))).natAbs ≤ (-n).natAbs := by simp only [Int.natAbs_neg, Int.natAbs_tdiv]; exact Nat.div_le_self _ _
  have b2 : (-d.tdiv (gcdI (-n) (-d))).natAbs ≤ (-d).natAbs := by simp only [Int.natAbs_neg, Int.natAbs_tdiv]; exact Nat.div_le_self _ _
  have b3 : -9223372036854775807 ≤ (-n.tdiv (gcdI (-n) (-d))) := by omega
  have b4 : (-n.tdiv (gcdI (-n) (-d))) ≤ 9223372036854775807 := by omega
  have b5 : -9223372036854775807 ≤ (-d.tdiv (gcdI (-n) (-d))) := by omega
  have b6 : (-d.tdiv (gcdI (-n) (-d))) ≤ 9223372036854775807 := by omega
  clear hok b1 b2
  go_enter Tryz.func50, Tryz.ntmps50
  go_wp2_with fail
  refine (common_any _ _ (by omega) (by omega) (by omega) (by omega) _).mono ?_
  rintro e w1 ⟨rfl, nq, rfl⟩
  go_wp2_with fail
  go_region
  go_wp2_with fail
  refine (refcheck_any _ _ _).mono ?_
  rintro e w1 ⟨rfl, hb⟩
  have HB := Lib.hid hb
  have q0 : w.heap.size + 1 + 1 ≤ w1.heap.size := by simpa using hb.size
  have e0 : w1.heap[w.heap.size]? = some (.cells #[.int .i64 0, .int .i64 0] 25 (0, 0)) := (hb.block _ (by simp; omega)).trans (heap_alloc_old (heap_drewN_old (heap_alloc_new _ _) _) _)
  have e1 : w1.heap[w.heap.size + 1]? = some (.cells #[.int .i64 (-n.tdiv (gcdI (-n) (-d))), .int .i64 (-d.tdiv (gcdI (-n) (-d)))] 25 (0, 0)) := by
    refine (hb.block _ (by simp)).trans ?_
    have := heap_alloc_new ((w.alloc (.cells #[.int .i64 0, .int .i64 0] 25)).drewN (nq + 1)) (.cells #[.int .i64 (-n.tdiv (gcdI (-n) (-d))), .int .i64 (-d.tdiv (gcdI (-n) (-d)))] 25)
    simpa using this
  have q1 : w1.cell? ⟨w.heap.size, 0, none⟩ = some (.int .i64 0) := by simp [World.cell?, e0]
  have q2 : w1.cell? ⟨w.heap.size, 1, none⟩ = some (.int .i64 0) := by simp [World.cell?, e0]
  have q3 : w1.frozen? ⟨w.heap.size, 0, none⟩ = false := by simp [World.frozen?, e0]
  have q4 : w1.frozen? ⟨w.heap.size, 1, none⟩ = false := by simp [World.frozen?, e0]
  have q5 : w1.cell? ⟨w.heap.size + 1, 0, none⟩ = some (.int .i64 (-n.tdiv (gcdI (-n) (-d)))) := by simp [World.cell?, e1]
  have q6 : w1.cell? ⟨w.heap.size + 1, 1, none⟩ = some (.int .i64 (-d.tdiv (gcdI (-n) (-d)))) := by simp [World.cell?, e1]
  clear e0 e1
  clear hb
  go_wp2_with fail
  refine bodyPost_ret (v := .tuple #[.agg #[.int .i64 0, .int .i64 0], .int .i64 16]) (by simp [results, Tryz.results50, go_sem, q1, q2]) rfl ⟨rfl, ?_⟩
  refine Below.setCell (Below.setCell (Below.trans ?_ (HB.out.mono ?_)) ?_ _) ?_ _
  · exact (below_drewN ((Below.refl _ _).alloc (Nat.le_refl _) _) _).alloc (by simp) _
  all_goals (simp <;> omega)

set_option maxHeartbeats 800000 in
theorem refmake_zero (n : Int) (w : World) :
    Calls Tryz.prog 50 #[.int .i64 n, .int .i64 0] w fun e w' => e = .returned (.tuple #[.agg #[.int .i64 0, .int .i64 0], .int .i64 18]) ∧ Below w.heap.size w w' := by
  go_enter Tryz.func50, Tryz.ntmps50
  go_wp2_with fail
  refine bodyPost_ret (v := .tuple #[.agg #[.int .i64 0, .int .i64 0], .int .i64 18]) (by simp [results, Tryz.results50, go_sem]) rfl ⟨rfl, ?_⟩
  exact (Below.refl _ _).alloc (Nat.le_refl _) _

/-- What Make and the operations hand back. -/
def Made (n d : Int) : Value := .tuple #[.agg #[.int .i64 (mkN n d), .int .i64 (mkD n d)], .int .i64 (mkE n d)]
theorem made_of {n d x y f : Int} (h : mkN n d = x ∧ mkD n d = y ∧ mkE n d = f) : Ending.returned (.tuple #[.agg #[.int .i64 x, .int .i64 y], .int .i64 f]) = .returned (Made n d) := by
  obtain ⟨rfl, rfl, rfl⟩ := h; rfl

theorem refmake_any (n d : Int) (hn : -9223372036854775807 ≤ n) (hn2 : n ≤ 9223372036854775807) (hd : -9223372036854775807 ≤ d) (hd2 : d ≤ 9223372036854775807) (w : World) :
    Calls Tryz.prog 50 #[.int .i64 n, .int .i64 d] w fun e w' => e = .returned (Made n d) ∧ Below w.heap.size w w' := by
  by_cases hz : d = 0
  · subst hz
    refine (refmake_zero n w).mono fun e w' ⟨he, hb⟩ => ⟨?_, hb⟩
    rw [he]; exact made_of (mk_zero n)
  by_cases hp : 1 ≤ d
  · cases hok : vld (n.tdiv (gcdI n d)) (d.tdiv (gcdI n d)) with
    | true =>
      refine (refmake_pos_ok n d hn hn2 hp hd2 hok w).mono fun e w' ⟨he, hb⟩ => ⟨?_, hb⟩
      rw [he]; exact made_of (mk_tdiv_ok hp hok)
    | false =>
      refine (refmake_pos_bad n d hn hn2 hp hd2 hok w).mono fun e w' ⟨he, hb⟩ => ⟨?_, hb⟩
      rw [he]; exact made_of (mk_tdiv_bad hp hok)
  · have hneg : d ≤ -1 := by omega
    obtain ⟨f1, f2, f3⟩ := mk_negneg n d
    cases hok : vld (-n.tdiv (gcdI (-n) (-d))) (-d.tdiv (gcdI (-n) (-d))) with
    | true =>
      refine (refmake_neg_ok n d hn hn2 hd hneg hok w).mono fun e w' ⟨he, hb⟩ => ⟨?_, hb⟩
      rw [← Int.neg_tdiv, ← Int.neg_tdiv] at hok
      have := mk_tdiv_ok (n := -n) (d := -d) (by omega) hok
      rw [f1, f2, f3, Int.neg_tdiv, Int.neg_tdiv] at this
      rw [he]; exact made_of this
    | false =>
      refine (refmake_neg_bad n d hn hn2 hd hneg hok w).mono fun e w' ⟨he, hb⟩ => ⟨?_, hb⟩
      rw [← Int.neg_tdiv, ← Int.neg_tdiv] at hok
      have := mk_tdiv_bad (n := -n) (d := -d) (by omega) hok
      rw [f1, f2, f3] at this
      rw [he]; exact made_of this

end Go.Proofs.YtakjgjhjndiggaaGreatDoor
namespace Go.Proofs.YtakjgjhjndiggaaGreatDoor
open Go.RowKit
open RM
set_option linter.unusedVariables false
set_option linter.unusedSimpArgs false

set_option maxHeartbeats 400000 in
theorem refmake_least2 (w : World) :
    Calls Tryz.prog 50 #[.int .i64 (-9223372036854775808), .int .i64 (-9223372036854775808)] w fun e w' => e = .returned (.tuple #[.agg #[.int .i64 1, .int .i64 1], .int .i64 0]) ∧ Below w.heap.size w w' := by
  go_enter Tryz.func50, Tryz.ntmps50
  go_wp2_with fail
  refine bodyPost_ret (v := .tuple #[.agg #[.int .i64 1, .int .i64 1], .int .i64 0]) (by simp [results, Tryz.results50, go_sem]) rfl ⟨rfl, ?_⟩
  repeat (with_reducible (first | exact Below.refl _ _ | refine Below.alloc ?_ (by simp) _))

set_option maxHeartbeats 400000 in
theorem refmake_far (n d : Int) (c1 : (d == 0) = false) (c2 : (n == -9223372036854775808 && d == -9223372036854775808) = false) (c3 : (n == -9223372036854775808 || d == -9223372036854775808) = true)
    (c4 : (n.tmod 2 == 0 && d.tmod 2 == 0) = false) (w : World) :
    Calls Tryz.prog 50 #[.int .i64 n, .int .i64 d] w fun e w' => e = .returned (.tuple #[.agg #[.int .i64 0, .int .i64 0], .int .i64 16]) ∧ Below w.heap.size w w' := by
  cases a1 : (n == -9223372036854775808) <;> cases a2 : (d == -9223372036854775808) <;> cases a3 : (n.tmod 2 == 0) <;> cases a4 : (d.tmod 2 == 0) <;> simp only [a1, a2, a3, a4, Bool.and_true, Bool.true_and, Bool.or_true, Bool.or_false, Bool.false_or, Bool.true_or, Bool.and_false, Bool.false_and, Bool.true_eq_false, Bool.false_eq_true, Bool.or_self, Bool.and_self] at c2 c3 c4
  all_goals
    go_enter Tryz.func50, Tryz.ntmps50
    go_wp2_with fail
    refine bodyPost_ret (v := .tuple #[.agg #[.int .i64 0, .int .i64 0], .int .i64 16]) (by simp [results, Tryz.results50, go_sem]) rfl ⟨rfl, ?_⟩
    repeat (with_reducible (first | exact Below.refl _ _ | refine Below.alloc ?_ (by simp) _))

theorem half (x : Int) : x = 2 * x.tdiv 2 + x.tmod 2 ∧ (x.tdiv 2).natAbs = x.natAbs / 2 ∧ (x.tmod 2).natAbs = x.natAbs % 2 :=
  ⟨(Int.mul_tdiv_add_tmod x 2).symm, by rw [Int.natAbs_tdiv]; rfl, by rw [Int.natAbs_tmod]; rfl⟩

set_option maxHeartbeats 400000 in
theorem refmake_half (n d x y f : Int) (b1 : -9223372036854775808 ≤ n) (b2 : n ≤ 9223372036854775807) (b3 : -9223372036854775808 ≤ d) (b4 : d ≤ 9223372036854775807) (c1 : (d == 0) = false) (c2 : (n == -9223372036854775808 && d == -9223372036854775808) = false) (c3 : (n == -9223372036854775808 || d == -9223372036854775808) = true)
    (e1 : (n.tmod 2 == 0) = true) (e2 : (d.tmod 2 == 0) = true) (w : World)
    (h : ∀ w, Calls Tryz.prog 50 #[.int .i64 (n.tdiv 2), .int .i64 (d.tdiv 2)] w fun e w' => e = .returned (.tuple #[.agg #[.int .i64 x, .int .i64 y], .int .i64 f]) ∧ Below w.heap.size w w') :
    Calls Tryz.prog 50 #[.int .i64 n, .int .i64 d] w fun e w' => e = .returned (.tuple #[.agg #[.int .i64 x, .int .i64 y], .int .i64 f]) ∧ Below w.heap.size w w' := by
  have K := Lib.hid h
  have u1 := half n
  have u2 := half d
  have t1 : -9223372036854775808 ≤ n.tdiv 2 ∧ n.tdiv 2 ≤ 9223372036854775807 := by omega
  have t2 : -9223372036854775808 ≤ d.tdiv 2 ∧ d.tdiv 2 ≤ 9223372036854775807 := by omega
  clear h u1 u2
  cases a1 : (n == -9223372036854775808) <;> cases a2 : (d == -9223372036854775808) <;> simp only [a1, a2, Bool.and_true, Bool.true_and, Bool.or_true, Bool.or_false, Bool.false_or, Bool.true_or, Bool.and_false, Bool.false_and, Bool.true_eq_false, Bool.false_eq_true, Bool.or_self, Bool.and_self] at c2 c3
  all_goals
    go_enter Tryz.func50, Tryz.ntmps50
    go_wp2_with fail
    refine (K.out _).mono ?_
    rintro e w1 ⟨rfl, hb⟩
    have b0 : Below w.heap.size w (w.alloc (.cells #[.int .i64 0, .int .i64 0] 25)) := (Below.refl _ _).alloc (Nat.le_refl _) _
    have HB := Lib.hid (b0.trans (hb.mono b0.size))
    have E1 := Lib.hid (below_new hb (heap_alloc_new w (.cells #[.int .i64 0, .int .i64 0] 25)))
    have l1 := lt_of_block E1.out
    have p1 := cell_two0 E1.out
    have q1 := cell_two1 E1.out
    have f1 := free_two0 E1.out
    have g1 := free_two1 E1.out
    clear hb b0
    go_wp2_with fail
    refine bodyPost_ret (v := .tuple #[.agg #[.int .i64 x, .int .i64 y], .int .i64 f]) (by simp [results, Tryz.results50, go_sem, p1, q1]) rfl ⟨rfl, ?_⟩
    repeat (with_reducible (first | exact HB.out | refine Below.setCell ?_ (by exact Nat.le_refl _) _))

theorem gcd_two63 {m : Nat} (h : m % 2 = 1) : Nat.gcd 9223372036854775808 m = 1 := by
  have h2 : Nat.Coprime 2 m := by unfold Nat.Coprime; rw [Nat.gcd_rec, h]; rfl
  have := Nat.Coprime.pow_left 63 h2
  exact this
theorem odd_abs {x : Int} (h : (x.tmod 2 == 0) = false) : x.natAbs % 2 = 1 := by
  have u := half x
  rw [beq_eq_false_iff_ne] at h; omega
theorem mk_far1 {d : Int} (hd : d ≠ 0) (h : (d.tmod 2 == 0) = false) : mkN (-9223372036854775808) d = 0 ∧ mkD (-9223372036854775808) d = 0 ∧ mkE (-9223372036854775808) d = 16 := by
  refine mk_big hd (.inl ?_)
  unfold amN
  rw [show (-9223372036854775808 : Int).natAbs = 9223372036854775808 from rfl, gcd_two63 (odd_abs h)]; decide
theorem mk_far2 {n : Int} (h : (n.tmod 2 == 0) = false) : mkN n (-9223372036854775808) = 0 ∧ mkD n (-9223372036854775808) = 0 ∧ mkE n (-9223372036854775808) = 16 := by
  refine mk_big (by decide) (.inr ?_)
  unfold amD
  rw [show (-9223372036854775808 : Int).natAbs = 9223372036854775808 from rfl, Nat.gcd_comm, gcd_two63 (odd_abs h)]; decide

theorem refmake_all (n d : Int) (b1 : -9223372036854775808 ≤ n) (b2 : n ≤ 9223372036854775807) (b3 : -9223372036854775808 ≤ d) (b4 : d ≤ 9223372036854775807) (w : World) :
    Calls Tryz.prog 50 #[.int .i64 n, .int .i64 d] w fun e w' => e = .returned (.tuple #[.agg #[.int .i64 (mkN n d), .int .i64 (mkD n d)], .int .i64 (mkE n d)]) ∧ Below w.heap.size w w' := by
  by_cases hz : d = 0
  · subst hz
    obtain ⟨z1, z2, z3⟩ := mk_zero n
    rw [z1, z2, z3]; exact refmake_zero n w
  have c1 : (d == 0) = false := beq_eq_false_iff_ne.2 hz
  have u1 := half n
  have u2 := half d
  by_cases hl : n = -9223372036854775808 ∨ d = -9223372036854775808
  · by_cases hb : n = -9223372036854775808 ∧ d = -9223372036854775808
    · obtain ⟨rfl, rfl⟩ := hb
      have h := refmake_least2 w
      rwa [show mkN (-9223372036854775808) (-9223372036854775808) = 1 by decide +kernel, show mkD (-9223372036854775808) (-9223372036854775808) = 1 by decide +kernel, show mkE (-9223372036854775808) (-9223372036854775808) = 0 by decide +kernel]
    · have c2 : (n == -9223372036854775808 && d == -9223372036854775808) = false := by
        cases hh : (n == -9223372036854775808 && d == -9223372036854775808)
        · rfl
        · rw [Bool.and_eq_true, beq_iff_eq, beq_iff_eq] at hh; exact absurd hh hb
      have c3 : (n == -9223372036854775808 || d == -9223372036854775808) = true := by
        rw [Bool.or_eq_true, beq_iff_eq, beq_iff_eq]; exact hl
      cases e1 : (n.tmod 2 == 0) with
      | false =>
        have hd : d = -9223372036854775808 := by
          rcases hl with rfl | hl
          · exact absurd e1 (by decide)
          · exact hl
        subst hd
        obtain ⟨z1, z2, z3⟩ := mk_far2 e1
        rw [z1, z2, z3]
        exact refmake_far n _ c1 c2 c3 (by rw [e1]; rfl) w
      | true =>
        cases e2 : (d.tmod 2 == 0) with
        | false =>
          have hn : n = -9223372036854775808 := by
            rcases hl with hl | rfl
            · exact hl
            · exact absurd e2 (by decide)
          subst hn
          obtain ⟨z1, z2, z3⟩ := mk_far1 hz e2
          rw [z1, z2, z3]
          exact refmake_far _ d c1 c2 c3 (by rw [e2, Bool.and_false]) w
        | true =>
          refine refmake_half n d _ _ _ b1 b2 b3 b4 c1 c2 c3 e1 e2 w fun w => ?_
          rw [beq_iff_eq] at e1 e2
          have hn : n = 2 * n.tdiv 2 := by omega
          have hd : d = 2 * d.tdiv 2 := by omega
          obtain ⟨s1, s2, s3⟩ := mk_scale 2 (n.tdiv 2) (d.tdiv 2) (by decide)
          rw [← hn, ← hd] at s1 s2 s3
          rw [s1, s2, s3]
          exact refmake_any (n.tdiv 2) (d.tdiv 2) (by omega) (by omega) (by omega) (by omega) w
  · exact refmake_any n d (by omega) b2 (by omega) b4 w
end Go.Proofs.YtakjgjhjndiggaaGreatDoor
