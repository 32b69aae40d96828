/-
  What the helpers of package ratio do: the greatest common divisor, amounts, the kept error, Check, and the reduced ratio.
-/
import Derived.Test.YtakjgjhjndiggaaGreatDoorProg
import Derived.Test.YtakjgjhjndiggaaGreatDoorRatMath
import Derived.WalkKit
import Derived.WalkSpells
import Derived.WalkLawsBesides
import Derived.Deep.QuietTactic
import Derived.BigQuiet
import Derived.Lib.Hide
import Derived.OneCell
import Derived.Test.YtakjgjhjndiggaaGreatDoorRatKept
namespace Go.Proofs.YtakjgjhjndiggaaGreatDoor
open Go.RowKit
open RM
set_option linter.unusedVariables false
set_option linter.unusedSimpArgs false

theorem gcd_step (a b : Nat) : Nat.gcd b (a % b) = Nat.gcd a b := by
  rw [Nat.gcd_comm a b, Nat.gcd_rec b a, Nat.gcd_comm]

theorem ret_num {k : IntKind} {a b : Int} (h : a = b) : Ending.returned (.int k a) = .returned (.int k b) := by rw [h]
set_option maxHeartbeats 400000 in
theorem divisor_any (a b : Nat) (ha : a ≤ 18446744073709551615) (hb : b ≤ 18446744073709551615) (w : World) :
    Calls Tryz.prog 90 #[.int .u64 a, .int .u64 b] w fun e w' => e = .returned (.int .u64 (Nat.gcd a b : Nat)) ∧ ∃ n, w' = w.drewN n := by
  go_enter Tryz.func90, Tryz.ntmps90
  go_wp2
  go_loopw [0, 1] (fun x y wr => ∃ p q : Nat, p ≤ 18446744073709551615 ∧ q ≤ 18446744073709551615 ∧ x = .int .u64 p ∧ y = .int .u64 q ∧ Nat.gcd p q = Nat.gcd a b ∧ ∃ n, wr = w.drewN n) (fun _ y _ => (intOf y).toNat)
  case atStart => exact ⟨a, b, ha, hb, rfl, rfl, rfl, 0, rfl⟩
  case round =>
    obtain ⟨p, q, hp, hq, rfl, rfl, hg, n, rfl⟩ := hrel
    have Hg := Lib.hid hg
    clear hg
    by_cases hq0 : q = 0
    · have hz : ((q : Int) != 0) = false := by simp [hq0]
      have HQ := Lib.hid hq0
      clear hq0
      go_wp2
      go_ret
      exact ⟨ret_num (by rw [← Hg.out, HQ.out, Nat.gcd_zero_right]), n, rfl⟩
    · have hz : ((q : Int) != 0) = true := by rw [bne_iff_ne]; omega
      have hq1 : (1 : Int) ≤ q := by omega
      have hlt : p % q < q := Nat.mod_lt _ (by omega)
      clear hq0
      go_wp2
      go_quiet (fail)
      go_wp2
      go_roundw
      case rel => exact ⟨q, p % q, hq, by omega, rfl, by simp, by rw [gcd_step]; exact Hg.out, n + nq, by rw [World.drewN_drewN]⟩
      case measure => simp [intOf]; omega

theorem wrap_neg (n : Int) (h : -9223372036854775808 ≤ n) (hn : n < 0) : IntKind.u64.wrap (-IntKind.u64.wrap n) = ((n.natAbs : Nat) : Int) := by
  simp [IntKind.wrap, IntKind.bits, IntKind.signed]; omega

set_option maxHeartbeats 400000 in
theorem magnitude_any (n : Int) (h : -9223372036854775808 ≤ n) (h2 : n ≤ 9223372036854775807) (w : World) :
    Calls Tryz.prog 89 #[.int .i64 n] w fun e w' => e = .returned (.int .u64 (n.natAbs : Nat)) ∧ w = w' := by
  by_cases hn : n < 0
  · go_enter Tryz.func89, Tryz.ntmps89
    go_wp2
    go_ret
    exact ⟨ret_num (wrap_neg n h hn), rfl⟩
  · go_enter Tryz.func89, Tryz.ntmps89
    go_wp2
    go_ret
    exact ⟨ret_num (by omega), rfl⟩

set_option maxHeartbeats 400000 in
theorem keep_first (b : Nat) (e0 : Int) (w : World) (hb : w.heap[b]? = some (.cells #[.int .i64 0] 114 (0, 0))) :
    Calls Tryz.prog 88 #[.pointer (some ⟨b, 0, none⟩), .int .i64 e0] w fun e w' => e = .returned (.tuple #[]) ∧ w.setCell ⟨b, 0, none⟩ (.int .i64 e0) = w' := by
  have h1 := cell_of_one hb
  have h2 := free_of_one hb
  clear hb
  go_enter Tryz.func88, Tryz.ntmps88
  go_wp2
  go_end0
  exact ⟨rfl, rfl⟩

set_option maxHeartbeats 400000 in
theorem keep_later (b : Nat) (e0 f0 : Int) (hf : (f0 == 0) = false) (w : World) (hb : w.heap[b]? = some (.cells #[.int .i64 f0] 114 (0, 0))) :
    Calls Tryz.prog 88 #[.pointer (some ⟨b, 0, none⟩), .int .i64 e0] w fun e w' => e = .returned (.tuple #[]) ∧ w = w' := by
  have h1 := cell_of_one hb
  have h2 := free_of_one hb
  clear hb
  go_enter Tryz.func88, Tryz.ntmps88
  go_wp2
  go_end0
  exact ⟨rfl, rfl⟩


theorem magnitude_q (n : Int) (h : -9223372036854775808 ≤ n) (h2 : n ≤ 9223372036854775807) (w : World) :
    Calls Tryz.prog 89 #[.int .i64 n] w fun e w' => e = .returned (.int .u64 (n.natAbs : Nat)) ∧ ∃ m, w' = w.drewN m :=
  (magnitude_any n h h2 w).mono fun _ _ ⟨he, hw⟩ => ⟨he, 0, hw.symm⟩

set_option maxHeartbeats 400000 in
theorem check_valid (n d : Int) (h : vld n d = true) (w : World) :
    Calls Tryz.prog 64 #[.agg #[.int .i64 n, .int .i64 d]] w fun e w' => e = .returned (.int .i64 0) ∧ Below w.heap.size w w' := by
  obtain ⟨h1, h2, h3, h4, h5⟩ := vld_iff.1 h
  have h6 : (((Nat.gcd n.natAbs d.natAbs : Nat) : Int) != 1) = false := by unfold gcdI at h5; rw [h5]; rfl
  have H5 := Lib.hid h5
  clear h5 h
  go_enter Tryz.func64, Tryz.ntmps64
  go_wp2_with fail
  go_quiet (first
    | (go_at_call 89; exact Calls.quiet_of (magnitude_q _ (by omega) (by omega) _))
    | (go_at_call 90; exact Calls.quiet_of (divisor_any _ _ (by omega) (by omega) _)))
  go_wp2_with fail
  go_ret
  exact ⟨rfl, below_drewN ((Below.refl _ _).alloc (Nat.le_refl _) _) _⟩

set_option maxHeartbeats 400000 in
theorem check_bounds (n d : Int) (h : d < 1 ∨ 1000000000 < d ∨ n < -1000000000 ∨ 1000000000 < n) (w : World) :
    Calls Tryz.prog 64 #[.agg #[.int .i64 n, .int .i64 d]] w fun e w' => e = .returned (.int .i64 8) ∧ Below w.heap.size w w' := by
  rcases h with h | h | h | h
  all_goals
    go_enter Tryz.func64, Tryz.ntmps64
    go_wp2_with fail
    all_goals
      go_ret
      exact ⟨rfl, ((Below.refl _ _).alloc (Nat.le_refl _) _)⟩

set_option maxHeartbeats 400000 in
theorem check_common (n d : Int) (h1 : 1 ≤ d) (h2 : d ≤ 1000000000) (h3 : -1000000000 ≤ n) (h4 : n ≤ 1000000000) (h5 : gcdI n d ≠ 1) (w : World) :
    Calls Tryz.prog 64 #[.agg #[.int .i64 n, .int .i64 d]] w fun e w' => e = .returned (.int .i64 8) ∧ Below w.heap.size w w' := by
  have h6 : (((Nat.gcd n.natAbs d.natAbs : Nat) : Int) != 1) = true := by rw [bne_iff_ne]; exact h5
  clear h5
  go_enter Tryz.func64, Tryz.ntmps64
  go_wp2_with fail
  go_quiet (first
    | (go_at_call 89; exact Calls.quiet_of (magnitude_q _ (by omega) (by omega) _))
    | (go_at_call 90; exact Calls.quiet_of (divisor_any _ _ (by omega) (by omega) _)))
  go_wp2_with fail
  go_ret
  exact ⟨rfl, below_drewN ((Below.refl _ _).alloc (Nat.le_refl _) _) _⟩

theorem check_any (n d : Int) (w : World) :
    Calls Tryz.prog 64 #[.agg #[.int .i64 n, .int .i64 d]] w fun e w' => e = .returned (.int .i64 (chk n d)) ∧ Below w.heap.size w w' := by
  by_cases hv : vld n d = true
  · rw [chk_valid hv]; exact check_valid n d hv w
  · rw [chk_not (by simpa using hv)]
    by_cases hb : d < 1 ∨ 1000000000 < d ∨ n < -1000000000 ∨ 1000000000 < n
    · exact check_bounds n d hb w
    · refine check_common n d (by omega) (by omega) (by omega) (by omega) (fun h5 => hv (vld_iff.2 ⟨by omega, by omega, by omega, by omega, h5⟩)) w


/-- What reduce does: the ratio's parts handed back, the error kept in the one cell. -/
def Reduced (b : Nat) (n d : Int) (w : World) (e : Ending) (w' : World) : Prop :=
  e = .returned (.agg #[.int .i64 (mkN n d), .int .i64 (mkD n d)]) ∧ w'.heap[b]? = some (.cells #[.int .i64 (mkE n d)] 114 (0, 0)) ∧ Kept b w w'

theorem reduced_of {b : Nat} {n d x y f : Int} {w w' : World} (h : mkN n d = x ∧ mkD n d = y ∧ mkE n d = f)
    (hb : w'.heap[b]? = some (.cells #[.int .i64 f] 114 (0, 0))) (hk : Kept b w w') :
    Reduced b n d w (.returned (.agg #[.int .i64 x, .int .i64 y])) w' := by
  obtain ⟨rfl, rfl, rfl⟩ := h; exact ⟨rfl, hb, hk⟩

set_option maxHeartbeats 400000 in
theorem reduce_zero (b : Nat) (n : Int) (w : World) (hb : w.heap[b]? = some (.cells #[.int .i64 0] 114 (0, 0))) :
    Calls Tryz.prog 57 #[.pointer (some ⟨b, 0, none⟩), .int .i64 n, .int .i64 0] w (Reduced b n 0 w) := by
  have hlt := lt_of_block hb
  have Hb := Lib.hid hb
  clear hb
  go_enter Tryz.func57, Tryz.ntmps57
  go_wp2_with fail
  refine (keep_first b 18 _ (heap_alloc_old Hb.out _)).mono ?_
  rintro e w' ⟨rfl, rfl⟩
  go_wp2_with fail
  exact bodyPost_ret (v := .agg #[.int .i64 0, .int .i64 0]) (by simp [results, Tryz.results57, go_sem]) rfl
    (reduced_of (mk_zero n) (heap_alloc_old (one_setCell Hb.out) _) (((Kept.refl b w).setCell (.inl rfl) _).alloc _))

set_option maxHeartbeats 800000 in
theorem reduce_big (b : Nat) (n d : Int) (hn : -9223372036854775808 ≤ n) (hn2 : n ≤ 9223372036854775807) (hd : -9223372036854775808 ≤ d) (hd2 : d ≤ 9223372036854775807) (hz : d ≠ 0)
    (hbig : 1000000000 < amN n d ∨ 1000000000 < amD n d) (w : World) (hb : w.heap[b]? = some (.cells #[.int .i64 0] 114 (0, 0))) :
    Calls Tryz.prog 57 #[.pointer (some ⟨b, 0, none⟩), .int .i64 n, .int .i64 d] w (Reduced b n d w) := by
  have hm := Lib.hid (mk_big hz hbig)
  have hlt := lt_of_block hb
  have Hb := Lib.hid hb
  clear hb
  have hg : 1 ≤ Nat.gcd n.natAbs d.natAbs := Nat.gcd_pos_of_pos_right _ (by omega)
  have hgi : (1 : Int) ≤ (Nat.gcd n.natAbs d.natAbs : Nat) := by omega
  have hdz : (d == 0) = false := beq_eq_false_iff_ne.2 hz
  have hN : amN n d ≤ n.natAbs := Nat.div_le_self _ _
  have hD : amD n d ≤ d.natAbs := Nat.div_le_self _ _
  have eN : (n.natAbs : Int) / (Nat.gcd n.natAbs d.natAbs : Nat) = (amN n d : Nat) := by unfold amN; omega
  have eD : (d.natAbs : Int) / (Nat.gcd n.natAbs d.natAbs : Nat) = (amD n d : Nat) := by unfold amD; omega
  clear hz
  by_cases hbn : 1000000000 < amN n d
  all_goals
    go_enter Tryz.func57, Tryz.ntmps57
    go_wp2_with fail
    refine (magnitude_any _ (by omega) (by omega) _).mono ?_
    rintro e w' ⟨rfl, rfl⟩
    go_wp2_with fail
    refine (magnitude_any _ (by omega) (by omega) _).mono ?_
    rintro e w' ⟨rfl, rfl⟩
    go_wp2_with fail
    refine (divisor_any _ _ (by omega) (by omega) _).mono ?_
    rintro e w' ⟨rfl, nq, rfl⟩
    go_wp2_with fail
    go_quiet (fail)
    go_wp2_with fail
    refine (keep_first b 16 _ (by exact heap_alloc_old Hb.out _)).mono ?_
    rintro e w' ⟨rfl, rfl⟩
    go_wp2_with fail
    refine bodyPost_ret (v := .agg #[.int .i64 0, .int .i64 0]) (by simp [results, Tryz.results57, go_sem]) rfl (reduced_of hm.out ?_ ?_)
    · repeat (with_reducible (first | exact Hb.out | refine one_setCell (v := .int .i64 0) ?_ | refine heap_drewN_old ?_ _ | refine heap_alloc_old ?_ _ | refine heap_set_other ?_ (by show b ≠ w.heap.size; omega) _))
    · repeat (with_reducible (first | exact Kept.refl _ _ | refine Kept.drewN ?_ _ | refine Kept.alloc ?_ _ | refine Kept.setCell ?_ (by first | exact .inl rfl | exact .inr (Nat.le_refl _)) _))

set_option maxHeartbeats 800000 in
theorem reduce_nn (b : Nat) (n d : Int) (hn : -9223372036854775808 ≤ n) (hn2 : n ≤ 9223372036854775807) (hd : -9223372036854775808 ≤ d) (hd2 : d ≤ 9223372036854775807) (hz : d ≠ 0)
    (h1 : amN n d ≤ 1000000000) (h2 : amD n d ≤ 1000000000) (s1 : n < 0) (s2 : d < 0) (w : World) (hb : w.heap[b]? = some (.cells #[.int .i64 0] 114 (0, 0))) :
    Calls Tryz.prog 57 #[.pointer (some ⟨b, 0, none⟩), .int .i64 n, .int .i64 d] w (Reduced b n d w) := by
  have hm := Lib.hid (mk_pos hz h1 h2 (by simp [s1, s2]))
  have t1 : decide (n < 0) = true := by simpa using s1
  have t2 : decide (d < 0) = true := by simpa using s2
  have hlt := lt_of_block hb
  have Hb := Lib.hid hb
  clear hb
  have hg : 1 ≤ Nat.gcd n.natAbs d.natAbs := Nat.gcd_pos_of_pos_right _ (by omega)
  have hgi : (1 : Int) ≤ (Nat.gcd n.natAbs d.natAbs : Nat) := by omega
  have hdz : (d == 0) = false := beq_eq_false_iff_ne.2 hz
  have hN : amN n d ≤ n.natAbs := Nat.div_le_self _ _
  have hD : amD n d ≤ d.natAbs := Nat.div_le_self _ _
  have eN : (n.natAbs : Int) / (Nat.gcd n.natAbs d.natAbs : Nat) = (amN n d : Nat) := by unfold amN; omega
  have eD : (d.natAbs : Int) / (Nat.gcd n.natAbs d.natAbs : Nat) = (amD n d : Nat) := by unfold amD; omega
  clear hz
  go_enter Tryz.func57, Tryz.ntmps57
  go_wp2_with fail
  refine (magnitude_any _ (by omega) (by omega) _).mono ?_
  rintro e w' ⟨rfl, rfl⟩
  go_wp2_with fail
  refine (magnitude_any _ (by omega) (by omega) _).mono ?_
  rintro e w' ⟨rfl, rfl⟩
  go_wp2_with fail
  refine (divisor_any _ _ (by omega) (by omega) _).mono ?_
  rintro e w' ⟨rfl, nq, rfl⟩
  go_wp2_with fail
  go_quiet (fail)
  go_wp2_with fail
  refine bodyPost_ret (v := .agg #[.int .i64 (amN n d : Int), .int .i64 (amD n d)]) (by simp [results, Tryz.results57, go_sem]) rfl (reduced_of hm.out ?_ ?_)
  · repeat (with_reducible (first | exact Hb.out | refine one_setCell (v := .int .i64 0) ?_ | refine heap_drewN_old ?_ _ | refine heap_alloc_old ?_ _ | refine heap_set_other ?_ (by show b ≠ w.heap.size; omega) _))
  · repeat (with_reducible (first | exact Kept.refl _ _ | refine Kept.drewN ?_ _ | refine Kept.alloc ?_ _ | refine Kept.setCell ?_ (by first | exact .inl rfl | exact .inr (Nat.le_refl _)) _))

set_option maxHeartbeats 800000 in
theorem reduce_np (b : Nat) (n d : Int) (hn : -9223372036854775808 ≤ n) (hn2 : n ≤ 9223372036854775807) (hd : -9223372036854775808 ≤ d) (hd2 : d ≤ 9223372036854775807) (hz : d ≠ 0)
    (h1 : amN n d ≤ 1000000000) (h2 : amD n d ≤ 1000000000) (s1 : n < 0) (s2 : ¬ d < 0) (w : World) (hb : w.heap[b]? = some (.cells #[.int .i64 0] 114 (0, 0))) :
    Calls Tryz.prog 57 #[.pointer (some ⟨b, 0, none⟩), .int .i64 n, .int .i64 d] w (Reduced b n d w) := by
  have hm := Lib.hid (mk_neg hz h1 h2 (by simp [s1, s2]))
  have t1 : decide (n < 0) = true := by simpa using s1
  have t2 : decide (d < 0) = false := by simpa using s2
  have hlt := lt_of_block hb
  have Hb := Lib.hid hb
  clear hb
  have hg : 1 ≤ Nat.gcd n.natAbs d.natAbs := Nat.gcd_pos_of_pos_right _ (by omega)
  have hgi : (1 : Int) ≤ (Nat.gcd n.natAbs d.natAbs : Nat) := by omega
  have hdz : (d == 0) = false := beq_eq_false_iff_ne.2 hz
  have hN : amN n d ≤ n.natAbs := Nat.div_le_self _ _
  have hD : amD n d ≤ d.natAbs := Nat.div_le_self _ _
  have eN : (n.natAbs : Int) / (Nat.gcd n.natAbs d.natAbs : Nat) = (amN n d : Nat) := by unfold amN; omega
  have eD : (d.natAbs : Int) / (Nat.gcd n.natAbs d.natAbs : Nat) = (amD n d : Nat) := by unfold amD; omega
  clear hz
  go_enter Tryz.func57, Tryz.ntmps57
  go_wp2_with fail
  refine (magnitude_any _ (by omega) (by omega) _).mono ?_
  rintro e w' ⟨rfl, rfl⟩
  go_wp2_with fail
  refine (magnitude_any _ (by omega) (by omega) _).mono ?_
  rintro e w' ⟨rfl, rfl⟩
  go_wp2_with fail
  refine (divisor_any _ _ (by omega) (by omega) _).mono ?_
  rintro e w' ⟨rfl, nq, rfl⟩
  go_wp2_with fail
  go_quiet (fail)
  go_wp2_with fail
  refine bodyPost_ret (v := .agg #[.int .i64 (-(amN n d : Int)), .int .i64 (amD n d)]) (by simp [results, Tryz.results57, go_sem]) rfl (reduced_of hm.out ?_ ?_)
  · repeat (with_reducible (first | exact Hb.out | refine one_setCell (v := .int .i64 0) ?_ | refine heap_drewN_old ?_ _ | refine heap_alloc_old ?_ _ | refine heap_set_other ?_ (by show b ≠ w.heap.size; omega) _))
  · repeat (with_reducible (first | exact Kept.refl _ _ | refine Kept.drewN ?_ _ | refine Kept.alloc ?_ _ | refine Kept.setCell ?_ (by first | exact .inl rfl | exact .inr (Nat.le_refl _)) _))

set_option maxHeartbeats 800000 in
theorem reduce_pn (b : Nat) (n d : Int) (hn : -9223372036854775808 ≤ n) (hn2 : n ≤ 9223372036854775807) (hd : -9223372036854775808 ≤ d) (hd2 : d ≤ 9223372036854775807) (hz : d ≠ 0)
    (h1 : amN n d ≤ 1000000000) (h2 : amD n d ≤ 1000000000) (s1 : ¬ n < 0) (s2 : d < 0) (w : World) (hb : w.heap[b]? = some (.cells #[.int .i64 0] 114 (0, 0))) :
    Calls Tryz.prog 57 #[.pointer (some ⟨b, 0, none⟩), .int .i64 n, .int .i64 d] w (Reduced b n d w) := by
  have hm := Lib.hid (mk_neg hz h1 h2 (by simp [s1, s2]))
  have t1 : decide (n < 0) = false := by simpa using s1
  have t2 : decide (d < 0) = true := by simpa using s2
  have hlt := lt_of_block hb
  have Hb := Lib.hid hb
  clear hb
  have hg : 1 ≤ Nat.gcd n.natAbs d.natAbs := Nat.gcd_pos_of_pos_right _ (by omega)
  have hgi : (1 : Int) ≤ (Nat.gcd n.natAbs d.natAbs : Nat) := by omega
  have hdz : (d == 0) = false := beq_eq_false_iff_ne.2 hz
  have hN : amN n d ≤ n.natAbs := Nat.div_le_self _ _
  have hD : amD n d ≤ d.natAbs := Nat.div_le_self _ _
  have eN : (n.natAbs : Int) / (Nat.gcd n.natAbs d.natAbs : Nat) = (amN n d : Nat) := by unfold amN; omega
  have eD : (d.natAbs : Int) / (Nat.gcd n.natAbs d.natAbs : Nat) = (amD n d : Nat) := by unfold amD; omega
  clear hz
  go_enter Tryz.func57, Tryz.ntmps57
  go_wp2_with fail
  refine (magnitude_any _ (by omega) (by omega) _).mono ?_
  rintro e w' ⟨rfl, rfl⟩
  go_wp2_with fail
  refine (magnitude_any _ (by omega) (by omega) _).mono ?_
  rintro e w' ⟨rfl, rfl⟩
  go_wp2_with fail
  refine (divisor_any _ _ (by omega) (by omega) _).mono ?_
  rintro e w' ⟨rfl, nq, rfl⟩
  go_wp2_with fail
  go_quiet (fail)
  go_wp2_with fail
  refine bodyPost_ret (v := .agg #[.int .i64 (-(amN n d : Int)), .int .i64 (amD n d)]) (by simp [results, Tryz.results57, go_sem]) rfl (reduced_of hm.out ?_ ?_)
  · repeat (with_reducible (first | exact Hb.out | refine one_setCell (v := .int .i64 0) ?_ | refine heap_drewN_old ?_ _ | refine heap_alloc_old ?_ _ | refine heap_set_other ?_ (by show b ≠ w.heap.size; omega) _))
  · repeat (with_reducible (first | exact Kept.refl _ _ | refine Kept.drewN ?_ _ | refine Kept.alloc ?_ _ | refine Kept.setCell ?_ (by first | exact .inl rfl | exact .inr (Nat.le_refl _)) _))

set_option maxHeartbeats 800000 in
theorem reduce_pp (b : Nat) (n d : Int) (hn : -9223372036854775808 ≤ n) (hn2 : n ≤ 9223372036854775807) (hd : -9223372036854775808 ≤ d) (hd2 : d ≤ 9223372036854775807) (hz : d ≠ 0)
    (h1 : amN n d ≤ 1000000000) (h2 : amD n d ≤ 1000000000) (s1 : ¬ n < 0) (s2 : ¬ d < 0) (w : World) (hb : w.heap[b]? = some (.cells #[.int .i64 0] 114 (0, 0))) :
    Calls Tryz.prog 57 #[.pointer (some ⟨b, 0, none⟩), .int .i64 n, .int .i64 d] w (Reduced b n d w) := by
  have hm := Lib.hid (mk_pos hz h1 h2 (by simp [s1, s2]))
  have t1 : decide (n < 0) = false := by simpa using s1
  have t2 : decide (d < 0) = false := by simpa using s2
  have hlt := lt_of_block hb
  have Hb := Lib.hid hb
  clear hb
  have hg : 1 ≤ Nat.gcd n.natAbs d.natAbs := Nat.gcd_pos_of_pos_right _ (by omega)
  have hgi : (1 : Int) ≤ (Nat.gcd n.natAbs d.natAbs : Nat) := by omega
  have hdz : (d == 0) = false := beq_eq_false_iff_ne.2 hz
  have hN : amN n d ≤ n.natAbs := Nat.div_le_self _ _
  have hD : amD n d ≤ d.natAbs := Nat.div_le_self _ _
  have eN : (n.natAbs : Int) / (Nat.gcd n.natAbs d.natAbs : Nat) = (amN n d : Nat) := by unfold amN; omega
  have eD : (d.natAbs : Int) / (Nat.gcd n.natAbs d.natAbs : Nat) = (amD n d : Nat) := by unfold amD; omega
  clear hz
  go_enter Tryz.func57, Tryz.ntmps57
  go_wp2_with fail
  refine (magnitude_any _ (by omega) (by omega) _).mono ?_
  rintro e w' ⟨rfl, rfl⟩
  go_wp2_with fail
  refine (magnitude_any _ (by omega) (by omega) _).mono ?_
  rintro e w' ⟨rfl, rfl⟩
  go_wp2_with fail
  refine (divisor_any _ _ (by omega) (by omega) _).mono ?_
  rintro e w' ⟨rfl, nq, rfl⟩
  go_wp2_with fail
  go_quiet (fail)
  go_wp2_with fail
  refine bodyPost_ret (v := .agg #[.int .i64 (amN n d : Int), .int .i64 (amD n d)]) (by simp [results, Tryz.results57, go_sem]) rfl (reduced_of hm.out ?_ ?_)
  · repeat (with_reducible (first | exact Hb.out | refine one_setCell (v := .int .i64 0) ?_ | refine heap_drewN_old ?_ _ | refine heap_alloc_old ?_ _ | refine heap_set_other ?_ (by show b ≠ w.heap.size; omega) _))
  · repeat (with_reducible (first | exact Kept.refl _ _ | refine Kept.drewN ?_ _ | refine Kept.alloc ?_ _ | refine Kept.setCell ?_ (by first | exact .inl rfl | exact .inr (Nat.le_refl _)) _))

theorem reduce_any (b : Nat) (n d : Int) (hn : -9223372036854775808 ≤ n) (hn2 : n ≤ 9223372036854775807) (hd : -9223372036854775808 ≤ d) (hd2 : d ≤ 9223372036854775807) (w : World) (hb : w.heap[b]? = some (.cells #[.int .i64 0] 114 (0, 0))) :
    Calls Tryz.prog 57 #[.pointer (some ⟨b, 0, none⟩), .int .i64 n, .int .i64 d] w (Reduced b n d w) := by
  by_cases hz : d = 0
  · subst hz; exact reduce_zero b n w hb
  by_cases hbig : 1000000000 < amN n d ∨ 1000000000 < amD n d
  · exact reduce_big b n d hn hn2 hd hd2 hz hbig w hb
  by_cases s1 : n < 0 <;> by_cases s2 : d < 0
  · exact reduce_nn b n d hn hn2 hd hd2 hz (by omega) (by omega) s1 s2 w hb
  · exact reduce_np b n d hn hn2 hd hd2 hz (by omega) (by omega) s1 s2 w hb
  · exact reduce_pn b n d hn hn2 hd hd2 hz (by omega) (by omega) s1 s2 w hb
  · exact reduce_pp b n d hn hn2 hd hd2 hz (by omega) (by omega) s1 s2 w hb
end Go.Proofs.YtakjgjhjndiggaaGreatDoor
