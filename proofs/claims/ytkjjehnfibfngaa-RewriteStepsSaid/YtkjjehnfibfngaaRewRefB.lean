/-
  What the reference's Value and Fits hand back.
-/
import Derived.Test.YtkjjehnfibfngaaRewRefA
import Derived.Test.YtkjjehnfibfngaaWordRefC
namespace Go.Proofs.Ytkjjehnfibfngaa
open Go.RowKit
open WM RM
set_option linter.unusedVariables false
set_option linter.unusedSimpArgs false

theorem fit_name {r : Rw} {m : Md} (h : r.c ≠ m.c) : fitB r m = false := by simp [fitB, h]
theorem fit_len {r : Rw} {m : Md} (h : r.ar ≠ (m.a.length : Int)) : fitB r m = false := by simp [fitB, h]
theorem fit_neg {r : Rw} {m : Md} {i : Nat} (hi : i < r.gs.length) (h : worth r.gs[i] m.a < 0) : fitB r m = false := by
  have : (r.gs.all fun g => decide (0 ≤ worth g m.a)) = false := by
    rw [List.all_eq_false]
    exact ⟨_, List.getElem_mem hi, by simp; omega⟩
  simp [fitB, this]
theorem fit_ok {r : Rw} {m : Md} (h1 : r.c = m.c) (h2 : r.ar = (m.a.length : Int)) (h : ∀ i, (hi : i < r.gs.length) → 0 ≤ worth r.gs[i] m.a) : fitB r m = true := by
  have : (r.gs.all fun g => decide (0 ≤ worth g m.a)) = true := by
    rw [List.all_eq_true]
    intro x hx
    obtain ⟨j, hj, rfl⟩ := List.mem_iff_getElem.1 hx
    simpa using h j hj
  simp [fitB, h1, h2, this]
theorem fine_args4 {m : Md} (h : fineB m = true) : m.a.length ≤ 4 ∧ ∀ x ∈ m.a, -1000000000 ≤ x ∧ x ≤ 1000000000 := by
  unfold fineB at h
  simp only [Bool.and_eq_true, decide_eq_true_eq] at h
  exact ⟨h.1.1.2, rngB_iff.1 h.2⟩
/-- A rule as a value. -/
def rwV (r : Rw) (gv ov : Value) : Value := .agg #[.int .u8 r.c.toNat, .int .i64 r.ar, .int .u8 r.l.toNat, .int .u8 r.r.toNat, gv, .int .i64 r.wt, ov]
set_option maxRecDepth 100000 in
set_option maxHeartbeats 3200000 in
theorem reffits_any (r : Rw) (m : Md) (gv ov mv : Value) (hg : r.gs.all (formB · r.ar) = true) (hm : fineB m = true) (hlen : r.gs.length ≤ 9223372036854775807) (w : World) (h1 : Fms w gv r.gs) (h2 : Ints w mv m.a) :
    Calls Try.prog 40 #[rwV r gv ov, .agg #[.int .u8 m.c.toNat, mv]] w fun e w' => e = .returned (.bool (fitB r m)) ∧ Below w.heap.size w w' := by
  obtain ⟨p, cap, rfl⟩ := h1.slice
  obtain ⟨p2, cap2, rfl⟩ := h2.slice
  obtain ⟨m4, mr⟩ := fine_args4 hm
  unfold rwV
  obtain ⟨W0, hW0⟩ : ∃ W, W = (w.alloc (.cells #[.int .u8 r.c.toNat, .int .i64 r.ar, .int .u8 r.l.toNat, .int .u8 r.r.toNat, .slice p r.gs.length cap, .int .i64 r.wt, ov] 54)).alloc (.cells #[.int .u8 m.c.toNat, .slice p2 m.a.length cap2] 27) := ⟨_, rfl⟩
  have N1 : W0.heap[w.heap.size]? = some (.cells #[.int .u8 r.c.toNat, .int .i64 r.ar, .int .u8 r.l.toNat, .int .u8 r.r.toNat, .slice p r.gs.length cap, .int .i64 r.wt, ov] 54 (0, 0)) := by rw [hW0]; exact heap_alloc_old (heap_alloc_new _ _) _
  have N2 : W0.heap[w.heap.size + 1]? = some (.cells #[.int .u8 m.c.toNat, .slice p2 m.a.length cap2] 27 (0, 0)) := by
    have := heap_alloc_new (w.alloc (.cells #[.int .u8 r.c.toNat, .int .i64 r.ar, .int .u8 r.l.toNat, .int .u8 r.r.toNat, .slice p r.gs.length cap, .int .i64 r.wt, ov] 54)) (.cells #[.int .u8 m.c.toNat, .slice p2 m.a.length cap2] 27)
    rw [hW0]; simpa using this
  have B0 : Below w.heap.size w W0 := by rw [hW0]; exact ((Below.refl _ _).alloc (Nat.le_refl _) _).alloc (by simp) _
  have HB := Lib.hid B0
  have H1 := Lib.hid (h1.later B0)
  have H2 := Lib.hid (h2.later B0)
  have q0 : W0.cell? ⟨w.heap.size, 0, none⟩ = some (.int .u8 r.c.toNat) := by simp [World.cell?, N1]
  have q1 : W0.cell? ⟨w.heap.size, 1, none⟩ = some (.int .i64 r.ar) := by simp [World.cell?, N1]
  have q4 : W0.cell? ⟨w.heap.size, 4, none⟩ = some (.slice p r.gs.length cap) := by simp [World.cell?, N1]
  have s0 := cell_two0 N2
  have s1 := cell_two1 N2
  have l1 := lt_of_block N1
  have l2 := lt_of_block N2
  have HG := Lib.hid hg
  have HMR := Lib.hid mr
  clear N1 N2 B0 h1 h2 hg hm mr
  by_cases hc : r.c = m.c
  · have HC := Lib.hid hc
    have t1 : ((r.c.toNat : Int) != (m.c.toNat : Int)) = false := by rw [hc]; simp
    by_cases ha : r.ar = (m.a.length : Int)
    · have HA := Lib.hid ha
      have t2 : (r.ar != (m.a.length : Int)) = false := by rw [ha]; simp
      rw [ha] at q1
      rw [ha] at hW0
      rw [ha]
      clear hc ha t2
      generalize r.c.toNat = ca at q0 t1 hW0 ⊢
      generalize m.c.toNat = cb at s0 t1 hW0 ⊢
      go_enter Try.func40, Try.ntmps40
      go_wp2_with fail
      rw [← hW0]
      clear hW0
      go_wp2_with fail
      go_loopw [5] (fun i wr => ∃ k : Nat, k ≤ r.gs.length ∧ i = .int .i64 k ∧ Below W0.heap.size W0 wr ∧ ∀ j, (hj : j < r.gs.length) → j < k → 0 ≤ worth r.gs[j] m.a) (fun i _ => r.gs.length - (intOf i).toNat)
      case atStart => exact ⟨0, Nat.zero_le _, rfl, Below.refl _ _, fun j _ h => by omega⟩
      case round =>
        obtain ⟨k, hk, rfl, hb, hok⟩ := hrel
        have HK := Lib.hid hok
        have HBr := Lib.hid hb
        have y1 := (hb.cell (p := ⟨w.heap.size, 4, none⟩) l1).trans q4
        have y2 := (hb.cell (p := ⟨w.heap.size + 1, 1, none⟩) l2).trans s1
        clear hok hb
        by_cases hlt : k < r.gs.length
        · obtain ⟨b, off, cap', q, d, hp, e1, e2, hin, lb⟩ := (H1.out.later HBr.out).at hlt
          obtain rfl : p = some ⟨b, off, none⟩ := by cases hp; rfl
          have k1 : (k : Int) < (r.gs.length : Int) := by omega
          have hf := List.all_eq_true.1 HG.out _ (List.getElem_mem hlt)
          rw [HA.out] at hf
          have HX := Lib.hid (H2.out.later HBr.out)
          have HCw : Hid (∀ (d' : Nat) (os : Array Obj), Calls Try.prog 25 #[.agg #[.int .i64 r.gs[k].k, .slice q r.gs[k].cs.length d], .slice p2 m.a.length cap2] («Sort».grow (redrawn wr d') os) fun e w' =>
              e = .returned (.int .i64 (worth r.gs[k] m.a)) ∧ Below («Sort».grow (redrawn wr d') os).heap.size («Sort».grow (redrawn wr d') os) w') :=
            Lib.hid (fun d' os => refworth_any r.gs[k] m.a _ _ hf m4 HMR.out _ (hin.later (below_regrown wr d' os)) (HX.out.later (below_regrown wr d' os)))
          obtain ⟨z, hz⟩ : ∃ z, worth r.gs[k] m.a = z := ⟨_, rfl⟩
          have HZ := Lib.hid hz
          rw [hz] at HCw
          obtain ⟨fk, hfk⟩ : ∃ fk, r.gs[k].k = fk := ⟨_, rfl⟩
          obtain ⟨fl, hfl⟩ : ∃ fl, r.gs[k].cs.length = fl := ⟨_, rfl⟩
          rw [hfk] at e1 HCw
          rw [hfl] at e2 HCw
          clear hp hin hf hz hfk hfl
          have r1 := fun d os => cell_regrown e1 d os
          have r2 := fun d os => cell_regrown e2 d os
          have r3 := fun d os => cell_regrown y1 d os
          have r4 := fun d os => cell_regrown y2 d os
          go_wp2_with fail
          refine wp_region_quiet_below (by kernel_rfl) (by kernel_rfl) ?_
          repeat (any_goals (first | go_big_quiet_step ((go_at_call 25; exact Calls.regrown_of (HCw.out _ _))) | quiet_step ((go_at_call 25; exact Calls.regrown_of (HCw.out _ _)))))
          refine wpQuiet_nil ?_
          intro _ hw'
          obtain ⟨⟨dq, osq⟩, hw''⟩ := hw'
          subst hw''
          have HB2 : Hid (Below W0.heap.size W0 («Sort».grow (redrawn wr dq) osq)) := Lib.hid (HBr.out.trans ((below_regrown wr dq osq).mono HBr.out.size))
          by_cases h0 : z < 0
          · have HF := Lib.hid (fit_neg hlt (by rw [HZ.out]; exact h0))
            go_wp2_with fail
            go_ret
            exact ⟨ret_bool HF.out.symm, HB.out.trans (HB2.out.mono HB.out.size)⟩
          · have HG2 : Hid (∀ j, (hj : j < r.gs.length) → j < k + 1 → 0 ≤ worth r.gs[j] m.a) := Lib.hid (fun j hj h => by
              rcases Nat.lt_or_eq_of_le (Nat.le_of_lt_succ h) with h1 | h1
              · exact HK.out j hj h1
              · subst h1; rw [HZ.out]; omega)
            go_wp2_with fail
            go_roundw
            case rel => exact ⟨k + 1, by omega, by go_num, HB2.out, HG2.out⟩
            case measure => simp [intOf]; omega
        · obtain rfl : k = r.gs.length := by omega
          have HF := Lib.hid (fit_ok HC.out HA.out (fun i hi => HK.out i hi hi))
          go_wp2_with fail
          go_ret
          exact ⟨ret_bool HF.out.symm, HB.out.trans (HBr.out.mono HB.out.size)⟩
    · have HF := Lib.hid (fit_len (m := m) ha)
      have t2 : (r.ar != (m.a.length : Int)) = true := by rw [bne_iff_ne]; exact ha
      clear hc
      generalize r.c.toNat = ca at q0 t1 hW0 ⊢
      generalize m.c.toNat = cb at s0 t1 hW0 ⊢
      go_enter Try.func40, Try.ntmps40
      go_wp2_with fail
      rw [← hW0]
      clear hW0
      go_wp2_with fail
      go_ret
      exact ⟨ret_bool HF.out.symm, HB.out⟩
  · have HF := Lib.hid (fit_name hc)
    have t1 : ((r.c.toNat : Int) != (m.c.toNat : Int)) = true := by
      rw [bne_iff_ne]; intro e; exact hc (UInt8.toNat_inj.1 (by omega))
    generalize r.c.toNat = ca at q0 t1 hW0 ⊢
    generalize m.c.toNat = cb at s0 t1 hW0 ⊢
    go_enter Try.func40, Try.ntmps40
    go_wp2_with fail
    rw [← hW0]
    clear hW0
    go_wp2_with fail
    go_ret
    exact ⟨ret_bool HF.out.symm, HB.out⟩
end Go.Proofs.Ytkjjehnfibfngaa
