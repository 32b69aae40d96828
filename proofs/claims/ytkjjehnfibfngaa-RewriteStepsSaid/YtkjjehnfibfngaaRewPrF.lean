/-
  What the package's first hands back.
-/
import Derived.Test.YtkjjehnfibfngaaRewPrD
namespace Go.Proofs.Ytkjjehnfibfngaa
open Go.RowKit
open WM RM
set_option linter.unusedVariables false
set_option linter.unusedSimpArgs false

set_option maxRecDepth 100000 in
set_option maxHeartbeats 3200000 in
theorem prfirst_any (v : Value) (l : List Rw) (m : Md) (mv : Value) (hmax : l.length ≤ 9223372036854775807) (hg : ∀ r ∈ l, r.gs.all (formB · r.ar) = true ∧ r.gs.length ≤ 9223372036854775807) (hm : fineB m = true) (w : World) (hv : Rws w v l) (hmv : Ints w mv m.a) :
    Calls Try.prog 27 #[v, .agg #[.int .u8 m.c.toNat, mv]] w fun e w' => e = .returned (.int .i64 (first l m)) ∧ Below w.heap.size w w' := by
  obtain ⟨p, cap, rfl⟩ := hv.slice
  obtain ⟨p2, cap2, rfl⟩ := hmv.slice
  obtain ⟨m4, mr⟩ := fine_args4 hm
  have HMR := Lib.hid mr
  obtain ⟨W0, hW0⟩ : ∃ W, W = w.alloc (.cells #[.int .u8 m.c.toNat, .slice p2 m.a.length cap2] 27) := ⟨_, rfl⟩
  have N0 : W0.heap[w.heap.size]? = some (.cells #[.int .u8 m.c.toNat, .slice p2 m.a.length cap2] 27 (0, 0)) := by rw [hW0]; exact heap_alloc_new _ _
  have B0 : Below w.heap.size w W0 := by rw [hW0]; exact (Below.refl _ _).alloc (Nat.le_refl _) _
  have HB := Lib.hid B0
  have HV := Lib.hid (hv.later B0)
  have HM := Lib.hid (hmv.later B0)
  have q0 := cell_two0 N0
  have q1 := cell_two1 N0
  have l1 := lt_of_block N0
  have HG := Lib.hid hg
  clear N0 B0 hv hmv hg hm mr
  go_enter Try.func27, Try.ntmps27
  go_wp2_with fail
  rw [← hW0]
  clear hW0
  go_step3
  go_wp2_with fail
  go_step3
  go_wp2_with fail
  go_loopw [11] (fun i wr => ∃ k : Nat, k ≤ l.length ∧ i = .int .i64 k ∧ Below W0.heap.size W0 wr ∧ FAt l m k) (fun i _ => l.length - (intOf i).toNat)
  case atStart => exact ⟨0, Nat.zero_le _, rfl, Below.refl _ _, fAt_start l m⟩
  case round =>
    rename World => wo
    obtain ⟨k, hk, rfl, hb, hok⟩ := hrel
    have HK := Lib.hid hok
    have HBr := Lib.hid hb
    have hbz := hb.size
    have y0 := (hb.cell (p := ⟨w.heap.size, 0, none⟩) l1).trans q0
    have y1 := (hb.cell (p := ⟨w.heap.size, 1, none⟩) l1).trans q1
    have lo : w.heap.size < wo.heap.size := Nat.lt_of_lt_of_le l1 hbz
    clear hok hb
    by_cases hlt : k < l.length
    · obtain ⟨b, off, cap', g, gc, o, oc, hp, lb, hat⟩ := (HV.out.later HBr.out).at hlt
      obtain rfl : p = some ⟨b, off, none⟩ := by cases hp; rfl
      have k1 : (k : Int) < (l.length : Int) := by omega
      obtain ⟨g1, g2⟩ := HG.out _ (List.getElem_mem hlt)
      have HG1 := Lib.hid g1
      have HX := Lib.hid (HM.out.later HBr.out)
      have HGs := Lib.hid hat.gs
      obtain ⟨e0, e1, e2, e3, e4, e5, e6, _, _⟩ := hat
      obtain ⟨r, hr⟩ : ∃ r, l[k] = r := ⟨_, rfl⟩
      have HR := Lib.hid hr
      rw [hr] at e0 e1 e2 e3 e4 e5 e6 HGs HG1 g2
      obtain ⟨W1, hW1⟩ : ∃ W, W = wo.alloc (.cells #[.int .u8 r.c.toNat, .int .i64 r.ar, .int .u8 r.l.toNat, .int .u8 r.r.toNat, .slice g r.gs.length gc, .int .i64 r.wt, .slice o r.out.length oc] 54) := ⟨_, rfl⟩
      have N1 : W1.heap[wo.heap.size]? = some (.cells #[.int .u8 r.c.toNat, .int .i64 r.ar, .int .u8 r.l.toNat, .int .u8 r.r.toNat, .slice g r.gs.length gc, .int .i64 r.wt, .slice o r.out.length oc] 54 (0, 0)) := by rw [hW1]; exact heap_alloc_new _ _
      have b1 : Below wo.heap.size wo W1 := by rw [hW1]; exact (Below.refl _ _).alloc (Nat.le_refl _) _
      have E1 := Lib.hid b1
      have B1 := Lib.hid (HBr.out.trans (b1.mono hbz))
      have r0 : W1.cell? ⟨wo.heap.size, 0, none⟩ = some (.int .u8 r.c.toNat) := by simp [World.cell?, N1]
      have r1 : W1.cell? ⟨wo.heap.size, 1, none⟩ = some (.int .i64 r.ar) := by simp [World.cell?, N1]
      have r4 : W1.cell? ⟨wo.heap.size, 4, none⟩ = some (.slice g r.gs.length gc) := by simp [World.cell?, N1]
      have s0 := (B1.out.cell (p := ⟨w.heap.size, 0, none⟩) l1).trans q0
      have s1 := (B1.out.cell (p := ⟨w.heap.size, 1, none⟩) l1).trans q1
      have HGs1 := Lib.hid (HGs.out.later E1.out)
      have HNo : Hid (fitB r m = false → FAt l m (k + 1)) := Lib.hid (fun h => fAt_no hlt HK.out (by rw [HR.out]; exact h))
      have HYes : Hid (fitB r m = true → first l m = (k : Int)) := Lib.hid (fun h => fAt_yes hlt HK.out (by rw [HR.out]; exact h))
      clear hp hr N1 b1 g1
      generalize r.l.toNat = x2 at e2 hW1
      generalize r.r.toNat = x3 at e3 hW1
      generalize r.wt = x5 at e5 hW1
      generalize r.out.length = x6 at e6 hW1
      by_cases hc : r.c = m.c
      · have HC := Lib.hid hc
        have t1 : ((r.c.toNat : Int) != (m.c.toNat : Int)) = false := by rw [hc]; simp
        by_cases ha : r.ar = (m.a.length : Int)
        · have HA := Lib.hid ha
          have HA0 := Lib.hid ha
          have t2 : (r.ar != (m.a.length : Int)) = false := by rw [ha]; simp
          clear hc ha
          generalize r.c.toNat = ca at e0 r0 t1 hW1
          generalize m.c.toNat = cb at y0 s0 q0 t1
          generalize r.ar = ra at e1 r1 t2 hW1 HG1 HA
          obtain ⟨x4, hx4⟩ : ∃ x4, r.gs.length = x4 := ⟨_, rfl⟩
          have HX4 := Lib.hid hx4
          rw [hx4] at e4 r4 hW1
          go_wp2_with fail
          rw [← hW1]
          clear hW1
          go_wp2_with fail
          have l1w : w.heap.size < W1.heap.size := Nat.lt_of_lt_of_le l1 B1.out.size
          go_loopw [32] (fun i wr => ∃ j : Nat, j ≤ x4 ∧ i = .int .i64 j ∧ Below W1.heap.size W1 wr ∧ ∀ j', (hj : j' < r.gs.length) → j' < j → 0 ≤ worth r.gs[j'] m.a) (fun i _ => x4 - (intOf i).toNat)
          case atStart => exact ⟨0, Nat.zero_le _, rfl, Below.refl _ _, fun j _ h => by omega⟩
          case round =>
            rename World => wi
            obtain ⟨j, hj, rfl, hb, hok⟩ := hrel
            have HJ := Lib.hid hok
            have HBi := Lib.hid hb
            have hbi := hb.size
            have u1 := (hb.cell (p := ⟨w.heap.size, 1, none⟩) l1w).trans s1
            have li : w.heap.size < wi.heap.size := Nat.lt_of_lt_of_le l1w hbi
            have HBw : Hid (Below W0.heap.size W0 wi) := Lib.hid (B1.out.trans (hb.mono B1.out.size))
            clear hok hb
            by_cases hjl : j < r.gs.length
            · obtain ⟨bg, og, cg, q, d, hp, f0, f1, hin, lg⟩ := (HGs1.out.later HBi.out).at hjl
              obtain rfl : g = some ⟨bg, og, none⟩ := by cases hp; rfl
              have j1 : (j : Int) < (x4 : Int) := by omega
              have hf := List.all_eq_true.1 HG1.out _ (List.getElem_mem hjl)
              rw [HA.out] at hf
              obtain ⟨W2, hW2⟩ : ∃ W, W = wi.alloc (.cells #[.int .i64 r.gs[j].k, .slice q r.gs[j].cs.length d] 25) := ⟨_, rfl⟩
              have b2 : Below wi.heap.size wi W2 := by rw [hW2]; exact (Below.refl _ _).alloc (Nat.le_refl _) _
              have E2 := Lib.hid b2
              have KT := Lib.hid (total_any r.gs[j] m.a _ _ hf m4 HMR.out W2 (hin.later b2) (HM.out.later (HBw.out.trans (b2.mono HBw.out.size))))
              obtain ⟨z, hz⟩ : ∃ z, worth r.gs[j] m.a = z := ⟨_, rfl⟩
              have HZ := Lib.hid hz
              rw [hz] at KT
              generalize r.gs[j].k = fk at f0 hW2 KT
              generalize r.gs[j].cs.length = fl at f1 hW2 KT
              clear hp hin hf hz b2
              by_cases h0 : z < 0
              · have HN := Lib.hid (HNo.out (fit_neg hjl (by rw [HZ.out]; exact h0)))
                go_wp2_with fail
                rw [← hW2]
                clear hW2
                refine KT.out.mono ?_
                rintro e w5 ⟨rfl, hb⟩
                have HB5 := Lib.hid (HBw.out.trans ((E2.out.trans (hb.mono E2.out.size)).mono HBw.out.size))
                clear hb
                go_wp2_with fail
                go_roundw
                case rel => exact ⟨k + 1, by omega, by go_num, HB5.out, HN.out⟩
                case measure => simp [intOf]; omega
              · have HJ2 : Hid (∀ j', (hj : j' < r.gs.length) → j' < j + 1 → 0 ≤ worth r.gs[j'] m.a) := Lib.hid (fun j' hj h => by
                  rcases Nat.lt_or_eq_of_le (Nat.le_of_lt_succ h) with h1 | h1
                  · exact HJ.out j' hj h1
                  · subst h1; rw [HZ.out]; omega)
                go_wp2_with fail
                rw [← hW2]
                clear hW2
                refine KT.out.mono ?_
                rintro e w5 ⟨rfl, hb⟩
                have HB5 := Lib.hid (HBi.out.trans ((E2.out.trans (hb.mono E2.out.size)).mono HBi.out.size))
                clear hb
                go_wp2_with fail
                go_roundw
                case rel => exact ⟨j + 1, by omega, by go_num, HB5.out, HJ2.out⟩
                case measure => simp [intOf]; omega
            · have hje : j = x4 := by omega
              have j1 : ¬ (j : Int) < (x4 : Int) := by omega
              have HF := Lib.hid (HYes.out (fit_ok HC.out HA0.out (fun i hi => HJ.out i hi (by omega))))
              clear hje
              go_wp2_with fail
              try rw [Exit.noGoto_ret]
              go_ret
              exact ⟨ret_int HF.out.symm, HB.out.trans (HBw.out.mono HB.out.size)⟩
        · have t2 : (r.ar != (m.a.length : Int)) = true := by rw [bne_iff_ne]; exact ha
          have HN := Lib.hid (HNo.out (fit_len ha))
          clear hc ha
          generalize r.c.toNat = ca at e0 r0 t1 hW1
          generalize m.c.toNat = cb at y0 s0 q0 t1
          generalize r.ar = ra at e1 r1 t2 hW1
          generalize r.gs.length = x4 at e4 r4 hW1
          go_wp2_with fail
          rw [← hW1]
          clear hW1
          go_roundw
          case rel => exact ⟨k + 1, by omega, by go_num, B1.out, HN.out⟩
          case measure => simp [intOf]; omega
      · have t1 : ((r.c.toNat : Int) != (m.c.toNat : Int)) = true := by
          rw [bne_iff_ne]; intro h
          exact hc (UInt8.toNat_inj.1 (by omega))
        have HN := Lib.hid (HNo.out (fit_name hc))
        clear hc
        generalize r.c.toNat = ca at e0 r0 t1 hW1
        generalize m.c.toNat = cb at y0 s0 q0 t1
        generalize r.gs.length = x4 at e4 r4 hW1
        generalize r.ar = ra at e1 r1 hW1
        go_wp2_with fail
        rw [← hW1]
        clear hW1
        go_roundw
        case rel => exact ⟨k + 1, by omega, by go_num, B1.out, HN.out⟩
        case measure => simp [intOf]; omega
    · obtain rfl : k = l.length := by omega
      have HF := Lib.hid (fAt_end HK.out)
      go_wp2_with fail
      try rw [Exit.noGoto_ret]
      go_ret
      exact ⟨ret_int HF.out.symm, HB.out.trans (HBr.out.mono HB.out.size)⟩
end Go.Proofs.Ytkjjehnfibfngaa
