/-
  What the reference's Check and Find hand back (of rules' Fine by what it is to hand back).
-/
import Derived.Test.YtkjjehnfibfngaaRewRefD
namespace Go.Proofs.Ytkjjehnfibfngaa
open Go.RowKit
open WM RM
set_option linter.unusedVariables false
set_option linter.unusedSimpArgs false

/-- Rules that are no greater than the statements look at. -/
def RwSm (r : Rw) : Prop := r.gs.length ≤ 10 ∧ r.out.length ≤ 30 ∧ (∀ f ∈ r.gs, f.cs.length ≤ 10) ∧ ∀ s ∈ r.out, s.a.length ≤ 10 ∧ ∀ f ∈ s.a, f.cs.length ≤ 10
/-- What rules' Fine is to hand back. -/
def FineR : Prop := ∀ (r : Rw) (gv ov : Value) (w : World), RwSm r → Fms w gv r.gs → Shs w ov r.out →
  Calls Try.prog 31 #[rwV r gv ov] w fun e w' => e = .returned (.bool (ruleB r)) ∧ Below w.heap.size w w'
theorem rchk_many {l : List Rw} (h : manyB l = true) : rchk l = 4 := by unfold rchk; rw [if_pos h]
theorem rchk_bad {l : List Rw} (h : manyB l = false) {k : Nat} (hk : k < l.length) (h2 : ruleB l[k] = false ∨ plainB l[k] = false) : rchk l = 8 := by
  have : (l.all fun r => ruleB r && plainB r) = false := by
    rw [List.all_eq_false]
    refine ⟨_, List.getElem_mem hk, ?_⟩
    rcases h2 with h | h <;> simp [h]
  unfold rchk; rw [if_neg (by rw [h]; decide), if_neg (by rw [this]; decide)]
theorem rchk_ok {l : List Rw} (h : manyB l = false) (h2 : ∀ k, (hk : k < l.length) → ruleB l[k] = true ∧ plainB l[k] = true) : rchk l = 0 := by
  have : (l.all fun r => ruleB r && plainB r) = true := by
    rw [List.all_eq_true]
    intro x hx
    obtain ⟨j, hj, rfl⟩ := List.mem_iff_getElem.1 hx
    obtain ⟨h3, h4⟩ := h2 j hj
    simp [h3, h4]
  unfold rchk; rw [if_neg (by rw [h]; decide), if_pos this]
theorem rchk_zero {l : List Rw} (h : rchk l = 0) : manyB l = false ∧ ∀ r ∈ l, ruleB r = true ∧ plainB r = true := by
  unfold rchk at h
  split at h
  · omega
  · rename_i h1
    split at h
    · rename_i h2
      refine ⟨by simpa using h1, fun r hr => ?_⟩
      have := List.all_eq_true.1 h2 r hr
      simpa using this
    · omega
theorem rule_guards {r : Rw} (h : ruleB r = true) : r.gs.all (formB · r.ar) = true := by
  unfold ruleB at h
  simp only [Bool.and_eq_true] at h
  exact h.1.1.2
theorem plain_l {r : Rw} (h : r.l ≠ 0) : plainB r = false := by simp [plainB, h]
theorem plain_r {r : Rw} (h : r.r ≠ 0) : plainB r = false := by simp [plainB, h]
theorem plain_w {r : Rw} (h : r.wt ≠ 0) : plainB r = false := by simp [plainB, h]
theorem plain_ok {r : Rw} (h1 : r.l = 0) (h2 : r.r = 0) (h3 : r.wt = 0) : plainB r = true := by simp [plainB, h1, h2, h3]
theorem u8_nz {c : UInt8} (h : c ≠ 0) : ((c.toNat : Int) != 0) = true := by
  rw [bne_iff_ne]; intro e
  exact h (UInt8.toNat_inj.1 (by show c.toNat = 0; omega))
set_option maxRecDepth 100000 in
set_option maxHeartbeats 3200000 in
theorem refcheck_any (KF : FineR) (v : Value) (l : List Rw) (hmax : l.length ≤ 9223372036854775807) (hs : ∀ r ∈ l, RwSm r) (w : World) (hv : Rws w v l) :
    Calls Try.prog 11 #[v] w fun e w' => e = .returned (.int .i64 (rchk l)) ∧ Below w.heap.size w w' := by
  have KM := Lib.hid (refmany_any v l hmax w hv)
  obtain ⟨p, cap, rfl⟩ := hv.slice
  have HV := Lib.hid hv
  have HS := Lib.hid hs
  have HKF := Lib.hid KF
  clear hv hs KF
  cases hm : manyB l with
  | true =>
    have HF := Lib.hid (rchk_many hm)
    rw [hm] at KM
    clear hm
    go_enter Try.func11, Try.ntmps11
    go_wp2_with fail
    refine KM.out.mono ?_
    rintro e wx ⟨rfl, rfl⟩
    go_wp2_with fail
    go_ret
    exact ⟨ret_int HF.out.symm, Below.refl _ _⟩
  | false =>
    have HM := Lib.hid hm
    rw [hm] at KM
    clear hm
    go_enter Try.func11, Try.ntmps11
    go_wp2_with fail
    refine KM.out.mono ?_
    rintro e wx ⟨rfl, rfl⟩
    go_wp2_with fail
    go_loopw [3] (fun i wr => ∃ k : Nat, k ≤ l.length ∧ i = .int .i64 k ∧ Below w.heap.size w wr ∧ ∀ j, (hj : j < l.length) → j < k → ruleB l[j] = true ∧ plainB l[j] = true) (fun i _ => l.length - (intOf i).toNat)
    case atStart => exact ⟨0, Nat.zero_le _, rfl, Below.refl _ _, fun j _ h => by omega⟩
    case round =>
      obtain ⟨k, hk, rfl, hb, hok⟩ := hrel
      have HK := Lib.hid hok
      have HB := Lib.hid hb
      clear hok hb
      by_cases hlt : k < l.length
      · obtain ⟨b, off, cap', g, gc, o, oc, hp, lb, hat⟩ := (HV.out.later HB.out).at hlt
        obtain rfl : p = some ⟨b, off, none⟩ := by cases hp; rfl
        have k1 : (k : Int) < (l.length : Int) := by omega
        have HCw : Hid (Calls Try.prog 31 #[.agg #[.int .u8 l[k].c.toNat, .int .i64 l[k].ar, .int .u8 l[k].l.toNat, .int .u8 l[k].r.toNat, .slice g l[k].gs.length gc, .int .i64 l[k].wt, .slice o l[k].out.length oc]] wr fun e w' => e = .returned (.bool (ruleB l[k])) ∧ Below wr.heap.size wr w') :=
          Lib.hid (HKF.out l[k] _ _ wr (HS.out _ (List.getElem_mem hlt)) hat.gs hat.out)
        obtain ⟨t, ht⟩ : ∃ t, ruleB l[k] = t := ⟨_, rfl⟩
        have HT := Lib.hid ht
        rw [ht] at HCw
        obtain ⟨e0, e1, e2, e3, e4, e5, e6, _, _⟩ := hat
        clear hp ht
        cases t with
        | false =>
          have HF := Lib.hid (rchk_bad HM.out hlt (.inl HT.out))
          generalize l[k].c.toNat = x0 at e0 HCw
          generalize l[k].ar = x1 at e1 HCw
          generalize l[k].l.toNat = x2 at e2 HCw
          generalize l[k].r.toNat = x3 at e3 HCw
          generalize l[k].gs.length = x4 at e4 HCw
          generalize l[k].wt = x5 at e5 HCw
          generalize l[k].out.length = x6 at e6 HCw
          go_wp2_with fail
          refine HCw.out.mono ?_
          rintro e w1 ⟨rfl, hb⟩
          have B1 := Lib.hid (HB.out.trans (hb.mono HB.out.size))
          clear hb
          go_wp2_with fail
          go_ret
          exact ⟨ret_int HF.out.symm, B1.out⟩
        | true =>
          by_cases hl : l[k].l = 0
          · have t2 : ((l[k].l.toNat : Int) != 0) = false := by rw [hl]; rfl
            by_cases hr : l[k].r = 0
            · have t3 : ((l[k].r.toNat : Int) != 0) = false := by rw [hr]; rfl
              by_cases hw : l[k].wt = 0
              · have t5 : (l[k].wt != 0) = false := by rw [hw]; rfl
                have HG : Hid (∀ j, (hj : j < l.length) → j < k + 1 → ruleB l[j] = true ∧ plainB l[j] = true) := Lib.hid (fun j hj h => by
                  rcases Nat.lt_or_eq_of_le (Nat.le_of_lt_succ h) with h1 | h1
                  · exact HK.out j hj h1
                  · subst h1; exact ⟨HT.out, plain_ok hl hr hw⟩)
                generalize l[k].c.toNat = x0 at e0 HCw
                generalize l[k].ar = x1 at e1 HCw
                generalize l[k].gs.length = x4 at e4 HCw
                generalize l[k].out.length = x6 at e6 HCw
                rw [hl] at e2 HCw
                rw [hr] at e3 HCw
                rw [hw] at e5 HCw
                clear hl hr hw t2 t3 t5
                go_wp2_with fail
                refine HCw.out.mono ?_
                rintro e w1 ⟨rfl, hb⟩
                have B1 := Lib.hid (HB.out.trans (hb.mono HB.out.size))
                have y2 := (hb.cell (p := ⟨b, off + k * 7 + 2, none⟩) lb).trans e2
                have y3 := (hb.cell (p := ⟨b, off + k * 7 + 3, none⟩) lb).trans e3
                have y5 := (hb.cell (p := ⟨b, off + k * 7 + 5, none⟩) lb).trans e5
                clear hb
                go_wp2_with fail
                go_roundw
                case rel => exact ⟨k + 1, by omega, by go_num, B1.out, HG.out⟩
                case measure => simp [intOf]; omega
              · have t5 : (l[k].wt != 0) = true := by rw [bne_iff_ne]; exact hw
                have HF := Lib.hid (rchk_bad HM.out hlt (.inr (plain_w hw)))
                generalize l[k].c.toNat = x0 at e0 HCw
                generalize l[k].ar = x1 at e1 HCw
                generalize l[k].gs.length = x4 at e4 HCw
                generalize l[k].out.length = x6 at e6 HCw
                generalize l[k].wt = x5 at e5 HCw t5 hw
                rw [hl] at e2 HCw
                rw [hr] at e3 HCw
                clear hl hr t2 t3
                go_wp2_with fail
                refine HCw.out.mono ?_
                rintro e w1 ⟨rfl, hb⟩
                have B1 := Lib.hid (HB.out.trans (hb.mono HB.out.size))
                have y2 := (hb.cell (p := ⟨b, off + k * 7 + 2, none⟩) lb).trans e2
                have y3 := (hb.cell (p := ⟨b, off + k * 7 + 3, none⟩) lb).trans e3
                have y5 := (hb.cell (p := ⟨b, off + k * 7 + 5, none⟩) lb).trans e5
                clear hb
                go_wp2_with fail
                go_ret
                exact ⟨ret_int HF.out.symm, B1.out⟩
            · have t3 := u8_nz hr
              have HF := Lib.hid (rchk_bad HM.out hlt (.inr (plain_r hr)))
              generalize l[k].c.toNat = x0 at e0 HCw
              generalize l[k].ar = x1 at e1 HCw
              generalize l[k].gs.length = x4 at e4 HCw
              generalize l[k].wt = x5 at e5 HCw
              generalize l[k].out.length = x6 at e6 HCw
              generalize l[k].r.toNat = x3 at e3 HCw t3
              rw [hl] at e2 HCw
              clear hl t2 hr
              go_wp2_with fail
              refine HCw.out.mono ?_
              rintro e w1 ⟨rfl, hb⟩
              have B1 := Lib.hid (HB.out.trans (hb.mono HB.out.size))
              have y2 := (hb.cell (p := ⟨b, off + k * 7 + 2, none⟩) lb).trans e2
              have y3 := (hb.cell (p := ⟨b, off + k * 7 + 3, none⟩) lb).trans e3
              clear hb
              go_wp2_with fail
              go_ret
              exact ⟨ret_int HF.out.symm, B1.out⟩
          · have t2 := u8_nz hl
            have HF := Lib.hid (rchk_bad HM.out hlt (.inr (plain_l hl)))
            generalize l[k].c.toNat = x0 at e0 HCw
            generalize l[k].ar = x1 at e1 HCw
            generalize l[k].r.toNat = x3 at e3 HCw
            generalize l[k].gs.length = x4 at e4 HCw
            generalize l[k].wt = x5 at e5 HCw
            generalize l[k].out.length = x6 at e6 HCw
            generalize l[k].l.toNat = x2 at e2 HCw t2
            clear hl
            go_wp2_with fail
            refine HCw.out.mono ?_
            rintro e w1 ⟨rfl, hb⟩
            have B1 := Lib.hid (HB.out.trans (hb.mono HB.out.size))
            have y2 := (hb.cell (p := ⟨b, off + k * 7 + 2, none⟩) lb).trans e2
            clear hb
            go_wp2_with fail
            go_ret
            exact ⟨ret_int HF.out.symm, B1.out⟩
      · obtain rfl : k = l.length := by omega
        have HF := Lib.hid (rchk_ok HM.out (fun i hi => HK.out i hi hi))
        go_wp2_with fail
        go_ret
        exact ⟨ret_int HF.out.symm, HB.out⟩
/-! ### Find -/
theorem fin_rules {l : List Rw} {m : Md} (h : rchk l ≠ 0) : finC l m = rchk l ∧ finV l m = 0 := by
  have e : finC l m = rchk l := by unfold finC; rw [if_pos h]
  exact ⟨e, by unfold finV; rw [e, if_neg h]⟩
theorem fin_bad {l : List Rw} {m : Md} (h : rchk l = 0) (h2 : fineB m = false) : finC l m = 8 ∧ finV l m = 0 := by
  have e : finC l m = 8 := by unfold finC; rw [if_neg (by simp [h]), if_neg (by rw [h2]; decide)]
  exact ⟨e, by unfold finV; rw [e, if_neg (by decide)]⟩
theorem fin_ok {l : List Rw} {m : Md} (h : rchk l = 0) (h2 : fineB m = true) : finC l m = 0 ∧ finV l m = first l m := by
  have e : finC l m = 0 := by unfold finC; rw [if_neg (by simp [h]), if_pos h2]
  exact ⟨e, by unfold finV; rw [if_pos e]⟩
set_option maxRecDepth 100000 in
set_option maxHeartbeats 1600000 in
theorem reffind_any (KF : FineR) (v : Value) (l : List Rw) (m : Md) (mv : Value) (hmax : l.length ≤ 9223372036854775807) (hs : ∀ r ∈ l, RwSm r) (hml : m.a.length ≤ 9223372036854775807) (w : World) (hv : Rws w v l) (hmv : Ints w mv m.a) :
    Calls Try.prog 9 #[v, .agg #[.int .u8 m.c.toNat, mv]] w fun e w' => e = .returned (.tuple #[.int .i64 (finV l m), .int .i64 (finC l m)]) ∧ Below w.heap.size w w' := by
  obtain ⟨p, cap, rfl⟩ := hv.slice
  obtain ⟨p2, cap2, rfl⟩ := hmv.slice
  obtain ⟨W0, hW0⟩ : ∃ W, W = w.alloc (.cells #[.int .u8 m.c.toNat, .slice p2 m.a.length cap2] 27) := ⟨_, rfl⟩
  have N0 : W0.heap[w.heap.size]? = some (.cells #[.int .u8 m.c.toNat, .slice p2 m.a.length cap2] 27 (0, 0)) := by rw [hW0]; exact heap_alloc_new _ _
  have B0 : Below w.heap.size w W0 := by rw [hW0]; exact (Below.refl _ _).alloc (Nat.le_refl _) _
  have HB := Lib.hid B0
  have HV := Lib.hid (hv.later B0)
  have HM := Lib.hid (hmv.later B0)
  have q0 := cell_two0 N0
  have q1 := cell_two1 N0
  have l1 := lt_of_block N0
  have KC := Lib.hid (fun w h => refcheck_any KF (.slice p l.length cap) l hmax hs w h)
  have KI := Lib.hid (fun w h => fine_any m (.slice p2 m.a.length cap2) hml w h)
  clear N0 B0 hv hmv
  by_cases h0 : rchk l = 0
  · obtain ⟨r1, r2⟩ := rchk_zero h0
    rw [h0] at KC
    cases hf : fineB m with
    | false =>
      have HF := Lib.hid (fin_bad h0 hf)
      rw [hf] at KI
      clear h0 hf r1 r2 hs
      go_enter Try.func9, Try.ntmps9
      go_wp2_with fail
      rw [← hW0]
      clear hW0
      go_wp2_with fail
      refine (KC.out _ HV.out).mono ?_
      rintro e w1 ⟨rfl, hb⟩
      have D1 := Lib.hid hb
      have y0 := (hb.cell (p := ⟨w.heap.size, 0, none⟩) l1).trans q0
      have y1 := (hb.cell (p := ⟨w.heap.size, 1, none⟩) l1).trans q1
      clear hb
      go_wp2_with fail
      refine (KI.out _ (HM.out.later D1.out)).mono ?_
      rintro e w2 ⟨rfl, hb⟩
      have B2 := Lib.hid (HB.out.trans ((D1.out.trans (hb.mono D1.out.size)).mono HB.out.size))
      clear hb
      go_wp2_with fail
      go_ret2
      exact ⟨rret_two HF.out.2.symm HF.out.1.symm, B2.out⟩
    | true =>
      have HF := Lib.hid (fin_ok h0 hf)
      have KT := Lib.hid (fun w h h' => reffirst_any (.slice p l.length cap) l m (.slice p2 m.a.length cap2) hmax (fun r hr => ⟨rule_guards (r2 r hr).1, by have := (hs r hr).1; omega⟩) hf w h h')
      rw [hf] at KI
      obtain ⟨z, hz⟩ : ∃ z, first l m = z := ⟨_, rfl⟩
      rw [hz] at KT HF
      clear h0 hf r1 r2 hs hz
      go_enter Try.func9, Try.ntmps9
      go_wp2_with fail
      rw [← hW0]
      clear hW0
      go_wp2_with fail
      refine (KC.out _ HV.out).mono ?_
      rintro e w1 ⟨rfl, hb⟩
      have D1 := Lib.hid hb
      have y0 := (hb.cell (p := ⟨w.heap.size, 0, none⟩) l1).trans q0
      have y1 := (hb.cell (p := ⟨w.heap.size, 1, none⟩) l1).trans q1
      clear hb
      go_wp2_with fail
      refine (KI.out _ (HM.out.later D1.out)).mono ?_
      rintro e w2 ⟨rfl, hb⟩
      have D2 := Lib.hid (D1.out.trans (hb.mono D1.out.size))
      have z0 := (D2.out.cell (p := ⟨w.heap.size, 0, none⟩) l1).trans q0
      have z1 := (D2.out.cell (p := ⟨w.heap.size, 1, none⟩) l1).trans q1
      clear hb
      go_wp2_with fail
      refine (KT.out _ (HV.out.later D2.out) (HM.out.later D2.out)).mono ?_
      rintro e w3 ⟨rfl, hb⟩
      have B3 := Lib.hid (HB.out.trans ((D2.out.trans (hb.mono D2.out.size)).mono HB.out.size))
      clear hb
      go_wp2_with fail
      go_ret2
      exact ⟨rret_two HF.out.2.symm HF.out.1.symm, B3.out⟩
  · have HF := Lib.hid (fin_rules (m := m) h0)
    obtain ⟨c, hc⟩ : ∃ c, rchk l = c := ⟨_, rfl⟩
    rw [hc] at KC HF h0
    have h1 : (c != 0) = true := by rw [bne_iff_ne]; exact h0
    clear h0 hc hs
    go_enter Try.func9, Try.ntmps9
    go_wp2_with fail
    rw [← hW0]
    clear hW0
    go_wp2_with fail
    refine (KC.out _ HV.out).mono ?_
    rintro e w1 ⟨rfl, hb⟩
    have D1 := Lib.hid hb
    clear hb
    go_wp2_with fail
    refine (KC.out _ (HV.out.later D1.out)).mono ?_
    rintro e w2 ⟨rfl, hb⟩
    have B2 := Lib.hid (HB.out.trans ((D1.out.trans (hb.mono D1.out.size)).mono HB.out.size))
    clear hb
    go_wp2_with fail
    go_ret2
    exact ⟨rret_two HF.out.2.symm HF.out.1.symm, B2.out⟩
end Go.Proofs.Ytkjjehnfibfngaa
