/-
  Texts of the proof, merged: BConRefD, BRewPrV.
-/
import Derived.Test.YtlmofdmbcddddaaGreatDoorBContextBranchProofM9
import Derived.Test.YtlmofdmbcddddaaGreatDoorBContextBranchProofM10
import Derived.Test.YtlmofdmbcddddaaGreatDoorBContextBranchProofM8
import Derived.Test.YtlmofdmbcddddaaGreatDoorBContextBranchProofM6
namespace Go.Proofs.YtlmofdmbcddddaaGreatDoor
open Go.RowKit
open WM RM CM
set_option linter.unusedVariables false
set_option linter.unusedSimpArgs false

theorem cchk_many {g : Bs} {l : List Rw} (h : manyB l = true) : cchk g l = 4 := by unfold cchk; rw [if_pos h]
theorem cchk_bad {g : Bs} {l : List Rw} (h : manyB l = false) {k : Nat} (hk : k < l.length) (h2 : cruB l[k] = false) : cchk g l = 8 := by
  have : (l.all cruB && ignB g) = false := by
    have : l.all cruB = false := by rw [List.all_eq_false]; exact ⟨_, List.getElem_mem hk, by rw [h2]; simp⟩
    rw [this]; rfl
  unfold cchk; rw [if_neg (by rw [h]; decide), if_neg (by rw [this]; decide)]
theorem cchk_end {g : Bs} {l : List Rw} (h : manyB l = false) (h2 : ∀ k, (hk : k < l.length) → cruB l[k] = true) : cchk g l = if ignB g = true then 0 else 8 := by
  have : l.all cruB = true := by
    rw [List.all_eq_true]
    intro x hx
    obtain ⟨j, hj, rfl⟩ := List.mem_iff_getElem.1 hx
    exact h2 j hj
  unfold cchk; rw [if_neg (by rw [h]; decide), this, Bool.true_and]
theorem cru_fine {r : Rw} (h : ruleB r = false) : cruB r = false := by simp [cruB, h]
theorem cru_l {r : Rw} (h : r.l ≠ 0) (h2 : plnB r.l = false) : cruB r = false := by simp [cruB, askB, h, h2]
theorem cru_r {r : Rw} (h : r.r ≠ 0) (h2 : plnB r.r = false) : cruB r = false := by simp [cruB, askB, h, h2]
theorem cru_w {r : Rw} (h : r.wt ≠ 0) : cruB r = false := by simp [cruB, wt0B, h]
theorem cru_ok {r : Rw} (h0 : ruleB r = true) (h1 : r.l = 0 ∨ plnB r.l = true) (h2 : r.r = 0 ∨ plnB r.r = true) (h3 : r.wt = 0) : cruB r = true := by
  rcases h1 with h1 | h1 <;> rcases h2 with h2 | h2 <;> simp [cruB, askB, wt0B, h0, h1, h2, h3]
set_option maxRecDepth 100000 in
set_option maxHeartbeats 3200000 in
theorem refccheck_any (v : Value) (l : List Rw) (hmax : l.length ≤ 9223372036854775807) (hs : ∀ r ∈ l, RwSm r) (s : ByteArray) (hss : s.size ≤ 9223372036854775807) (w : World) (hv : Rws w v l) :
    Calls Tryz.prog 10 #[v, .string s] w fun e w' => e = .returned (.int .i64 (cchk (lA s) l)) ∧ Below w.heap.size w w' := by
  have KM := Lib.hid (refmany_any v l hmax w hv)
  have KI := Lib.hid (fun w => refignored_any s hss w)
  obtain ⟨p, cap, rfl⟩ := hv.slice
  have HV := Lib.hid hv
  have HS := Lib.hid hs
  have HKF := Lib.hid fineR_any
  clear hv hs
  generalize lA s = gg at KI ⊢
  cases hm : manyB l with
  | true =>
    have HF := Lib.hid (cchk_many (g := gg) hm)
    rw [hm] at KM
    clear hm
    go_enter Tryz.func10, Tryz.ntmps10
    go_wp2_with fail
    refine KM.out.mono ?_
    rintro e wx ⟨rfl, rfl⟩
    go_wp2_with fail
    go_ret
    exact ⟨ret_int HF.out.symm, Below.refl _ _⟩
  | false =>
    have HM := Lib.hid hm
    rw [hm] at KM
    clear hm
    go_enter Tryz.func10, Tryz.ntmps10
    go_wp2_with fail
    refine KM.out.mono ?_
    rintro e wx ⟨rfl, rfl⟩
    go_wp2_with fail
    go_loopw [5] (fun i wr => ∃ k : Nat, k ≤ l.length ∧ i = .int .i64 k ∧ Below w.heap.size w wr ∧ ∀ j, (hj : j < l.length) → j < k → cruB l[j] = true) (fun i _ => l.length - (intOf i).toNat)
    case atStart => exact ⟨0, Nat.zero_le _, rfl, Below.refl _ _, fun j _ h => by omega⟩
    case round =>
      obtain ⟨k, hk, rfl, hb, hok⟩ := hrel
      have HK := Lib.hid hok
      have HB := Lib.hid hb
      clear hok hb
      by_cases hlt : k < l.length
      · obtain ⟨b, off, cap', g, gc, o, oc, hp, lb, hat⟩ := (HV.out.later HB.out).at hlt
        obtain rfl : p = some ⟨b, off, none⟩ := by cases hp; rfl
        have k1 : (k : Int) < (l.length : Int) := by omega
        have HCw : Hid (∀ w1, Below wr.heap.size wr w1 → Calls Tryz.prog 19 #[.agg #[.int .u8 l[k].c.toNat, .int .i64 l[k].ar, .int .u8 l[k].l.toNat, .int .u8 l[k].r.toNat, .slice g l[k].gs.length gc, .int .i64 l[k].wt, .slice o l[k].out.length oc]] w1 fun e w' => e = .returned (.bool (ruleB l[k])) ∧ Below w1.heap.size w1 w') :=
          Lib.hid (fun w1 hb => HKF.out l[k] _ _ w1 (HS.out _ (List.getElem_mem hlt)) (hat.gs.later hb) (hat.out.later hb))
        obtain ⟨W0, hW0⟩ : ∃ W, W = wr.alloc (.cells #[.int .u8 l[k].c.toNat, .int .i64 l[k].ar, .int .u8 l[k].l.toNat, .int .u8 l[k].r.toNat, .slice g l[k].gs.length gc, .int .i64 l[k].wt, .slice o l[k].out.length oc] 45) := ⟨_, rfl⟩
        have N0 : W0.heap[wr.heap.size]? = some (.cells #[.int .u8 l[k].c.toNat, .int .i64 l[k].ar, .int .u8 l[k].l.toNat, .int .u8 l[k].r.toNat, .slice g l[k].gs.length gc, .int .i64 l[k].wt, .slice o l[k].out.length oc] 45 (0, 0)) := by rw [hW0]; exact heap_alloc_new _ _
        have HW0 : Hid (Below wr.heap.size wr W0) := Lib.hid (by rw [hW0]; exact (Below.refl _ _).alloc (Nat.le_refl _) _)
        have q2 : W0.cell? ⟨wr.heap.size, 2, none⟩ = some (.int .u8 l[k].l.toNat) := by simp [World.cell?, N0]
        have q3 : W0.cell? ⟨wr.heap.size, 3, none⟩ = some (.int .u8 l[k].r.toNat) := by simp [World.cell?, N0]
        have q5 : W0.cell? ⟨wr.heap.size, 5, none⟩ = some (.int .i64 l[k].wt) := by simp [World.cell?, N0]
        have lw := lt_of_block N0
        clear N0
        have KL := Lib.hid (fun w => refplain_any l[k].l w)
        have KR := Lib.hid (fun w => refplain_any l[k].r w)
        obtain ⟨t, ht⟩ : ∃ t, ruleB l[k] = t := ⟨_, rfl⟩
        have HT := Lib.hid ht
        rw [ht] at HCw
        obtain ⟨e0, e1, e2, e3, e4, e5, e6, _, _⟩ := hat
        clear hp ht
        cases t with
        | false =>
          have HF := Lib.hid (cchk_bad (g := gg) HM.out hlt (cru_fine HT.out))
          have tl : True := trivial
          have tr : True := trivial
          have tw : True := trivial
          (generalize l[k].c.toNat = x0 at e0 HCw hW0; generalize l[k].ar = x1 at e1 HCw hW0; generalize l[k].l.toNat = x2 at e2 q2 HCw KL tl hW0; generalize l[k].r.toNat = x3 at e3 q3 HCw KR tr hW0; generalize l[k].gs.length = x4 at e4 HCw hW0; generalize l[k].wt = x5 at e5 q5 HCw tw hW0; generalize l[k].out.length = x6 at e6 HCw hW0)
          go_wp2_with fail
          rw [← hW0]
          clear hW0
          refine (HCw.out W0 HW0.out).mono ?_
          rintro e w1 ⟨rfl, hb⟩
          have B1 := Lib.hid (HB.out.trans ((HW0.out.trans (hb.mono HW0.out.size)).mono HB.out.size))
          have y2 := (hb.cell (p := ⟨wr.heap.size, 2, none⟩) lw).trans q2
          have y3 := (hb.cell (p := ⟨wr.heap.size, 3, none⟩) lw).trans q3
          have y5 := (hb.cell (p := ⟨wr.heap.size, 5, none⟩) lw).trans q5
          clear hb
          go_wp2_with fail
          go_ret
          exact ⟨ret_int HF.out.symm, B1.out⟩

        | true =>
          by_cases hl : l[k].l = 0
          · have tl : ((l[k].l.toNat : Int) != 0) = false := by rw [hl]; rfl
            have JL : Hid (l[k].l = 0 ∨ plnB l[k].l = true) := Lib.hid (.inl hl)
            clear hl
            by_cases hr : l[k].r = 0
            · have tr : ((l[k].r.toNat : Int) != 0) = false := by rw [hr]; rfl
              have JR : Hid (l[k].r = 0 ∨ plnB l[k].r = true) := Lib.hid (.inl hr)
              clear hr
              by_cases hw : l[k].wt = 0
              · have tw : (l[k].wt != 0) = false := by rw [hw]; rfl
                have HG : Hid (∀ j, (hj : j < l.length) → j < k + 1 → cruB l[j] = true) := Lib.hid (fun j hj h => by
                  rcases Nat.lt_or_eq_of_le (Nat.le_of_lt_succ h) with h1 | h1
                  · exact HK.out j hj h1
                  · subst h1; exact cru_ok HT.out JL.out JR.out hw)
                clear hw
                (generalize l[k].c.toNat = x0 at e0 HCw hW0; generalize l[k].ar = x1 at e1 HCw hW0; generalize l[k].l.toNat = x2 at e2 q2 HCw KL tl hW0; generalize l[k].r.toNat = x3 at e3 q3 HCw KR tr hW0; generalize l[k].gs.length = x4 at e4 HCw hW0; generalize l[k].wt = x5 at e5 q5 HCw tw hW0; generalize l[k].out.length = x6 at e6 HCw hW0)
                go_wp2_with fail
                rw [← hW0]
                clear hW0
                refine (HCw.out W0 HW0.out).mono ?_
                rintro e w1 ⟨rfl, hb⟩
                have B1 := Lib.hid (HB.out.trans ((HW0.out.trans (hb.mono HW0.out.size)).mono HB.out.size))
                have y2 := (hb.cell (p := ⟨wr.heap.size, 2, none⟩) lw).trans q2
                have y3 := (hb.cell (p := ⟨wr.heap.size, 3, none⟩) lw).trans q3
                have y5 := (hb.cell (p := ⟨wr.heap.size, 5, none⟩) lw).trans q5
                clear hb
                go_wp2_with fail
                go_roundw
                case rel => exact ⟨k + 1, by omega, by go_num, B1.out, HG.out⟩
                case measure => first | (simp [intOf]; done) | (simp [intOf]; omega)

              · have tw : (l[k].wt != 0) = true := by rw [bne_iff_ne]; exact hw
                have HF := Lib.hid (cchk_bad (g := gg) HM.out hlt (cru_w hw))
                clear hw
                (generalize l[k].c.toNat = x0 at e0 HCw hW0; generalize l[k].ar = x1 at e1 HCw hW0; generalize l[k].l.toNat = x2 at e2 q2 HCw KL tl hW0; generalize l[k].r.toNat = x3 at e3 q3 HCw KR tr hW0; generalize l[k].gs.length = x4 at e4 HCw hW0; generalize l[k].wt = x5 at e5 q5 HCw tw hW0; generalize l[k].out.length = x6 at e6 HCw hW0)
                go_wp2_with fail
                rw [← hW0]
                clear hW0
                refine (HCw.out W0 HW0.out).mono ?_
                rintro e w1 ⟨rfl, hb⟩
                have B1 := Lib.hid (HB.out.trans ((HW0.out.trans (hb.mono HW0.out.size)).mono HB.out.size))
                have y2 := (hb.cell (p := ⟨wr.heap.size, 2, none⟩) lw).trans q2
                have y3 := (hb.cell (p := ⟨wr.heap.size, 3, none⟩) lw).trans q3
                have y5 := (hb.cell (p := ⟨wr.heap.size, 5, none⟩) lw).trans q5
                clear hb
                go_wp2_with fail
                go_ret
                exact ⟨ret_int HF.out.symm, B1.out⟩

            · have tr := u8_nz hr
              cases hpr : plnB l[k].r with
              | false =>
                rw [hpr] at KR
                have HF := Lib.hid (cchk_bad (g := gg) HM.out hlt (cru_r hr hpr))
                have tw : True := trivial
                clear hr hpr
                (generalize l[k].c.toNat = x0 at e0 HCw hW0; generalize l[k].ar = x1 at e1 HCw hW0; generalize l[k].l.toNat = x2 at e2 q2 HCw KL tl hW0; generalize l[k].r.toNat = x3 at e3 q3 HCw KR tr hW0; generalize l[k].gs.length = x4 at e4 HCw hW0; generalize l[k].wt = x5 at e5 q5 HCw tw hW0; generalize l[k].out.length = x6 at e6 HCw hW0)
                go_wp2_with fail
                rw [← hW0]
                clear hW0
                refine (HCw.out W0 HW0.out).mono ?_
                rintro e w1 ⟨rfl, hb⟩
                have B1 := Lib.hid (HB.out.trans ((HW0.out.trans (hb.mono HW0.out.size)).mono HB.out.size))
                have y2 := (hb.cell (p := ⟨wr.heap.size, 2, none⟩) lw).trans q2
                have y3 := (hb.cell (p := ⟨wr.heap.size, 3, none⟩) lw).trans q3
                have y5 := (hb.cell (p := ⟨wr.heap.size, 5, none⟩) lw).trans q5
                clear hb
                go_wp2_with fail
                refine (KR.out _).mono ?_
                rintro e wy ⟨rfl, rfl⟩
                go_wp2_with fail
                go_ret
                exact ⟨ret_int HF.out.symm, B1.out⟩

              | true =>
                rw [hpr] at KR
                have JR : Hid (l[k].r = 0 ∨ plnB l[k].r = true) := Lib.hid (.inr hpr)
                clear hr hpr
                by_cases hw : l[k].wt = 0
                · have tw : (l[k].wt != 0) = false := by rw [hw]; rfl
                  have HG : Hid (∀ j, (hj : j < l.length) → j < k + 1 → cruB l[j] = true) := Lib.hid (fun j hj h => by
                    rcases Nat.lt_or_eq_of_le (Nat.le_of_lt_succ h) with h1 | h1
                    · exact HK.out j hj h1
                    · subst h1; exact cru_ok HT.out JL.out JR.out hw)
                  clear hw
                  (generalize l[k].c.toNat = x0 at e0 HCw hW0; generalize l[k].ar = x1 at e1 HCw hW0; generalize l[k].l.toNat = x2 at e2 q2 HCw KL tl hW0; generalize l[k].r.toNat = x3 at e3 q3 HCw KR tr hW0; generalize l[k].gs.length = x4 at e4 HCw hW0; generalize l[k].wt = x5 at e5 q5 HCw tw hW0; generalize l[k].out.length = x6 at e6 HCw hW0)
                  go_wp2_with fail
                  rw [← hW0]
                  clear hW0
                  refine (HCw.out W0 HW0.out).mono ?_
                  rintro e w1 ⟨rfl, hb⟩
                  have B1 := Lib.hid (HB.out.trans ((HW0.out.trans (hb.mono HW0.out.size)).mono HB.out.size))
                  have y2 := (hb.cell (p := ⟨wr.heap.size, 2, none⟩) lw).trans q2
                  have y3 := (hb.cell (p := ⟨wr.heap.size, 3, none⟩) lw).trans q3
                  have y5 := (hb.cell (p := ⟨wr.heap.size, 5, none⟩) lw).trans q5
                  clear hb
                  go_wp2_with fail
                  refine (KR.out _).mono ?_
                  rintro e wy ⟨rfl, rfl⟩
                  go_wp2_with fail
                  go_roundw
                  case rel => exact ⟨k + 1, by omega, by go_num, B1.out, HG.out⟩
                  case measure => first | (simp [intOf]; done) | (simp [intOf]; omega)

                · have tw : (l[k].wt != 0) = true := by rw [bne_iff_ne]; exact hw
                  have HF := Lib.hid (cchk_bad (g := gg) HM.out hlt (cru_w hw))
                  clear hw
                  (generalize l[k].c.toNat = x0 at e0 HCw hW0; generalize l[k].ar = x1 at e1 HCw hW0; generalize l[k].l.toNat = x2 at e2 q2 HCw KL tl hW0; generalize l[k].r.toNat = x3 at e3 q3 HCw KR tr hW0; generalize l[k].gs.length = x4 at e4 HCw hW0; generalize l[k].wt = x5 at e5 q5 HCw tw hW0; generalize l[k].out.length = x6 at e6 HCw hW0)
                  go_wp2_with fail
                  rw [← hW0]
                  clear hW0
                  refine (HCw.out W0 HW0.out).mono ?_
                  rintro e w1 ⟨rfl, hb⟩
                  have B1 := Lib.hid (HB.out.trans ((HW0.out.trans (hb.mono HW0.out.size)).mono HB.out.size))
                  have y2 := (hb.cell (p := ⟨wr.heap.size, 2, none⟩) lw).trans q2
                  have y3 := (hb.cell (p := ⟨wr.heap.size, 3, none⟩) lw).trans q3
                  have y5 := (hb.cell (p := ⟨wr.heap.size, 5, none⟩) lw).trans q5
                  clear hb
                  go_wp2_with fail
                  refine (KR.out _).mono ?_
                  rintro e wy ⟨rfl, rfl⟩
                  go_wp2_with fail
                  go_ret
                  exact ⟨ret_int HF.out.symm, B1.out⟩

          · have tl := u8_nz hl
            cases hpl : plnB l[k].l with
            | false =>
              rw [hpl] at KL
              have HF := Lib.hid (cchk_bad (g := gg) HM.out hlt (cru_l hl hpl))
              have tr : True := trivial
              have tw : True := trivial
              clear hl hpl
              (generalize l[k].c.toNat = x0 at e0 HCw hW0; generalize l[k].ar = x1 at e1 HCw hW0; generalize l[k].l.toNat = x2 at e2 q2 HCw KL tl hW0; generalize l[k].r.toNat = x3 at e3 q3 HCw KR tr hW0; generalize l[k].gs.length = x4 at e4 HCw hW0; generalize l[k].wt = x5 at e5 q5 HCw tw hW0; generalize l[k].out.length = x6 at e6 HCw hW0)
              go_wp2_with fail
              rw [← hW0]
              clear hW0
              refine (HCw.out W0 HW0.out).mono ?_
              rintro e w1 ⟨rfl, hb⟩
              have B1 := Lib.hid (HB.out.trans ((HW0.out.trans (hb.mono HW0.out.size)).mono HB.out.size))
              have y2 := (hb.cell (p := ⟨wr.heap.size, 2, none⟩) lw).trans q2
              have y3 := (hb.cell (p := ⟨wr.heap.size, 3, none⟩) lw).trans q3
              have y5 := (hb.cell (p := ⟨wr.heap.size, 5, none⟩) lw).trans q5
              clear hb
              go_wp2_with fail
              refine (KL.out _).mono ?_
              rintro e wy ⟨rfl, rfl⟩
              go_wp2_with fail
              go_ret
              exact ⟨ret_int HF.out.symm, B1.out⟩

            | true =>
              rw [hpl] at KL
              have JL : Hid (l[k].l = 0 ∨ plnB l[k].l = true) := Lib.hid (.inr hpl)
              clear hl hpl
              by_cases hr : l[k].r = 0
              · have tr : ((l[k].r.toNat : Int) != 0) = false := by rw [hr]; rfl
                have JR : Hid (l[k].r = 0 ∨ plnB l[k].r = true) := Lib.hid (.inl hr)
                clear hr
                by_cases hw : l[k].wt = 0
                · have tw : (l[k].wt != 0) = false := by rw [hw]; rfl
                  have HG : Hid (∀ j, (hj : j < l.length) → j < k + 1 → cruB l[j] = true) := Lib.hid (fun j hj h => by
                    rcases Nat.lt_or_eq_of_le (Nat.le_of_lt_succ h) with h1 | h1
                    · exact HK.out j hj h1
                    · subst h1; exact cru_ok HT.out JL.out JR.out hw)
                  clear hw
                  (generalize l[k].c.toNat = x0 at e0 HCw hW0; generalize l[k].ar = x1 at e1 HCw hW0; generalize l[k].l.toNat = x2 at e2 q2 HCw KL tl hW0; generalize l[k].r.toNat = x3 at e3 q3 HCw KR tr hW0; generalize l[k].gs.length = x4 at e4 HCw hW0; generalize l[k].wt = x5 at e5 q5 HCw tw hW0; generalize l[k].out.length = x6 at e6 HCw hW0)
                  go_wp2_with fail
                  rw [← hW0]
                  clear hW0
                  refine (HCw.out W0 HW0.out).mono ?_
                  rintro e w1 ⟨rfl, hb⟩
                  have B1 := Lib.hid (HB.out.trans ((HW0.out.trans (hb.mono HW0.out.size)).mono HB.out.size))
                  have y2 := (hb.cell (p := ⟨wr.heap.size, 2, none⟩) lw).trans q2
                  have y3 := (hb.cell (p := ⟨wr.heap.size, 3, none⟩) lw).trans q3
                  have y5 := (hb.cell (p := ⟨wr.heap.size, 5, none⟩) lw).trans q5
                  clear hb
                  go_wp2_with fail
                  refine (KL.out _).mono ?_
                  rintro e wy ⟨rfl, rfl⟩
                  go_wp2_with fail
                  go_roundw
                  case rel => exact ⟨k + 1, by omega, by go_num, B1.out, HG.out⟩
                  case measure => first | (simp [intOf]; done) | (simp [intOf]; omega)

                · have tw : (l[k].wt != 0) = true := by rw [bne_iff_ne]; exact hw
                  have HF := Lib.hid (cchk_bad (g := gg) HM.out hlt (cru_w hw))
                  clear hw
                  (generalize l[k].c.toNat = x0 at e0 HCw hW0; generalize l[k].ar = x1 at e1 HCw hW0; generalize l[k].l.toNat = x2 at e2 q2 HCw KL tl hW0; generalize l[k].r.toNat = x3 at e3 q3 HCw KR tr hW0; generalize l[k].gs.length = x4 at e4 HCw hW0; generalize l[k].wt = x5 at e5 q5 HCw tw hW0; generalize l[k].out.length = x6 at e6 HCw hW0)
                  go_wp2_with fail
                  rw [← hW0]
                  clear hW0
                  refine (HCw.out W0 HW0.out).mono ?_
                  rintro e w1 ⟨rfl, hb⟩
                  have B1 := Lib.hid (HB.out.trans ((HW0.out.trans (hb.mono HW0.out.size)).mono HB.out.size))
                  have y2 := (hb.cell (p := ⟨wr.heap.size, 2, none⟩) lw).trans q2
                  have y3 := (hb.cell (p := ⟨wr.heap.size, 3, none⟩) lw).trans q3
                  have y5 := (hb.cell (p := ⟨wr.heap.size, 5, none⟩) lw).trans q5
                  clear hb
                  go_wp2_with fail
                  refine (KL.out _).mono ?_
                  rintro e wy ⟨rfl, rfl⟩
                  go_wp2_with fail
                  go_ret
                  exact ⟨ret_int HF.out.symm, B1.out⟩

              · have tr := u8_nz hr
                cases hpr : plnB l[k].r with
                | false =>
                  rw [hpr] at KR
                  have HF := Lib.hid (cchk_bad (g := gg) HM.out hlt (cru_r hr hpr))
                  have tw : True := trivial
                  clear hr hpr
                  (generalize l[k].c.toNat = x0 at e0 HCw hW0; generalize l[k].ar = x1 at e1 HCw hW0; generalize l[k].l.toNat = x2 at e2 q2 HCw KL tl hW0; generalize l[k].r.toNat = x3 at e3 q3 HCw KR tr hW0; generalize l[k].gs.length = x4 at e4 HCw hW0; generalize l[k].wt = x5 at e5 q5 HCw tw hW0; generalize l[k].out.length = x6 at e6 HCw hW0)
                  go_wp2_with fail
                  rw [← hW0]
                  clear hW0
                  refine (HCw.out W0 HW0.out).mono ?_
                  rintro e w1 ⟨rfl, hb⟩
                  have B1 := Lib.hid (HB.out.trans ((HW0.out.trans (hb.mono HW0.out.size)).mono HB.out.size))
                  have y2 := (hb.cell (p := ⟨wr.heap.size, 2, none⟩) lw).trans q2
                  have y3 := (hb.cell (p := ⟨wr.heap.size, 3, none⟩) lw).trans q3
                  have y5 := (hb.cell (p := ⟨wr.heap.size, 5, none⟩) lw).trans q5
                  clear hb
                  go_wp2_with fail
                  refine (KL.out _).mono ?_
                  rintro e wy ⟨rfl, rfl⟩
                  go_wp2_with fail
                  refine (KR.out _).mono ?_
                  rintro e wy ⟨rfl, rfl⟩
                  go_wp2_with fail
                  go_ret
                  exact ⟨ret_int HF.out.symm, B1.out⟩

                | true =>
                  rw [hpr] at KR
                  have JR : Hid (l[k].r = 0 ∨ plnB l[k].r = true) := Lib.hid (.inr hpr)
                  clear hr hpr
                  by_cases hw : l[k].wt = 0
                  · have tw : (l[k].wt != 0) = false := by rw [hw]; rfl
                    have HG : Hid (∀ j, (hj : j < l.length) → j < k + 1 → cruB l[j] = true) := Lib.hid (fun j hj h => by
                      rcases Nat.lt_or_eq_of_le (Nat.le_of_lt_succ h) with h1 | h1
                      · exact HK.out j hj h1
                      · subst h1; exact cru_ok HT.out JL.out JR.out hw)
                    clear hw
                    (generalize l[k].c.toNat = x0 at e0 HCw hW0; generalize l[k].ar = x1 at e1 HCw hW0; generalize l[k].l.toNat = x2 at e2 q2 HCw KL tl hW0; generalize l[k].r.toNat = x3 at e3 q3 HCw KR tr hW0; generalize l[k].gs.length = x4 at e4 HCw hW0; generalize l[k].wt = x5 at e5 q5 HCw tw hW0; generalize l[k].out.length = x6 at e6 HCw hW0)
                    go_wp2_with fail
                    rw [← hW0]
                    clear hW0
                    refine (HCw.out W0 HW0.out).mono ?_
                    rintro e w1 ⟨rfl, hb⟩
                    have B1 := Lib.hid (HB.out.trans ((HW0.out.trans (hb.mono HW0.out.size)).mono HB.out.size))
                    have y2 := (hb.cell (p := ⟨wr.heap.size, 2, none⟩) lw).trans q2
                    have y3 := (hb.cell (p := ⟨wr.heap.size, 3, none⟩) lw).trans q3
                    have y5 := (hb.cell (p := ⟨wr.heap.size, 5, none⟩) lw).trans q5
                    clear hb
                    go_wp2_with fail
                    refine (KL.out _).mono ?_
                    rintro e wy ⟨rfl, rfl⟩
                    go_wp2_with fail
                    refine (KR.out _).mono ?_
                    rintro e wy ⟨rfl, rfl⟩
                    go_wp2_with fail
                    go_roundw
                    case rel => exact ⟨k + 1, by omega, by go_num, B1.out, HG.out⟩
                    case measure => first | (simp [intOf]; done) | (simp [intOf]; omega)

                  · have tw : (l[k].wt != 0) = true := by rw [bne_iff_ne]; exact hw
                    have HF := Lib.hid (cchk_bad (g := gg) HM.out hlt (cru_w hw))
                    clear hw
                    (generalize l[k].c.toNat = x0 at e0 HCw hW0; generalize l[k].ar = x1 at e1 HCw hW0; generalize l[k].l.toNat = x2 at e2 q2 HCw KL tl hW0; generalize l[k].r.toNat = x3 at e3 q3 HCw KR tr hW0; generalize l[k].gs.length = x4 at e4 HCw hW0; generalize l[k].wt = x5 at e5 q5 HCw tw hW0; generalize l[k].out.length = x6 at e6 HCw hW0)
                    go_wp2_with fail
                    rw [← hW0]
                    clear hW0
                    refine (HCw.out W0 HW0.out).mono ?_
                    rintro e w1 ⟨rfl, hb⟩
                    have B1 := Lib.hid (HB.out.trans ((HW0.out.trans (hb.mono HW0.out.size)).mono HB.out.size))
                    have y2 := (hb.cell (p := ⟨wr.heap.size, 2, none⟩) lw).trans q2
                    have y3 := (hb.cell (p := ⟨wr.heap.size, 3, none⟩) lw).trans q3
                    have y5 := (hb.cell (p := ⟨wr.heap.size, 5, none⟩) lw).trans q5
                    clear hb
                    go_wp2_with fail
                    refine (KL.out _).mono ?_
                    rintro e wy ⟨rfl, rfl⟩
                    go_wp2_with fail
                    refine (KR.out _).mono ?_
                    rintro e wy ⟨rfl, rfl⟩
                    go_wp2_with fail
                    go_ret
                    exact ⟨ret_int HF.out.symm, B1.out⟩

      · obtain rfl : k = l.length := by omega
        have HF := Lib.hid (cchk_end (g := gg) HM.out (fun i hi => HK.out i hi hi))
        obtain ⟨t, ht⟩ : ∃ t, ignB gg = t := ⟨_, rfl⟩
        rw [ht] at KI HF
        clear ht
        cases t with
        | true =>
          go_wp2_with fail
          refine (KI.out _).mono ?_
          rintro e w1 ⟨rfl, hb⟩
          have B1 := Lib.hid (HB.out.trans (hb.mono HB.out.size))
          clear hb
          go_wp2_with fail
          go_ret
          exact ⟨ret_int (by rw [HF.out]; rfl), B1.out⟩
        | false =>
          go_wp2_with fail
          refine (KI.out _).mono ?_
          rintro e w1 ⟨rfl, hb⟩
          have B1 := Lib.hid (HB.out.trans (hb.mono HB.out.size))
          clear hb
          go_wp2_with fail
          go_ret
          exact ⟨ret_int (by rw [HF.out]; rfl), B1.out⟩
end Go.Proofs.YtlmofdmbcddddaaGreatDoor
namespace Go.Proofs.YtlmofdmbcddddaaGreatDoor
open Go.RowKit
open WM RM
set_option linter.unusedVariables false
set_option linter.unusedSimpArgs false

theorem vb_let {r : Rw} (h : (letB r.c && !(braB r.c)) = false) : validB r = false := by unfold validB; rw [h]; simp
theorem vb_lo {r : Rw} (h : r.ar < 0) : validB r = false := by unfold validB; rw [decide_eq_false (by omega : ¬ 0 ≤ r.ar)]; simp
theorem vb_hi {r : Rw} (h : 4 < r.ar) : validB r = false := by unfold validB; rw [decide_eq_false (by omega : ¬ r.ar ≤ 4)]; simp
theorem vb_plain {r : Rw} (h : plainB r = false) : validB r = false := by unfold validB; rw [h]; simp
theorem vb_gs {r : Rw} (h : r.gs.all (formB · r.ar) = false) : validB r = false := by unfold validB; rw [h]; simp
theorem vb_chk {r : Rw} (h : chk (r.out.map blM) ≠ 0) : validB r = false := by unfold validB; rw [decide_eq_false h]; simp
theorem vb_out {r : Rw} {k : Nat} (hk : k < r.out.length) (h : r.out[k].a.all (formB · r.ar) = false) : validB r = false := by
  have : (r.out.all fun s => s.a.all (formB · r.ar)) = false := by
    rw [List.all_eq_false]; exact ⟨_, List.getElem_mem hk, by rw [h]; simp⟩
  unfold validB; rw [this]; simp
theorem vb_ok {r : Rw} (h1 : (letB r.c && !(braB r.c)) = true) (h2 : ¬ r.ar < 0) (h3 : ¬ 4 < r.ar) (h4 : plainB r = true) (h5 : r.gs.all (formB · r.ar) = true) (h6 : chk (r.out.map blM) = 0) (h7 : ∀ k, (hk : k < r.out.length) → r.out[k].a.all (formB · r.ar) = true) : validB r = true := by
  have : (r.out.all fun s => s.a.all (formB · r.ar)) = true := by
    rw [List.all_eq_true]
    intro x hx
    obtain ⟨j, hj, rfl⟩ := List.mem_iff_getElem.1 hx
    exact h7 j hj
  unfold validB
  rw [h1, h4, h5, this, decide_eq_true h6, decide_eq_true (by omega : 0 ≤ r.ar), decide_eq_true (by omega : r.ar ≤ 4)]
  rfl
set_option maxRecDepth 100000 in
set_option maxHeartbeats 6400000 in
theorem pvalid_any (r : Rw) (gv ov : Value) (hs : RwSm r) (w : World) (h1 : Fms w gv r.gs) (h2 : Shs w ov r.out) :
    Calls Tryz.prog 82 #[rwV r gv ov] w fun e w' => e = .returned (.bool (validB r)) ∧ Below w.heap.size w w' := by
  obtain ⟨pg, cg, rfl⟩ := h1.slice
  obtain ⟨po, co, rfl⟩ := h2.slice
  obtain ⟨s1, s2, s3, s4⟩ := hs
  unfold rwV
  obtain ⟨W0, hW0⟩ : ∃ W, W = w.alloc (.cells #[.int .u8 r.c.toNat, .int .i64 r.ar, .int .u8 r.l.toNat, .int .u8 r.r.toNat, .slice pg r.gs.length cg, .int .i64 r.wt, .slice po r.out.length co] 45) := ⟨_, rfl⟩
  have N1 : W0.heap[w.heap.size]? = some (.cells #[.int .u8 r.c.toNat, .int .i64 r.ar, .int .u8 r.l.toNat, .int .u8 r.r.toNat, .slice pg r.gs.length cg, .int .i64 r.wt, .slice po r.out.length co] 45 (0, 0)) := by rw [hW0]; exact heap_alloc_new _ _
  have B0 : Below w.heap.size w W0 := by rw [hW0]; exact (Below.refl _ _).alloc (Nat.le_refl _) _
  have HB := Lib.hid B0
  have HG := Lib.hid (h1.later B0)
  have HO := Lib.hid (h2.later B0)
  have q0 : W0.cell? ⟨w.heap.size, 0, none⟩ = some (.int .u8 r.c.toNat) := by simp [World.cell?, N1]
  have q1 : W0.cell? ⟨w.heap.size, 1, none⟩ = some (.int .i64 r.ar) := by simp [World.cell?, N1]
  have q2 : W0.cell? ⟨w.heap.size, 2, none⟩ = some (.int .u8 r.l.toNat) := by simp [World.cell?, N1]
  have q3 : W0.cell? ⟨w.heap.size, 3, none⟩ = some (.int .u8 r.r.toNat) := by simp [World.cell?, N1]
  have q4 : W0.cell? ⟨w.heap.size, 4, none⟩ = some (.slice pg r.gs.length cg) := by simp [World.cell?, N1]
  have q5 : W0.cell? ⟨w.heap.size, 5, none⟩ = some (.int .i64 r.wt) := by simp [World.cell?, N1]
  have q6 : W0.cell? ⟨w.heap.size, 6, none⟩ = some (.slice po r.out.length co) := by simp [World.cell?, N1]
  have l0 := lt_of_block N1
  have KL := Lib.hid (fun w => pletter_any r.c w)
  have KG := Lib.hid (fun (w : World) (h : Fms w (.slice pg r.gs.length cg) r.gs) => allformed_any r.gs (.slice pg r.gs.length cg) r.ar (by omega) (fun f hf => by have := s3 f hf; omega) w h)
  have KB := Lib.hid (fun (w : World) (h : Shs w (.slice po r.out.length co) r.out) => blank_any r.out (.slice po r.out.length co) (by omega) (fun s hs => by have := (s4 s hs).1; omega) w h)
  have KC := Lib.hid (fun (w : World) (v : Value) (h : Mods w v (r.out.map blM)) => pcheck_any v (r.out.map blM) (by rw [List.length_map]; omega) (fun m hm => by
    obtain ⟨s, _, rfl⟩ := List.mem_map.1 hm
    simp [blM, zerM]; omega) w h)
  have H4 := Lib.hid s4
  clear N1 B0 h1 h2
  cases hlt : (letB r.c && !(braB r.c)) with
  | false =>
    have HF := Lib.hid (vb_let hlt)
    rw [hlt] at KL
    clear hlt
    obtain ⟨cn, hcn⟩ : ∃ cn : Nat, r.c.toNat = cn := ⟨_, rfl⟩
    rw [hcn] at KL hW0 q0 ⊢
    clear hcn
    go_enter Tryz.func82, Tryz.ntmps82
    go_wp2_with fail
    rw [← hW0]
    clear hW0
    go_wp2_with fail
    refine (KL.out _).mono ?_
    rintro e w1 ⟨rfl, hb⟩
    have B1 := Lib.hid (HB.out.trans (hb.mono HB.out.size))
    have D1 := Lib.hid hb
    have y1 := (hb.cell (p := ⟨w.heap.size, 1, none⟩) l0).trans q1
    have y2 := (hb.cell (p := ⟨w.heap.size, 2, none⟩) l0).trans q2
    have y3 := (hb.cell (p := ⟨w.heap.size, 3, none⟩) l0).trans q3
    have y4 := (hb.cell (p := ⟨w.heap.size, 4, none⟩) l0).trans q4
    have y5 := (hb.cell (p := ⟨w.heap.size, 5, none⟩) l0).trans q5
    have y6 := (hb.cell (p := ⟨w.heap.size, 6, none⟩) l0).trans q6
    clear hb
    go_wp2_with fail
    go_ret
    exact ⟨ret_bool HF.out.symm, B1.out⟩
  | true =>
    have HL := Lib.hid hlt
    rw [hlt] at KL
    clear hlt
    obtain ⟨cn, hcn⟩ : ∃ cn : Nat, r.c.toNat = cn := ⟨_, rfl⟩
    rw [hcn] at KL hW0 q0 ⊢
    clear hcn
    by_cases a1 : r.ar < 0
    · have HF := Lib.hid (vb_lo a1)
      generalize r.ar = ar at a1 q1 hW0 KG ⊢
      go_enter Tryz.func82, Tryz.ntmps82
      go_wp2_with fail
      rw [← hW0]
      clear hW0
      go_wp2_with fail
      refine (KL.out _).mono ?_
      rintro e w1 ⟨rfl, hb⟩
      have B1 := Lib.hid (HB.out.trans (hb.mono HB.out.size))
      have D1 := Lib.hid hb
      have y1 := (hb.cell (p := ⟨w.heap.size, 1, none⟩) l0).trans q1
      have y2 := (hb.cell (p := ⟨w.heap.size, 2, none⟩) l0).trans q2
      have y3 := (hb.cell (p := ⟨w.heap.size, 3, none⟩) l0).trans q3
      have y4 := (hb.cell (p := ⟨w.heap.size, 4, none⟩) l0).trans q4
      have y5 := (hb.cell (p := ⟨w.heap.size, 5, none⟩) l0).trans q5
      have y6 := (hb.cell (p := ⟨w.heap.size, 6, none⟩) l0).trans q6
      clear hb
      go_wp2_with fail
      go_ret
      exact ⟨ret_bool HF.out.symm, B1.out⟩
    by_cases a2 : 4 < r.ar
    · have HF := Lib.hid (vb_hi a2)
      generalize r.ar = ar at a1 a2 q1 hW0 KG ⊢
      go_enter Tryz.func82, Tryz.ntmps82
      go_wp2_with fail
      rw [← hW0]
      clear hW0
      go_wp2_with fail
      refine (KL.out _).mono ?_
      rintro e w1 ⟨rfl, hb⟩
      have B1 := Lib.hid (HB.out.trans (hb.mono HB.out.size))
      have D1 := Lib.hid hb
      have y1 := (hb.cell (p := ⟨w.heap.size, 1, none⟩) l0).trans q1
      have y2 := (hb.cell (p := ⟨w.heap.size, 2, none⟩) l0).trans q2
      have y3 := (hb.cell (p := ⟨w.heap.size, 3, none⟩) l0).trans q3
      have y4 := (hb.cell (p := ⟨w.heap.size, 4, none⟩) l0).trans q4
      have y5 := (hb.cell (p := ⟨w.heap.size, 5, none⟩) l0).trans q5
      have y6 := (hb.cell (p := ⟨w.heap.size, 6, none⟩) l0).trans q6
      clear hb
      go_wp2_with fail
      go_ret
      exact ⟨ret_bool HF.out.symm, B1.out⟩
    by_cases a3 : r.l = 0
    rotate_left
    · have HF := Lib.hid (vb_plain (plain_l a3))
      have t3 := u8_nz a3
      clear a3
      generalize r.l.toNat = ln at q2 t3 hW0 ⊢
      go_enter Tryz.func82, Tryz.ntmps82
      go_wp2_with fail
      rw [← hW0]
      clear hW0
      go_wp2_with fail
      refine (KL.out _).mono ?_
      rintro e w1 ⟨rfl, hb⟩
      have B1 := Lib.hid (HB.out.trans (hb.mono HB.out.size))
      have D1 := Lib.hid hb
      have y1 := (hb.cell (p := ⟨w.heap.size, 1, none⟩) l0).trans q1
      have y2 := (hb.cell (p := ⟨w.heap.size, 2, none⟩) l0).trans q2
      have y3 := (hb.cell (p := ⟨w.heap.size, 3, none⟩) l0).trans q3
      have y4 := (hb.cell (p := ⟨w.heap.size, 4, none⟩) l0).trans q4
      have y5 := (hb.cell (p := ⟨w.heap.size, 5, none⟩) l0).trans q5
      have y6 := (hb.cell (p := ⟨w.heap.size, 6, none⟩) l0).trans q6
      clear hb
      go_wp2_with fail
      go_ret
      exact ⟨ret_bool HF.out.symm, B1.out⟩
    have t3 : ((r.l.toNat : Int) != 0) = false := by rw [a3]; rfl
    by_cases a4 : r.r = 0
    rotate_left
    · have HF := Lib.hid (vb_plain (plain_r a4))
      have t4 := u8_nz a4
      clear a4 a3
      generalize r.l.toNat = ln at q2 t3 hW0 ⊢
      generalize r.r.toNat = rn at q3 t4 hW0 ⊢
      go_enter Tryz.func82, Tryz.ntmps82
      go_wp2_with fail
      rw [← hW0]
      clear hW0
      go_wp2_with fail
      refine (KL.out _).mono ?_
      rintro e w1 ⟨rfl, hb⟩
      have B1 := Lib.hid (HB.out.trans (hb.mono HB.out.size))
      have D1 := Lib.hid hb
      have y1 := (hb.cell (p := ⟨w.heap.size, 1, none⟩) l0).trans q1
      have y2 := (hb.cell (p := ⟨w.heap.size, 2, none⟩) l0).trans q2
      have y3 := (hb.cell (p := ⟨w.heap.size, 3, none⟩) l0).trans q3
      have y4 := (hb.cell (p := ⟨w.heap.size, 4, none⟩) l0).trans q4
      have y5 := (hb.cell (p := ⟨w.heap.size, 5, none⟩) l0).trans q5
      have y6 := (hb.cell (p := ⟨w.heap.size, 6, none⟩) l0).trans q6
      clear hb
      go_wp2_with fail
      go_ret
      exact ⟨ret_bool HF.out.symm, B1.out⟩
    have t4 : ((r.r.toNat : Int) != 0) = false := by rw [a4]; rfl
    by_cases a5 : r.wt = 0
    rotate_left
    · have HF := Lib.hid (vb_plain (plain_w a5))
      have t5 : (r.wt != 0) = true := by rw [bne_iff_ne]; exact a5
      clear a5 a4 a3
      generalize r.l.toNat = ln at q2 t3 hW0 ⊢
      generalize r.r.toNat = rn at q3 t4 hW0 ⊢
      generalize r.wt = wt at q5 t5 hW0 ⊢
      go_enter Tryz.func82, Tryz.ntmps82
      go_wp2_with fail
      rw [← hW0]
      clear hW0
      go_wp2_with fail
      refine (KL.out _).mono ?_
      rintro e w1 ⟨rfl, hb⟩
      have B1 := Lib.hid (HB.out.trans (hb.mono HB.out.size))
      have D1 := Lib.hid hb
      have y1 := (hb.cell (p := ⟨w.heap.size, 1, none⟩) l0).trans q1
      have y2 := (hb.cell (p := ⟨w.heap.size, 2, none⟩) l0).trans q2
      have y3 := (hb.cell (p := ⟨w.heap.size, 3, none⟩) l0).trans q3
      have y4 := (hb.cell (p := ⟨w.heap.size, 4, none⟩) l0).trans q4
      have y5 := (hb.cell (p := ⟨w.heap.size, 5, none⟩) l0).trans q5
      have y6 := (hb.cell (p := ⟨w.heap.size, 6, none⟩) l0).trans q6
      clear hb
      go_wp2_with fail
      go_ret
      exact ⟨ret_bool HF.out.symm, B1.out⟩
    have t5 : (r.wt != 0) = false := by rw [a5]; rfl
    have HP := Lib.hid (plain_ok a3 a4 a5)
    clear a3 a4 a5
    generalize r.l.toNat = ln at q2 t3 hW0 ⊢
    generalize r.r.toNat = rn at q3 t4 hW0 ⊢
    generalize r.wt = wt at q5 t5 hW0 ⊢
    cases hgs : r.gs.all (formB · r.ar) with
    | false =>
      have HF := Lib.hid (vb_gs hgs)
      rw [hgs] at KG
      clear hgs
      go_enter Tryz.func82, Tryz.ntmps82
      go_wp2_with fail
      rw [← hW0]
      clear hW0
      go_wp2_with fail
      refine (KL.out _).mono ?_
      rintro e w1 ⟨rfl, hb⟩
      have B1 := Lib.hid (HB.out.trans (hb.mono HB.out.size))
      have D1 := Lib.hid hb
      have y1 := (hb.cell (p := ⟨w.heap.size, 1, none⟩) l0).trans q1
      have y2 := (hb.cell (p := ⟨w.heap.size, 2, none⟩) l0).trans q2
      have y3 := (hb.cell (p := ⟨w.heap.size, 3, none⟩) l0).trans q3
      have y4 := (hb.cell (p := ⟨w.heap.size, 4, none⟩) l0).trans q4
      have y5 := (hb.cell (p := ⟨w.heap.size, 5, none⟩) l0).trans q5
      have y6 := (hb.cell (p := ⟨w.heap.size, 6, none⟩) l0).trans q6
      clear hb
      go_wp2_with fail
      refine (KG.out _ (HG.out.later D1.out)).mono ?_
      rintro e w2 ⟨rfl, hb⟩
      have B2 := Lib.hid (B1.out.trans (hb.mono B1.out.size))
      have D2 := Lib.hid (D1.out.trans (hb.mono D1.out.size))
      have z1 := (D2.out.cell (p := ⟨w.heap.size, 1, none⟩) l0).trans q1
      have z6 := (D2.out.cell (p := ⟨w.heap.size, 6, none⟩) l0).trans q6
      clear hb
      go_wp2_with fail
      go_ret
      exact ⟨ret_bool HF.out.symm, B2.out⟩
    | true =>
      have HGs := Lib.hid hgs
      rw [hgs] at KG
      clear hgs
      by_cases hck : chk (r.out.map blM) = 0
      rotate_left
      · have HF := Lib.hid (vb_chk hck)
        obtain ⟨x, hx⟩ : ∃ x, chk (r.out.map blM) = x := ⟨_, rfl⟩
        rw [hx] at KC hck
        have t6 : (x != 0) = true := by rw [bne_iff_ne]; exact hck
        clear hx hck
        go_enter Tryz.func82, Tryz.ntmps82
        go_wp2_with fail
        rw [← hW0]
        clear hW0
        go_wp2_with fail
        refine (KL.out _).mono ?_
        rintro e w1 ⟨rfl, hb⟩
        have B1 := Lib.hid (HB.out.trans (hb.mono HB.out.size))
        have D1 := Lib.hid hb
        have y1 := (hb.cell (p := ⟨w.heap.size, 1, none⟩) l0).trans q1
        have y2 := (hb.cell (p := ⟨w.heap.size, 2, none⟩) l0).trans q2
        have y3 := (hb.cell (p := ⟨w.heap.size, 3, none⟩) l0).trans q3
        have y4 := (hb.cell (p := ⟨w.heap.size, 4, none⟩) l0).trans q4
        have y5 := (hb.cell (p := ⟨w.heap.size, 5, none⟩) l0).trans q5
        have y6 := (hb.cell (p := ⟨w.heap.size, 6, none⟩) l0).trans q6
        clear hb
        go_wp2_with fail
        refine (KG.out _ (HG.out.later D1.out)).mono ?_
        rintro e w2 ⟨rfl, hb⟩
        have B2 := Lib.hid (B1.out.trans (hb.mono B1.out.size))
        have D2 := Lib.hid (D1.out.trans (hb.mono D1.out.size))
        have z1 := (D2.out.cell (p := ⟨w.heap.size, 1, none⟩) l0).trans q1
        have z6 := (D2.out.cell (p := ⟨w.heap.size, 6, none⟩) l0).trans q6
        clear hb
        go_wp2_with fail
        refine (KB.out _ (HO.out.later D2.out)).mono ?_
        rintro e w3 ⟨bv, vs, rfl, hb, hmf⟩
        have B3 := Lib.hid (B2.out.trans (hb.mono B2.out.size))
        have D3 := Lib.hid (D2.out.trans (hb.mono D2.out.size))
        have M3 := Lib.hid hmf.mods
        clear hb hmf
        go_wp2_with fail
        refine (KC.out _ _ M3.out).mono ?_
        rintro e w4 ⟨rfl, hb⟩
        have B4 := Lib.hid (B3.out.trans (hb.mono B3.out.size))
        have D4 := Lib.hid (D3.out.trans (hb.mono D3.out.size))
        have u1 := (D4.out.cell (p := ⟨w.heap.size, 1, none⟩) l0).trans q1
        have u6 := (D4.out.cell (p := ⟨w.heap.size, 6, none⟩) l0).trans q6
        clear hb
        go_wp2_with fail
        go_ret
        exact ⟨ret_bool HF.out.symm, B4.out⟩
      have HCk := Lib.hid hck
      rw [hck] at KC
      clear hck
      go_enter Tryz.func82, Tryz.ntmps82
      go_wp2_with fail
      rw [← hW0]
      clear hW0
      go_wp2_with fail
      refine (KL.out _).mono ?_
      rintro e w1 ⟨rfl, hb⟩
      have B1 := Lib.hid (HB.out.trans (hb.mono HB.out.size))
      have D1 := Lib.hid hb
      have y1 := (hb.cell (p := ⟨w.heap.size, 1, none⟩) l0).trans q1
      have y2 := (hb.cell (p := ⟨w.heap.size, 2, none⟩) l0).trans q2
      have y3 := (hb.cell (p := ⟨w.heap.size, 3, none⟩) l0).trans q3
      have y4 := (hb.cell (p := ⟨w.heap.size, 4, none⟩) l0).trans q4
      have y5 := (hb.cell (p := ⟨w.heap.size, 5, none⟩) l0).trans q5
      have y6 := (hb.cell (p := ⟨w.heap.size, 6, none⟩) l0).trans q6
      clear hb
      go_wp2_with fail
      refine (KG.out _ (HG.out.later D1.out)).mono ?_
      rintro e w2 ⟨rfl, hb⟩
      have B2 := Lib.hid (B1.out.trans (hb.mono B1.out.size))
      have D2 := Lib.hid (D1.out.trans (hb.mono D1.out.size))
      have z1 := (D2.out.cell (p := ⟨w.heap.size, 1, none⟩) l0).trans q1
      have z6 := (D2.out.cell (p := ⟨w.heap.size, 6, none⟩) l0).trans q6
      clear hb
      go_wp2_with fail
      refine (KB.out _ (HO.out.later D2.out)).mono ?_
      rintro e w3 ⟨bv, vs, rfl, hb, hmf⟩
      have B3 := Lib.hid (B2.out.trans (hb.mono B2.out.size))
      have D3 := Lib.hid (D2.out.trans (hb.mono D2.out.size))
      have M3 := Lib.hid hmf.mods
      clear hb hmf
      go_wp2_with fail
      refine (KC.out _ _ M3.out).mono ?_
      rintro e w4 ⟨rfl, hb⟩
      have B4 := Lib.hid (B3.out.trans (hb.mono B3.out.size))
      have D4 := Lib.hid (D3.out.trans (hb.mono D3.out.size))
      have u1 := (D4.out.cell (p := ⟨w.heap.size, 1, none⟩) l0).trans q1
      have u6 := (D4.out.cell (p := ⟨w.heap.size, 6, none⟩) l0).trans q6
      clear hb
      go_wp2_with fail
      have b4z := B4.out.size
      have d4z := D4.out.size
      go_loopw [50] (fun i wr => ∃ k : Nat, k ≤ r.out.length ∧ i = .int .i64 k ∧ Below W0.heap.size W0 wr ∧ ∀ j, (h : j < r.out.length) → j < k → r.out[j].a.all (formB · r.ar) = true) (fun i _ => r.out.length - (intOf i).toNat)
      case atStart => exact ⟨0, Nat.zero_le _, rfl, D4.out, fun j _ h => by omega⟩
      case round =>
        rename World => wo
        obtain ⟨k, hk, rfl, hb, hok⟩ := hrel
        have HK := Lib.hid hok
        have HBr := Lib.hid hb
        have v1 := (hb.cell (p := ⟨w.heap.size, 1, none⟩) l0).trans q1
        have lo : w.heap.size < wo.heap.size := Nat.lt_of_lt_of_le l0 hb.size
        clear hok hb
        by_cases hlt : k < r.out.length
        · obtain ⟨b, off, cap', q, c, hp, e1, e2, hin, lb⟩ := (HO.out.later HBr.out).at hlt
          obtain rfl : po = some ⟨b, off, none⟩ := by cases hp; rfl
          have k1 : (k : Int) < (r.out.length : Int) := by omega
          have HI := Lib.hid hin
          have KF := Lib.hid (fun (w : World) (h : Fms w (.slice q r.out[k].a.length c) r.out[k].a) => allformed_any r.out[k].a (.slice q r.out[k].a.length c) r.ar (by have := (H4.out _ (List.getElem_mem hlt)).1; omega) (fun f hf => by have := (H4.out _ (List.getElem_mem hlt)).2 f hf; omega) w h)
          obtain ⟨t, ht⟩ : ∃ t, r.out[k].a.all (formB · r.ar) = t := ⟨_, rfl⟩
          have HT := Lib.hid ht
          rw [ht] at KF
          generalize r.out[k].c.toNat = ck at e1
          generalize r.out[k].a.length = fl at e2 KF HI
          obtain ⟨W1, hW1⟩ : ∃ W, W = wo.alloc (.cells #[.int .u8 ck, .slice q fl c] 49) := ⟨_, rfl⟩
          have N1 : W1.heap[wo.heap.size]? = some (.cells #[.int .u8 ck, .slice q fl c] 49 (0, 0)) := by rw [hW1]; exact heap_alloc_new _ _
          have b1 : Below wo.heap.size wo W1 := by rw [hW1]; exact (Below.refl _ _).alloc (Nat.le_refl _) _
          have E1 := Lib.hid b1
          have p0 := cell_two0 N1
          have p1 := cell_two1 N1
          have x1 := (b1.cell (p := ⟨w.heap.size, 1, none⟩) lo).trans v1
          clear hp hin ht N1 b1
          cases t with
          | false =>
            have HF := Lib.hid (vb_out hlt HT.out)
            go_wp2_with fail
            rw [← hW1]
            clear hW1
            go_wp2_with fail
            refine (KF.out _ (HI.out.later E1.out)).mono ?_
            rintro e w5 ⟨rfl, hb⟩
            have HB1 := Lib.hid (HB.out.trans ((HBr.out.trans ((E1.out.trans (hb.mono E1.out.size)).mono HBr.out.size)).mono HB.out.size))
            clear hb
            go_wp2_with fail
            go_ret
            exact ⟨ret_bool HF.out.symm, HB1.out⟩
          | true =>
            have HG2 : Hid (∀ j, (h : j < r.out.length) → j < k + 1 → r.out[j].a.all (formB · r.ar) = true) := Lib.hid (fun j h hj => by
              rcases Nat.lt_or_eq_of_le (Nat.le_of_lt_succ hj) with h1 | h1
              · exact HK.out j h h1
              · subst h1; exact HT.out)
            go_wp2_with fail
            rw [← hW1]
            clear hW1
            go_wp2_with fail
            refine (KF.out _ (HI.out.later E1.out)).mono ?_
            rintro e w5 ⟨rfl, hb⟩
            have HB1 := Lib.hid (HBr.out.trans ((E1.out.trans (hb.mono E1.out.size)).mono HBr.out.size))
            clear hb
            go_wp2_with fail
            go_roundw
            case rel => exact ⟨k + 1, by omega, by go_num, HB1.out, HG2.out⟩
            case measure => simp [intOf]; omega
        · obtain rfl : k = r.out.length := by omega
          have HF := Lib.hid (vb_ok HL.out (by omega) (by omega) HP.out HGs.out HCk.out (fun i hi => HK.out i hi hi))
          go_wp2_with fail
          go_ret
          exact ⟨ret_bool HF.out.symm, HB.out.trans (HBr.out.mono HB.out.size)⟩
theorem pr_no {l : List Rw} (h : manyB l = false) {k : Nat} (hk : k < l.length) (h2 : validB l[k] = false) : rchk l = 8 := by
  rw [rchk_valid h, if_neg]
  intro h3
  have := List.all_eq_true.1 h3 _ (List.getElem_mem hk)
  rw [h2] at this; exact absurd this (by decide)
theorem pr_ok {l : List Rw} (h : manyB l = false) (h2 : ∀ k, (hk : k < l.length) → validB l[k] = true) : rchk l = 0 := by
  rw [rchk_valid h, if_pos]
  rw [List.all_eq_true]
  intro x hx
  obtain ⟨j, hj, rfl⟩ := List.mem_iff_getElem.1 hx
  exact h2 j hj
set_option maxRecDepth 100000 in
set_option maxHeartbeats 3200000 in
theorem prcheck_any (v : Value) (l : List Rw) (hmax : l.length ≤ 9223372036854775807) (hs : ∀ r ∈ l, RwSm r) (w : World) (hv : Rws w v l) :
    Calls Tryz.prog 67 #[v] w fun e w' => e = .returned (.int .i64 (rchk l)) ∧ Below w.heap.size w w' := by
  obtain ⟨p, cap, rfl⟩ := hv.slice
  have HV := Lib.hid hv
  have HS := Lib.hid hs
  clear hv hs
  by_cases h40 : 40 < l.length
  · have HF := Lib.hid (rchk_many (many_len h40))
    have c1 : (40 : Int) < (l.length : Int) := by omega
    go_enter Tryz.func67, Tryz.ntmps67
    go_wp2_with fail
    go_ret
    exact ⟨ret_int HF.out.symm, Below.refl _ _⟩
  have c1 : ¬ (40 : Int) < (l.length : Int) := by omega
  go_enter Tryz.func67, Tryz.ntmps67
  go_wp2_with fail
  go_loopw [12] (fun i wr => ∃ k : Nat, k ≤ l.length ∧ i = .int .i64 k ∧ Below w.heap.size w wr ∧ ∀ j, (hj : j < l.length) → j < k → ¬ 4 < l[j].gs.length ∧ ¬ 20 < l[j].out.length) (fun i _ => l.length - (intOf i).toNat)
  case atStart => exact ⟨0, Nat.zero_le _, rfl, Below.refl _ _, fun j _ h => by omega⟩
  case round =>
    rename World => wo
    obtain ⟨k, hk, rfl, hb, hok⟩ := hrel
    have HK := Lib.hid hok
    have HB := Lib.hid hb
    have hbz := hb.size
    clear hok hb
    by_cases hlt : k < l.length
    · obtain ⟨b, off, cap', g, gc, o, oc, hp, lb, hat⟩ := (HV.out.later (HB.out.mono (Nat.le_refl _))).at hlt
      obtain rfl : p = some ⟨b, off, none⟩ := by cases hp; rfl
      have k1 : (k : Int) < (l.length : Int) := by omega
      obtain ⟨e0, e1, e2, e3, e4, e5, e6, _, _⟩ := hat
      have HN : Hid (∀ k', k' = l[k].gs.length → ∀ k'', k'' = l[k].out.length → (4 < k' ∨ 20 < k'' → rchk l = 4) ∧ (¬ 4 < k' → ¬ 20 < k'' → ∀ j, (hj : j < l.length) → j < k + 1 → ¬ 4 < l[j].gs.length ∧ ¬ 20 < l[j].out.length)) := Lib.hid (by
        rintro _ rfl _ rfl
        refine ⟨fun h => rchk_many (many_at hlt h), fun h4 h20 j hj h => ?_⟩
        rcases Nat.lt_or_eq_of_le (Nat.le_of_lt_succ h) with h1 | h1
        · exact HK.out j hj h1
        · subst h1; exact ⟨h4, h20⟩)
      have HN2 := Lib.hid (HN.out _ rfl _ rfl)
      generalize l[k].c.toNat = x0 at e0
      generalize l[k].ar = x1 at e1
      generalize l[k].l.toNat = x2 at e2
      generalize l[k].r.toNat = x3 at e3
      generalize l[k].gs.length = x4 at e4 HN2
      generalize l[k].wt = x5 at e5
      generalize l[k].out.length = x6 at e6 HN2
      obtain ⟨W1, hW1⟩ : ∃ W, W = wo.alloc (.cells #[.int .u8 x0, .int .i64 x1, .int .u8 x2, .int .u8 x3, .slice g x4 gc, .int .i64 x5, .slice o x6 oc] 45) := ⟨_, rfl⟩
      have N1 : W1.heap[wo.heap.size]? = some (.cells #[.int .u8 x0, .int .i64 x1, .int .u8 x2, .int .u8 x3, .slice g x4 gc, .int .i64 x5, .slice o x6 oc] 45 (0, 0)) := by rw [hW1]; exact heap_alloc_new _ _
      have b1 : Below w.heap.size w W1 := by rw [hW1]; exact HB.out.alloc hbz _
      have B1 := Lib.hid b1
      have y4 : W1.cell? ⟨wo.heap.size, 4, none⟩ = some (.slice g x4 gc) := by simp [World.cell?, N1]
      have y6 : W1.cell? ⟨wo.heap.size, 6, none⟩ = some (.slice o x6 oc) := by simp [World.cell?, N1]
      clear hp N1 b1
      by_cases h4 : 4 < x4
      · have HF := Lib.hid (HN2.out.1 (.inl h4))
        have c4 : (4 : Int) < (x4 : Int) := by omega
        go_wp2_with fail
        rw [← hW1]
        clear hW1
        go_wp2_with fail
        go_ret
        exact ⟨ret_int HF.out.symm, B1.out⟩
      · have c4 : ¬ (4 : Int) < (x4 : Int) := by omega
        by_cases h20 : 20 < x6
        · have HF := Lib.hid (HN2.out.1 (.inr h20))
          have c5 : (20 : Int) < (x6 : Int) := by omega
          go_wp2_with fail
          rw [← hW1]
          clear hW1
          go_wp2_with fail
          go_ret
          exact ⟨ret_int HF.out.symm, B1.out⟩
        · have c5 : ¬ (20 : Int) < (x6 : Int) := by omega
          have HG := Lib.hid (HN2.out.2 h4 h20)
          go_wp2_with fail
          rw [← hW1]
          clear hW1
          go_wp2_with fail
          go_roundw
          case rel => exact ⟨k + 1, by omega, by go_num, B1.out, HG.out⟩
          case measure => simp [intOf]; omega
    · obtain rfl : k = l.length := by omega
      have HM := Lib.hid (many_not h40 (fun i hi => HK.out i hi hi))
      clear HK
      go_wp2_with fail
      go_loopw [29] (fun i wr => ∃ k : Nat, k ≤ l.length ∧ i = .int .i64 k ∧ Below w.heap.size w wr ∧ ∀ j, (hj : j < l.length) → j < k → validB l[j] = true) (fun i _ => l.length - (intOf i).toNat)
      case atStart => exact ⟨0, Nat.zero_le _, rfl, HB.out, fun j _ h => by omega⟩
      case round =>
        rename World => wi
        obtain ⟨k, hk, rfl, hb, hok⟩ := hrel
        have HK := Lib.hid hok
        have HBi := Lib.hid hb
        have hbz2 := hb.size
        clear hok hb
        by_cases hlt : k < l.length
        · obtain ⟨b, off, cap', g, gc, o, oc, hp, lb, hat⟩ := (HV.out.later (HBi.out.mono (Nat.le_refl _))).at hlt
          obtain rfl : p = some ⟨b, off, none⟩ := by cases hp; rfl
          have k1 : (k : Int) < (l.length : Int) := by omega
          have HCw : Hid (∀ w', Below wi.heap.size wi w' → Calls Tryz.prog 82 #[.agg #[.int .u8 l[k].c.toNat, .int .i64 l[k].ar, .int .u8 l[k].l.toNat, .int .u8 l[k].r.toNat, .slice g l[k].gs.length gc, .int .i64 l[k].wt, .slice o l[k].out.length oc]] w' fun e w'' => e = .returned (.bool (validB l[k])) ∧ Below w'.heap.size w' w'') :=
            Lib.hid (fun w' hb => pvalid_any l[k] _ _ (HS.out _ (List.getElem_mem hlt)) w' (hat.gs.later hb) (hat.out.later hb))
          obtain ⟨t, ht⟩ : ∃ t, validB l[k] = t := ⟨_, rfl⟩
          have HT := Lib.hid ht
          rw [ht] at HCw
          obtain ⟨e0, e1, e2, e3, e4, e5, e6, _, _⟩ := hat
          generalize l[k].c.toNat = x0 at e0 HCw
          generalize l[k].ar = x1 at e1 HCw
          generalize l[k].l.toNat = x2 at e2 HCw
          generalize l[k].r.toNat = x3 at e3 HCw
          generalize l[k].gs.length = x4 at e4 HCw
          generalize l[k].wt = x5 at e5 HCw
          generalize l[k].out.length = x6 at e6 HCw
          obtain ⟨W1, hW1⟩ : ∃ W, W = wi.alloc (.cells #[.int .u8 x0, .int .i64 x1, .int .u8 x2, .int .u8 x3, .slice g x4 gc, .int .i64 x5, .slice o x6 oc] 45) := ⟨_, rfl⟩
          have N1 : W1.heap[wi.heap.size]? = some (.cells #[.int .u8 x0, .int .i64 x1, .int .u8 x2, .int .u8 x3, .slice g x4 gc, .int .i64 x5, .slice o x6 oc] 45 (0, 0)) := by rw [hW1]; exact heap_alloc_new _ _
          have b1 : Below wi.heap.size wi W1 := by rw [hW1]; exact (Below.refl _ _).alloc (Nat.le_refl _) _
          have E1 := Lib.hid b1
          have y0 : W1.cell? ⟨wi.heap.size, 0, none⟩ = some (.int .u8 x0) := by simp [World.cell?, N1]
          have y1 : W1.cell? ⟨wi.heap.size, 1, none⟩ = some (.int .i64 x1) := by simp [World.cell?, N1]
          have y2 : W1.cell? ⟨wi.heap.size, 2, none⟩ = some (.int .u8 x2) := by simp [World.cell?, N1]
          have y3 : W1.cell? ⟨wi.heap.size, 3, none⟩ = some (.int .u8 x3) := by simp [World.cell?, N1]
          have y4 : W1.cell? ⟨wi.heap.size, 4, none⟩ = some (.slice g x4 gc) := by simp [World.cell?, N1]
          have y5 : W1.cell? ⟨wi.heap.size, 5, none⟩ = some (.int .i64 x5) := by simp [World.cell?, N1]
          have y6 : W1.cell? ⟨wi.heap.size, 6, none⟩ = some (.slice o x6 oc) := by simp [World.cell?, N1]
          clear hp ht N1 b1
          cases t with
          | false =>
            have HF := Lib.hid (pr_no HM.out hlt HT.out)
            go_wp2_with fail
            rw [← hW1]
            clear hW1
            go_wp2_with fail
            refine (HCw.out _ E1.out).mono ?_
            rintro e w5 ⟨rfl, hb⟩
            have HB1 := Lib.hid (HBi.out.trans ((E1.out.trans (hb.mono E1.out.size)).mono HBi.out.size))
            clear hb
            go_wp2_with fail
            go_ret
            exact ⟨ret_int HF.out.symm, HB1.out⟩
          | true =>
            have HG2 : Hid (∀ j, (hj : j < l.length) → j < k + 1 → validB l[j] = true) := Lib.hid (fun j h hj => by
              rcases Nat.lt_or_eq_of_le (Nat.le_of_lt_succ hj) with h1 | h1
              · exact HK.out j h h1
              · subst h1; exact HT.out)
            go_wp2_with fail
            rw [← hW1]
            clear hW1
            go_wp2_with fail
            refine (HCw.out _ E1.out).mono ?_
            rintro e w5 ⟨rfl, hb⟩
            have HB1 := Lib.hid (HBi.out.trans ((E1.out.trans (hb.mono E1.out.size)).mono HBi.out.size))
            clear hb
            go_wp2_with fail
            go_roundw
            case rel => exact ⟨k + 1, by omega, by go_num, HB1.out, HG2.out⟩
            case measure => simp [intOf]; omega
        · obtain rfl : k = l.length := by omega
          have HF := Lib.hid (pr_ok HM.out (fun i hi => HK.out i hi hi))
          go_wp2_with fail
          go_ret
          exact ⟨ret_int HF.out.symm, HBi.out⟩
end Go.Proofs.YtlmofdmbcddddaaGreatDoor
