/-
  Texts of the proof, merged: PConRefE, PConPrF, PRewPrD, PRewPrF, PRewPrG.
-/
import Derived.Test.YtcoljbcjnggagaaPContextFindsProofM10
import Derived.Test.YtcoljbcjnggagaaPContextFindsProofM3
import Derived.Lib.QuietBelow
import Derived.Test.YtcoljbcjnggagaaPContextFindsProofM11
import Derived.Test.YtcoljbcjnggagaaPContextFindsProofM6
namespace Go.Proofs.Ytcoljbcjnggagaa
open Go.RowKit
open WM RM CM
set_option linter.unusedVariables false
set_option linter.unusedSimpArgs false

/-- The error of rules and a word. -/
def chB (g : Bs) (l : List Rw) (u : List Md) : Int := if cchk g l ≠ 0 then cchk g l else chk u
theorem chB_zero {g : Bs} {l : List Rw} {u : List Md} (h : chB g l u = 0) : cchk g l = 0 ∧ chk u = 0 := by
  unfold chB at h
  by_cases h0 : cchk g l = 0
  · rw [if_neg (by simp [h0])] at h; exact ⟨h0, h⟩
  · rw [if_pos h0] at h; exact absurd h h0
theorem chB_ok {g : Bs} {l : List Rw} {u : List Md} (h0 : cchk g l = 0) : chB g l u = chk u := by unfold chB; rw [if_neg (by simp [h0])]
theorem chB_no {g : Bs} {l : List Rw} {u : List Md} (h0 : cchk g l ≠ 0) : chB g l u = cchk g l := by unfold chB; rw [if_pos h0]
set_option maxRecDepth 100000 in
set_option maxHeartbeats 1600000 in
theorem refcboth_any (v : Value) (l : List Rw) (hmax : l.length ≤ 9223372036854775807) (hs : ∀ r ∈ l, RwSm r) (s : ByteArray) (hss : s.size ≤ 9223372036854775807) (wv : Value) (u : List Md) (hu : u.length ≤ 2100) (hua : ∀ m ∈ u, m.a.length ≤ 10) (w : World) (hv : Rws w v l) (hw : Mods w wv u) :
    Calls Try.prog 31 #[v, .string s, wv] w fun e w' => e = .returned (.int .i64 (chB (lA s) l u)) ∧ Below w.heap.size w w' := by
  have KC := Lib.hid (fun w h => refccheck_any v l hmax hs s hss w h)
  have KW := Lib.hid (fun w h => check_any wv u hu hua w h)
  obtain ⟨p, cap, rfl⟩ := hv.slice
  obtain ⟨p2, cap2, rfl⟩ := hw.slice
  have HV := Lib.hid hv
  have HW := Lib.hid hw
  clear hv hw
  generalize lA s = g at KC ⊢
  by_cases h0 : cchk g l = 0
  · rw [chB_ok h0]
    rw [h0] at KC
    clear h0
    generalize chk u = c at KW ⊢
    go_enter Try.func31, Try.ntmps31
    go_wp2_with fail
    refine (KC.out _ HV.out).mono ?_
    rintro e w1 ⟨rfl, hb⟩
    have B1 := Lib.hid hb
    clear hb
    go_wp2_with fail
    refine (KW.out _ (HW.out.later B1.out)).mono ?_
    rintro e w2 ⟨rfl, hb⟩
    have B2 := Lib.hid (B1.out.trans (hb.mono B1.out.size))
    clear hb
    go_wp2_with fail
    go_ret
    exact ⟨rfl, B2.out⟩
  · rw [chB_no h0]
    generalize cchk g l = c at KC h0 ⊢
    have t0 : (c != 0) = true := by rw [bne_iff_ne]; exact h0
    clear h0
    go_enter Try.func31, Try.ntmps31
    go_wp2_with fail
    refine (KC.out _ HV.out).mono ?_
    rintro e w1 ⟨rfl, hb⟩
    have B1 := Lib.hid hb
    clear hb
    go_wp2_with fail
    refine (KC.out _ (HV.out.later B1.out)).mono ?_
    rintro e w2 ⟨rfl, hb⟩
    have B2 := Lib.hid (B1.out.trans (hb.mono B1.out.size))
    clear hb
    go_wp2_with fail
    go_ret
    exact ⟨rfl, B2.out⟩
/-- How the search stands. -/
def CFAt (g : Bs) (l : List Rw) (u : List Md) (i k : Nat) : Prop := cfirst g l u i = fstF (cfitB g u i) (l.drop k) (k : Int)
theorem cfAt_start (g : Bs) (l : List Rw) (u : List Md) (i : Nat) : CFAt g l u i 0 := rfl
theorem cfAt_yes {g : Bs} {l : List Rw} {u : List Md} {i k : Nat} (hk : k < l.length) (h : CFAt g l u i k) (hf : cfitB g u i l[k] = true) : cfirst g l u i = (k : Int) := by
  unfold CFAt at h; rw [h, fstF_drop hk, if_pos hf]
theorem cfAt_no {g : Bs} {l : List Rw} {u : List Md} {i k : Nat} (hk : k < l.length) (h : CFAt g l u i k) (hf : cfitB g u i l[k] = false) : CFAt g l u i (k + 1) := by
  unfold CFAt at h ⊢; rw [h, fstF_drop hk, if_neg (by rw [hf]; decide)]
theorem cfAt_end {g : Bs} {l : List Rw} {u : List Md} {i : Nat} (h : CFAt g l u i l.length) : cfirst g l u i = -1 := by
  unfold CFAt at h; rw [h, fstF_end (Nat.le_refl _)]
theorem bef_rng {g : Bs} {u : List Md} {i : Nat} (hi : i < u.length) : -1 ≤ bef g u i ∧ bef g u i < u.length := by
  unfold bef
  rcases bf_rng (g := g) (u := u) i 0 with h | ⟨a, h, ha, _⟩ <;> omega
theorem beh_rng {g : Bs} {u : List Md} {i : Nat} (hi : i < u.length) : -1 ≤ beh g u i ∧ beh g u i < u.length := by
  unfold beh
  rcases bh_rng (g := g) (u := u) (u.length - (i + 1)) (i + 1) 0 (by omega) with h | ⟨a, h, _, ha, _⟩ <;> omega
set_option maxRecDepth 100000 in
set_option maxHeartbeats 6400000 in
theorem crefirst_any (v : Value) (l : List Rw) (hmax : l.length ≤ 9223372036854775807) (hru : ∀ r ∈ l, ruleB r = true ∧ r.gs.length ≤ 9223372036854775807) (s : ByteArray) (hss : s.size ≤ 9223372036854775807)
    (wv : Value) (u : List Md) (hu : u.length ≤ 50000) (huf : ∀ m ∈ u, fineB m = true) (i : Nat) (hi : i < u.length) (w : World) (hv : Rws w v l) (hw : Mods w wv u) :
    Calls Try.prog 32 #[v, .string s, wv, .int .i64 (i : Int)] w fun e w' => e = .returned (.int .i64 (cfirst (lA s) l u i)) ∧ Below w.heap.size w w' := by
  obtain ⟨p, cap, rfl⟩ := hv.slice
  obtain ⟨p2, cap2, rfl⟩ := hw.slice
  have HV := Lib.hid hv
  have HW := Lib.hid hw
  have KP := Lib.hid (fun w => refplain_any u[i].c w)
  have KBf := Lib.hid (fun w h => refbefore_any (.slice p2 u.length cap2) u hu i (by omega) s hss w h)
  have KBh := Lib.hid (fun w h => refbehind_any (.slice p2 u.length cap2) u hu i hi s hss w h)
  have KN := Lib.hid (fun (k : Int) hk c w h => refnamed_any (.slice p2 u.length cap2) u hu k hk c w h)
  have HRu := Lib.hid hru
  have HFi := Lib.hid (huf _ (List.getElem_mem hi))
  clear hv hw hru huf
  generalize lA s = g at KBf KBh ⊢
  have i1 : (i : Int) < (u.length : Int) := by omega
  have hmd := md_get hi
  have HBl := Lib.hid (bef_rng (g := g) hi)
  have HBr0 := Lib.hid (beh_rng (g := g) hi)
  have HQ : Hid (∀ r, cfitB g u i r = (fitB r u[i] && nbB u (bef g u i) r.l && nbB u (beh g u i) r.r)) := Lib.hid (fun r => by unfold cfitB; rw [hmd])
  have HBra : Hid (plnB u[i].c = false → cfirst g l u i = -1) := Lib.hid (fun h => cfirst_bra (fun r hr => (HRu.out r hr).1) (by rw [hmd]; exact h))
  obtain ⟨tp, htp⟩ : ∃ t, plnB u[i].c = t := ⟨_, rfl⟩
  rw [htp] at KP HBra
  clear htp hmd
  go_enter Try.func32, Try.ntmps32
  go_wp2_with fail
  go_loopw [9] (fun k wr => ∃ k' : Nat, k' ≤ l.length ∧ k = .int .i64 k' ∧ Below w.heap.size w wr ∧ CFAt g l u i k') (fun k _ => l.length - (intOf k).toNat)
  case atStart => exact ⟨0, Nat.zero_le _, rfl, Below.refl _ _, cfAt_start _ _ _ _⟩
  case round =>
    obtain ⟨k, hk, rfl, hb, hok⟩ := hrel
    have HK := Lib.hid hok
    have HBr := Lib.hid hb
    clear hok hb
    by_cases hlt : k < l.length
    · have k1 : (k : Int) < (l.length : Int) := by omega
      obtain ⟨bw, ow, cw, q, qc, hp2, y0, y1, hin, lbw⟩ := (HW.out.later HBr.out).at hi
      obtain rfl : p2 = some ⟨bw, ow, none⟩ := by cases hp2; rfl
      have HIn := Lib.hid hin
      clear hp2 hin
      cases tp with
      | false =>
        have HF := Lib.hid (HBra.out rfl)
        generalize u[i].c.toNat = xc at y0 KP
        go_wp2_with fail
        refine (KP.out _).mono ?_
        rintro e wx ⟨rfl, rfl⟩
        go_wp2_with fail
        go_ret
        exact ⟨ret_int HF.out.symm, HBr.out⟩
      | true =>
        obtain ⟨b, off, cap', gg, gc, o, oc, hp, lb, hat⟩ := (HV.out.later HBr.out).at hlt
        obtain rfl : p = some ⟨b, off, none⟩ := by cases hp; rfl
        obtain ⟨g1, g2⟩ := HRu.out _ (List.getElem_mem hlt)
        have HCw : Hid (∀ (d' : Nat) (os : Array Obj), Calls Try.prog 53 #[.agg #[.int .u8 l[k].c.toNat, .int .i64 l[k].ar, .int .u8 l[k].l.toNat, .int .u8 l[k].r.toNat, .slice gg l[k].gs.length gc, .int .i64 l[k].wt, .slice o l[k].out.length oc], .agg #[.int .u8 u[i].c.toNat, .slice q u[i].a.length qc]] («Sort».grow (redrawn wr d') os) fun e w' =>
            e = .returned (.bool (fitB l[k] u[i])) ∧ Below («Sort».grow (redrawn wr d') os).heap.size («Sort».grow (redrawn wr d') os) w') :=
          Lib.hid (fun d' os => reffits_any l[k] u[i] _ _ _ (rule_guards g1) HFi.out g2 _ (hat.gs.later (below_regrown wr d' os)) (HIn.out.later (below_regrown wr d' os)))
        have KB : Hid (∀ (d' : Nat) (os : Array Obj), Calls Try.prog 25 #[.slice (some ⟨bw, ow, none⟩) u.length cap2, .int .i64 (i : Int), .string s] («Sort».grow (redrawn wr d') os) fun e w' => e = .returned (.int .i64 (bef g u i)) ∧ Below («Sort».grow (redrawn wr d') os).heap.size («Sort».grow (redrawn wr d') os) w') :=
          Lib.hid (fun d' os => (KBf.out _ ((HW.out.later HBr.out).later (below_regrown wr d' os))).mono fun _ _ h => ⟨h.1, by rw [← h.2]; exact Below.refl _ _⟩)
        have KF : Hid (∀ (d' : Nat) (os : Array Obj), Calls Try.prog 27 #[.slice (some ⟨bw, ow, none⟩) u.length cap2, .int .i64 (i : Int), .string s] («Sort».grow (redrawn wr d') os) fun e w' => e = .returned (.int .i64 (beh g u i)) ∧ Below («Sort».grow (redrawn wr d') os).heap.size («Sort».grow (redrawn wr d') os) w') :=
          Lib.hid (fun d' os => (KBh.out _ ((HW.out.later HBr.out).later (below_regrown wr d' os))).mono fun _ _ h => ⟨h.1, by rw [← h.2]; exact Below.refl _ _⟩)
        have KL : Hid (∀ (d' : Nat) (os : Array Obj), Calls Try.prog 54 #[.slice (some ⟨bw, ow, none⟩) u.length cap2, .int .i64 (bef g u i), .int .u8 l[k].l.toNat] («Sort».grow (redrawn wr d') os) fun e w' => e = .returned (.bool (nbB u (bef g u i) l[k].l)) ∧ Below («Sort».grow (redrawn wr d') os).heap.size («Sort».grow (redrawn wr d') os) w') :=
          Lib.hid (fun d' os => (KN.out _ HBl.out l[k].l _ ((HW.out.later HBr.out).later (below_regrown wr d' os))).mono fun _ _ h => ⟨h.1, by rw [h.2]; exact Below.refl _ _⟩)
        have KR : Hid (∀ (d' : Nat) (os : Array Obj), Calls Try.prog 54 #[.slice (some ⟨bw, ow, none⟩) u.length cap2, .int .i64 (beh g u i), .int .u8 l[k].r.toNat] («Sort».grow (redrawn wr d') os) fun e w' => e = .returned (.bool (nbB u (beh g u i) l[k].r)) ∧ Below («Sort».grow (redrawn wr d') os).heap.size («Sort».grow (redrawn wr d') os) w') :=
          Lib.hid (fun d' os => (KN.out _ HBr0.out l[k].r _ ((HW.out.later HBr.out).later (below_regrown wr d' os))).mono fun _ _ h => ⟨h.1, by rw [h.2]; exact Below.refl _ _⟩)
        have HQk := Lib.hid (HQ.out l[k])
        have HYes := Lib.hid (cfAt_yes hlt HK.out)
        have HNo := Lib.hid (cfAt_no hlt HK.out)
        obtain ⟨e0, e1, e2, e3, e4, e5, e6, _, _⟩ := hat
        generalize cfitB g u i l[k] = tq at HQk HYes HNo
        generalize fitB l[k] u[i] = t1 at HCw HQk
        generalize nbB u (bef g u i) l[k].l = t2 at KL HQk
        generalize nbB u (beh g u i) l[k].r = t3 at KR HQk
        generalize bef g u i = zb at KB KL
        generalize beh g u i = zf at KF KR
        generalize u[i].c.toNat = xc at y0 KP HCw
        generalize u[i].a.length = xl at y1 HCw
        generalize l[k].c.toNat = x0 at e0 HCw
        generalize l[k].ar = x1 at e1 HCw
        generalize l[k].l.toNat = x2 at e2 HCw KL
        generalize l[k].r.toNat = x3 at e3 HCw KR
        generalize l[k].gs.length = x4 at e4 HCw
        generalize l[k].wt = x5 at e5 HCw
        generalize l[k].out.length = x6 at e6 HCw
        clear hp g1 g2
        have r0 := fun d os => cell_regrown e0 d os
        have r1 := fun d os => cell_regrown e1 d os
        have r2 := fun d os => cell_regrown e2 d os
        have r3 := fun d os => cell_regrown e3 d os
        have r4 := fun d os => cell_regrown e4 d os
        have r5 := fun d os => cell_regrown e5 d os
        have r6 := fun d os => cell_regrown e6 d os
        have r7 := fun d os => cell_regrown y0 d os
        have r8 := fun d os => cell_regrown y1 d os
        cases t1 with
        | false =>
          obtain rfl : tq = false := HQk.out
          have HN := Lib.hid (HNo.out rfl)
          go_wp2_with fail
          refine (KP.out _).mono ?_
          rintro e wx ⟨rfl, rfl⟩
          go_wp2_with fail
          (refine wp_region_quiet_below (by kernel_rfl) (by kernel_rfl) ?_; repeat (any_goals (first | go_big_quiet_step ((first | (go_at_call 53; exact Calls.regrown_of (HCw.out _ _)) | (go_at_call 25; exact Calls.regrown_of (KB.out _ _)) | (go_at_call 27; exact Calls.regrown_of (KF.out _ _)) | (go_at_call 54; first | (with_reducible refine Calls.regrown_of (KL.out _ _)) | (with_reducible refine Calls.regrown_of (KR.out _ _))))) | quiet_step ((first | (go_at_call 53; exact Calls.regrown_of (HCw.out _ _)) | (go_at_call 25; exact Calls.regrown_of (KB.out _ _)) | (go_at_call 27; exact Calls.regrown_of (KF.out _ _)) | (go_at_call 54; first | (with_reducible refine Calls.regrown_of (KL.out _ _)) | (with_reducible refine Calls.regrown_of (KR.out _ _))))))))
          (refine wpQuiet_nil ?_; intro _ hw'; obtain ⟨⟨dq, osq⟩, hw''⟩ := hw'; subst hw''; have HB2 : Hid (Below w.heap.size w («Sort».grow (redrawn wr dq) osq)) := Lib.hid (HBr.out.trans ((below_regrown wr dq osq).mono HBr.out.size)))
          go_wp2_with fail
          go_roundw
          case rel => exact ⟨k + 1, by omega, by go_num, HB2.out, HN.out⟩
          case measure => first | (simp [intOf]; done) | (simp [intOf]; omega)
        | true =>
          cases t2 with
          | false =>
            obtain rfl : tq = false := HQk.out
            have HN := Lib.hid (HNo.out rfl)
            go_wp2_with fail
            refine (KP.out _).mono ?_
            rintro e wx ⟨rfl, rfl⟩
            go_wp2_with fail
            (refine wp_region_quiet_below (by kernel_rfl) (by kernel_rfl) ?_; repeat (any_goals (first | go_big_quiet_step ((first | (go_at_call 53; exact Calls.regrown_of (HCw.out _ _)) | (go_at_call 25; exact Calls.regrown_of (KB.out _ _)) | (go_at_call 27; exact Calls.regrown_of (KF.out _ _)) | (go_at_call 54; first | (with_reducible refine Calls.regrown_of (KL.out _ _)) | (with_reducible refine Calls.regrown_of (KR.out _ _))))) | quiet_step ((first | (go_at_call 53; exact Calls.regrown_of (HCw.out _ _)) | (go_at_call 25; exact Calls.regrown_of (KB.out _ _)) | (go_at_call 27; exact Calls.regrown_of (KF.out _ _)) | (go_at_call 54; first | (with_reducible refine Calls.regrown_of (KL.out _ _)) | (with_reducible refine Calls.regrown_of (KR.out _ _))))))))
            (refine wpQuiet_nil ?_; intro _ hw'; obtain ⟨⟨dq, osq⟩, hw''⟩ := hw'; subst hw''; have HB2 : Hid (Below w.heap.size w («Sort».grow (redrawn wr dq) osq)) := Lib.hid (HBr.out.trans ((below_regrown wr dq osq).mono HBr.out.size)))
            go_wp2_with fail
            go_roundw
            case rel => exact ⟨k + 1, by omega, by go_num, HB2.out, HN.out⟩
            case measure => first | (simp [intOf]; done) | (simp [intOf]; omega)
          | true =>
            cases t3 with
            | false =>
              obtain rfl : tq = false := HQk.out
              have HN := Lib.hid (HNo.out rfl)
              go_wp2_with fail
              refine (KP.out _).mono ?_
              rintro e wx ⟨rfl, rfl⟩
              go_wp2_with fail
              (refine wp_region_quiet_below (by kernel_rfl) (by kernel_rfl) ?_; repeat (any_goals (first | go_big_quiet_step ((first | (go_at_call 53; exact Calls.regrown_of (HCw.out _ _)) | (go_at_call 25; exact Calls.regrown_of (KB.out _ _)) | (go_at_call 27; exact Calls.regrown_of (KF.out _ _)) | (go_at_call 54; first | (with_reducible refine Calls.regrown_of (KL.out _ _)) | (with_reducible refine Calls.regrown_of (KR.out _ _))))) | quiet_step ((first | (go_at_call 53; exact Calls.regrown_of (HCw.out _ _)) | (go_at_call 25; exact Calls.regrown_of (KB.out _ _)) | (go_at_call 27; exact Calls.regrown_of (KF.out _ _)) | (go_at_call 54; first | (with_reducible refine Calls.regrown_of (KL.out _ _)) | (with_reducible refine Calls.regrown_of (KR.out _ _))))))))
              (refine wpQuiet_nil ?_; intro _ hw'; obtain ⟨⟨dq, osq⟩, hw''⟩ := hw'; subst hw''; have HB2 : Hid (Below w.heap.size w («Sort».grow (redrawn wr dq) osq)) := Lib.hid (HBr.out.trans ((below_regrown wr dq osq).mono HBr.out.size)))
              go_wp2_with fail
              go_roundw
              case rel => exact ⟨k + 1, by omega, by go_num, HB2.out, HN.out⟩
              case measure => first | (simp [intOf]; done) | (simp [intOf]; omega)
            | true =>
              obtain rfl : tq = true := HQk.out
              have HN := Lib.hid (HYes.out rfl)
              go_wp2_with fail
              refine (KP.out _).mono ?_
              rintro e wx ⟨rfl, rfl⟩
              go_wp2_with fail
              (refine wp_region_quiet_below (by kernel_rfl) (by kernel_rfl) ?_; repeat (any_goals (first | go_big_quiet_step ((first | (go_at_call 53; exact Calls.regrown_of (HCw.out _ _)) | (go_at_call 25; exact Calls.regrown_of (KB.out _ _)) | (go_at_call 27; exact Calls.regrown_of (KF.out _ _)) | (go_at_call 54; first | (with_reducible refine Calls.regrown_of (KL.out _ _)) | (with_reducible refine Calls.regrown_of (KR.out _ _))))) | quiet_step ((first | (go_at_call 53; exact Calls.regrown_of (HCw.out _ _)) | (go_at_call 25; exact Calls.regrown_of (KB.out _ _)) | (go_at_call 27; exact Calls.regrown_of (KF.out _ _)) | (go_at_call 54; first | (with_reducible refine Calls.regrown_of (KL.out _ _)) | (with_reducible refine Calls.regrown_of (KR.out _ _))))))))
              (refine wpQuiet_nil ?_; intro _ hw'; obtain ⟨⟨dq, osq⟩, hw''⟩ := hw'; subst hw''; have HB2 : Hid (Below w.heap.size w («Sort».grow (redrawn wr dq) osq)) := Lib.hid (HBr.out.trans ((below_regrown wr dq osq).mono HBr.out.size)))
              go_wp2_with fail
              go_ret
              exact ⟨ret_int HN.out.symm, HB2.out⟩
    · obtain rfl : k = l.length := by omega
      have HF := Lib.hid (cfAt_end HK.out)
      have k1 : ¬ (l.length : Int) < (l.length : Int) := by omega
      go_wp2_with fail
      go_ret
      exact ⟨ret_int HF.out.symm, HBr.out⟩
end Go.Proofs.Ytcoljbcjnggagaa
namespace Go.Proofs.Ytcoljbcjnggagaa
open Go.RowKit
open WM RM CM
set_option linter.unusedVariables false
set_option linter.unusedSimpArgs false

theorem ck_rules {g : Bs} {l : List Rw} (h : rchk (l.map bareR) ≠ 0) : cchk g l = rchk (l.map bareR) := by rw [cchk_eq, if_pos h]
theorem ck_ask {g : Bs} {l : List Rw} (h : rchk (l.map bareR) = 0) {k : Nat} (hk : k < l.length) (h2 : askB l[k] = false) : cchk g l = 8 := by
  rw [cchk_eq, if_neg (by simp [h]), if_neg]
  rw [List.all_eq_true]
  intro hh
  have := hh _ (List.getElem_mem hk)
  rw [h2] at this; simp at this
theorem ck_end {g : Bs} {l : List Rw} (h : rchk (l.map bareR) = 0) (h2 : ∀ k, (hk : k < l.length) → askB l[k] = true) : cchk g l = if ignB g = true then 0 else 8 := by
  rw [cchk_eq, if_neg (by simp [h]), if_pos]
  rw [List.all_eq_true]
  intro x hx
  obtain ⟨k, hk, rfl⟩ := List.mem_iff_getElem.1 hx
  exact h2 k hk
theorem sm_bare {l : List Rw} (hs : ∀ r ∈ l, RwSm r) : ∀ r ∈ l.map bareR, RwSm r := by
  intro r hr
  obtain ⟨x, hx, rfl⟩ := List.mem_map.1 hr
  exact hs x hx
set_option maxRecDepth 100000 in
set_option maxHeartbeats 3200000 in
theorem pccheck_any (v : Value) (l : List Rw) (hmax : l.length ≤ 50) (hs : ∀ r ∈ l, RwSm r) (s : ByteArray) (hss : s.size ≤ 9223372036854775807) (w : World) (hv : Rws w v l) (hn : NilOr v) :
    Calls Try.prog 13 #[v, .string s] w fun e w' => e = .returned (.int .i64 (cchk (lA s) l)) ∧ Below w.heap.size w w' := by
  have KA := Lib.hid (alone_any v l hmax w hv hn)
  have KC := Lib.hid (fun v' w h => prcheck_any v' (l.map bareR) (by rw [List.length_map]; omega) (sm_bare hs) w h)
  have KI := Lib.hid (fun w => cignorable_any s hss w)
  have KL := Lib.hid caskable_any
  obtain ⟨p, cap, rfl⟩ := hv.slice
  have HV := Lib.hid hv
  clear hv hs hn
  generalize lA s = gg at KI ⊢
  by_cases h0 : rchk (l.map bareR) = 0
  · rw [h0] at KC
    have H0 := Lib.hid h0
    clear h0
    go_enter Try.func13, Try.ntmps13
    go_wp2_with fail
    refine KA.out.mono ?_
    rintro e w1 ⟨v1, rfl, hb, hr1⟩
    have B1 := Lib.hid hb
    have R1 := Lib.hid hr1
    clear hb hr1
    go_wp2_with fail
    refine (KC.out _ _ R1.out).mono ?_
    rintro e w2 ⟨rfl, hb⟩
    have B2 := Lib.hid (B1.out.trans (hb.mono B1.out.size))
    clear hb
    go_wp2_with fail
    go_loopw [16] (fun i wr => ∃ k : Nat, k ≤ l.length ∧ i = .int .i64 k ∧ Below w.heap.size w wr ∧ ∀ j, (hj : j < l.length) → j < k → askB l[j] = true) (fun i _ => l.length - (intOf i).toNat)
    case atStart => exact ⟨0, Nat.zero_le _, rfl, B2.out, fun j _ h => by omega⟩
    case round =>
      rename World => wo
      obtain ⟨k, hk, rfl, hb, hok⟩ := hrel
      have HK := Lib.hid hok
      have HB := Lib.hid hb
      have hbz := hb.size
      clear hok hb
      by_cases hlt : k < l.length
      · obtain ⟨b, off, cap', g, gc, o, oc, hp, lb, hat⟩ := (HV.out.later HB.out).at hlt
        obtain rfl : p = some ⟨b, off, none⟩ := by cases hp; rfl
        have k1 : (k : Int) < (l.length : Int) := by omega
        have HA : Hid (askB l[k] = (askcB l[k].l && askcB l[k].r)) := Lib.hid rfl
        have KL1 : Hid (∀ w, Calls Try.prog 35 #[.int .u8 l[k].l.toNat] w fun e w' => e = .returned (.bool (askcB l[k].l)) ∧ Below w.heap.size w w') := Lib.hid (fun w => KL.out l[k].l w)
        have KR1 : Hid (∀ w, Calls Try.prog 35 #[.int .u8 l[k].r.toNat] w fun e w' => e = .returned (.bool (askcB l[k].r)) ∧ Below w.heap.size w w') := Lib.hid (fun w => KL.out l[k].r w)
        have HBad := Lib.hid (ck_ask (g := gg) H0.out hlt)
        have HGd : Hid (askB l[k] = true → ∀ j, (hj : j < l.length) → j < k + 1 → askB l[j] = true) := Lib.hid (fun h2 j hj h => by
          rcases Nat.lt_or_eq_of_le (Nat.le_of_lt_succ h) with h1 | h1
          · exact HK.out j hj h1
          · subst h1; exact h2)
        obtain ⟨e0, e1, e2, e3, e4, e5, e6, _, _⟩ := hat
        generalize askB l[k] = ta at HA HBad HGd
        generalize askcB l[k].l = tl at KL1 HA
        generalize askcB l[k].r = tr at KR1 HA
        generalize l[k].c.toNat = x0 at e0
        generalize l[k].ar = x1 at e1
        generalize l[k].l.toNat = x2 at e2 KL1
        generalize l[k].r.toNat = x3 at e3 KR1
        generalize l[k].gs.length = x4 at e4
        generalize l[k].wt = x5 at e5
        generalize l[k].out.length = x6 at e6
        obtain ⟨W1, hW1⟩ : ∃ W, W = wo.alloc (.cells #[.int .u8 x0, .int .i64 x1, .int .u8 x2, .int .u8 x3, .slice g x4 gc, .int .i64 x5, .slice o x6 oc] 48) := ⟨_, rfl⟩
        have N1 : W1.heap[wo.heap.size]? = some (.cells #[.int .u8 x0, .int .i64 x1, .int .u8 x2, .int .u8 x3, .slice g x4 gc, .int .i64 x5, .slice o x6 oc] 48 (0, 0)) := by rw [hW1]; exact heap_alloc_new _ _
        have b1 : Below w.heap.size w W1 := by rw [hW1]; exact HB.out.alloc hbz _
        have D1 := Lib.hid b1
        have q2 : W1.cell? ⟨wo.heap.size, 2, none⟩ = some (.int .u8 x2) := by simp [World.cell?, N1]
        have q3 : W1.cell? ⟨wo.heap.size, 3, none⟩ = some (.int .u8 x3) := by simp [World.cell?, N1]
        have lw := lt_of_block N1
        clear hp N1 b1
        cases tl with
        | false =>
          obtain rfl : ta = false := HA.out
          have HF := Lib.hid (HBad.out rfl)
          go_wp2_with fail
          rw [← hW1]
          clear hW1
          go_wp2_with fail
          refine (KL1.out _).mono ?_
          rintro e w3 ⟨rfl, hb⟩
          have D2 := Lib.hid (D1.out.trans (hb.mono D1.out.size))
          have y3 := (hb.cell (p := ⟨wo.heap.size, 3, none⟩) lw).trans q3
          clear hb
          have HB2 := Lib.hid D2.out
          go_wp2_with fail
          go_ret
          exact ⟨ret_int HF.out.symm, HB2.out⟩
        | true =>
          cases tr with
          | false =>
            obtain rfl : ta = false := HA.out
            have HF := Lib.hid (HBad.out rfl)
            go_wp2_with fail
            rw [← hW1]
            clear hW1
            go_wp2_with fail
            refine (KL1.out _).mono ?_
            rintro e w3 ⟨rfl, hb⟩
            have D2 := Lib.hid (D1.out.trans (hb.mono D1.out.size))
            have y3 := (hb.cell (p := ⟨wo.heap.size, 3, none⟩) lw).trans q3
            clear hb
            go_wp2_with fail
            refine (KR1.out _).mono ?_
            rintro e w4 ⟨rfl, hb⟩
            have HB2 := Lib.hid (D2.out.trans (hb.mono D2.out.size))
            clear hb
            go_wp2_with fail
            go_ret
            exact ⟨ret_int HF.out.symm, HB2.out⟩
          | true =>
            obtain rfl : ta = true := HA.out
            have HF := Lib.hid (HGd.out rfl)
            go_wp2_with fail
            rw [← hW1]
            clear hW1
            go_wp2_with fail
            refine (KL1.out _).mono ?_
            rintro e w3 ⟨rfl, hb⟩
            have D2 := Lib.hid (D1.out.trans (hb.mono D1.out.size))
            have y3 := (hb.cell (p := ⟨wo.heap.size, 3, none⟩) lw).trans q3
            clear hb
            go_wp2_with fail
            refine (KR1.out _).mono ?_
            rintro e w4 ⟨rfl, hb⟩
            have HB2 := Lib.hid (D2.out.trans (hb.mono D2.out.size))
            clear hb
            go_wp2_with fail
            go_roundw
            case rel => exact ⟨k + 1, by omega, by go_num, HB2.out, HF.out⟩
            case measure => first | (simp [intOf]; done) | (simp [intOf]; omega)
      · obtain rfl : k = l.length := by omega
        have k1 : ¬ (l.length : Int) < (l.length : Int) := by omega
        have HF := Lib.hid (ck_end (g := gg) H0.out (fun i hi => HK.out i hi hi))
        obtain ⟨t, ht⟩ : ∃ t, ignB gg = t := ⟨_, rfl⟩
        rw [ht] at KI HF
        clear ht
        cases t with
        | true =>
          go_wp2_with fail
          refine (KI.out _).mono ?_
          rintro e w3 ⟨rfl, hb⟩
          have B3 := Lib.hid (HB.out.trans (hb.mono HB.out.size))
          clear hb
          go_wp2_with fail
          go_ret
          exact ⟨ret_int (by rw [HF.out]; rfl), B3.out⟩
        | false =>
          go_wp2_with fail
          refine (KI.out _).mono ?_
          rintro e w3 ⟨rfl, hb⟩
          have B3 := Lib.hid (HB.out.trans (hb.mono HB.out.size))
          clear hb
          go_wp2_with fail
          go_ret
          exact ⟨ret_int (by rw [HF.out]; rfl), B3.out⟩
  · have HF := ck_rules (g := gg) h0
    rw [HF]
    generalize rchk (l.map bareR) = c at KC h0 ⊢
    have t0 : (c != 0) = true := by rw [bne_iff_ne]; exact h0
    clear h0 HF
    go_enter Try.func13, Try.ntmps13
    go_wp2_with fail
    refine KA.out.mono ?_
    rintro e w1 ⟨v1, rfl, hb, hr1⟩
    have B1 := Lib.hid hb
    have R1 := Lib.hid hr1
    clear hb hr1
    go_wp2_with fail
    refine (KC.out _ _ R1.out).mono ?_
    rintro e w2 ⟨rfl, hb⟩
    have B2 := Lib.hid (B1.out.trans (hb.mono B1.out.size))
    clear hb
    go_wp2_with fail
    go_ret
    exact ⟨rfl, B2.out⟩
set_option maxRecDepth 100000 in
set_option maxHeartbeats 1600000 in
theorem pcboth_any (v : Value) (l : List Rw) (hmax : l.length ≤ 50) (hs : ∀ r ∈ l, RwSm r) (s : ByteArray) (hss : s.size ≤ 9223372036854775807) (wv : Value) (u : List Md) (hu : u.length ≤ 9223372036854775807) (hua : ∀ m ∈ u, m.a.length ≤ 9223372036854775807) (w : World) (hv : Rws w v l) (hn : NilOr v) (hw : Mods w wv u) :
    Calls Try.prog 28 #[v, .string s, wv] w fun e w' => e = .returned (.int .i64 (chB (lA s) l u)) ∧ Below w.heap.size w w' := by
  have KC := Lib.hid (pccheck_any v l hmax hs s hss w hv hn)
  have KW := Lib.hid (fun w h => pcheck_any wv u hu hua w h)
  obtain ⟨p, cap, rfl⟩ := hv.slice
  obtain ⟨p2, cap2, rfl⟩ := hw.slice
  have HW := Lib.hid hw
  clear hv hw hn
  generalize lA s = g at KC ⊢
  by_cases h0 : cchk g l = 0
  · rw [chB_ok h0]
    rw [h0] at KC
    clear h0
    generalize chk u = c at KW ⊢
    go_enter Try.func28, Try.ntmps28
    go_wp2_with fail
    refine KC.out.mono ?_
    rintro e w1 ⟨rfl, hb⟩
    have B1 := Lib.hid hb
    clear hb
    go_wp2_with fail
    refine (KW.out _ (HW.out.later B1.out)).mono ?_
    rintro e w2 ⟨rfl, hb⟩
    have B2 := Lib.hid (B1.out.trans (hb.mono B1.out.size))
    clear hb
    go_wp2_with fail
    go_ret
    exact ⟨rfl, B2.out⟩
  · rw [chB_no h0]
    generalize cchk g l = c at KC h0 ⊢
    have t0 : (c != 0) = true := by rw [bne_iff_ne]; exact h0
    clear h0
    go_enter Try.func28, Try.ntmps28
    go_wp2_with fail
    refine KC.out.mono ?_
    rintro e w1 ⟨rfl, hb⟩
    have B1 := Lib.hid hb
    clear hb
    go_wp2_with fail
    go_ret
    exact ⟨rfl, B1.out⟩
end Go.Proofs.Ytcoljbcjnggagaa
namespace Go.Proofs.Ytcoljbcjnggagaa
open Go.RowKit
open WM RM
set_option linter.unusedVariables false
set_option linter.unusedSimpArgs false

theorem rng_in (x : Int) : (decide (-1000000000 ≤ x) && decide (x ≤ 1000000000)) = argB x := rfl
theorem fine70_no {x : List Int} {k : Nat} (hk : k < x.length) (h : argB x[k] = false) : fineB ⟨70, x⟩ = false := by
  have : rngB x = false := by
    unfold rngB
    rw [List.all_eq_false]
    exact ⟨_, List.getElem_mem hk, by rw [rng_in, h]; simp⟩
  simp [fineB, this]
theorem fine70_ok {x : List Int} (h4 : ¬ 4 < x.length) (h : ∀ k, (hk : k < x.length) → argB x[k] = true) : fineB ⟨70, x⟩ = true := by
  have : rngB x = true := by
    unfold rngB
    rw [List.all_eq_true]
    intro y hy
    obtain ⟨j, hj, rfl⟩ := List.mem_iff_getElem.1 hy
    exact h j hj
  unfold fineB
  rw [this, decide_eq_true (by show x.length ≤ 4; omega)]
  simp [letB, braB]
theorem within_argB (n : Int) (w : World) : Calls Try.prog 81 #[.int .i64 n, .int .i64 1000000000] w fun e w' => e = .returned (.bool (argB n)) ∧ w = w' := within_arg n w
theorem argB_iff {x : Int} : argB x = true ↔ -1000000000 ≤ x ∧ x ≤ 1000000000 := by simp [argB]
set_option maxRecDepth 100000 in
set_option maxHeartbeats 3200000 in
theorem prvalue_any (f : Fm) (x : List Int) (v u : Value) (hm : f.cs.length ≤ 9223372036854775807) (hx : x.length ≤ 9223372036854775807) (w : World) (h1 : Ints w v f.cs) (h2 : Ints w u x) :
    Calls Try.prog 86 #[.agg #[.int .i64 f.k, v], u] w fun e w' => e = .returned (.tuple #[.int .i64 (vaV f x), .int .i64 (vaC f x)]) ∧ Below w.heap.size w w' := by
  obtain ⟨p, cap, rfl⟩ := h1.slice
  obtain ⟨p2, cap2, rfl⟩ := h2.slice
  obtain ⟨W0, hW0⟩ : ∃ W, W = w.alloc (.cells #[.int .i64 f.k, .slice p f.cs.length cap] 51) := ⟨_, rfl⟩
  have N0 : W0.heap[w.heap.size]? = some (.cells #[.int .i64 f.k, .slice p f.cs.length cap] 51 (0, 0)) := by rw [hW0]; exact heap_alloc_new _ _
  have B0 : Below w.heap.size w W0 := by rw [hW0]; exact (Below.refl _ _).alloc (Nat.le_refl _) _
  have HB := Lib.hid B0
  have H1 := Lib.hid (h1.later B0)
  have H2 := Lib.hid (h2.later B0)
  have q0 := cell_two0 N0
  have q1 := cell_two1 N0
  have l1 := lt_of_block N0
  have KF := Lib.hid (fun w h => formed_any f (.slice p f.cs.length cap) (x.length : Int) hm w h)
  have KI := Lib.hid within_argB
  have HFm := Lib.hid hm
  clear N0 B0 h1 h2
  by_cases c4 : 4 < x.length
  · have HV := Lib.hid (va_bad (f := f) (.inl c4))
    have c4' : (4 : Int) < (x.length : Int) := by omega
    go_enter Try.func86, Try.ntmps86
    go_wp2_with fail
    rw [← hW0]
    clear hW0
    go_wp2_with fail
    go_ret2
    exact ⟨rret_two HV.out.2.symm HV.out.1.symm, HB.out⟩
  have c4' : ¬ (4 : Int) < (x.length : Int) := by omega
  cases hf : formB f (x.length : Int) with
  | false =>
    have HV := Lib.hid (va_bad (f := f) (.inr (.inl hf)))
    rw [hf] at KF
    clear hf
    go_enter Try.func86, Try.ntmps86
    go_wp2_with fail
    rw [← hW0]
    clear hW0
    go_wp2_with fail
    refine (KF.out _ H1.out).mono ?_
    rintro e w1 ⟨rfl, hb⟩
    have B1 := Lib.hid (HB.out.trans (hb.mono HB.out.size))
    clear hb
    go_wp2_with fail
    go_ret2
    exact ⟨rret_two HV.out.2.symm HV.out.1.symm, B1.out⟩
  | true =>
    have HFo := Lib.hid hf
    rw [hf] at KF
    clear hf
    go_enter Try.func86, Try.ntmps86
    go_wp2_with fail
    rw [← hW0]
    clear hW0
    go_wp2_with fail
    refine (KF.out _ H1.out).mono ?_
    rintro e w1 ⟨rfl, hb⟩
    have D1 := Lib.hid hb
    have y0 := (hb.cell (p := ⟨w.heap.size, 0, none⟩) l1).trans q0
    have y1 := (hb.cell (p := ⟨w.heap.size, 1, none⟩) l1).trans q1
    have H1' := Lib.hid (H1.out.later hb)
    have H2' := Lib.hid (H2.out.later hb)
    have B1 := Lib.hid (HB.out.trans (hb.mono HB.out.size))
    clear hb
    go_wp2_with fail
    go_loopw [21] (fun i wr => ∃ k : Nat, k ≤ x.length ∧ i = .int .i64 k ∧ wr = w1 ∧ ∀ j, (h : j < x.length) → j < k → argB x[j] = true) (fun i _ => x.length - (intOf i).toNat)
    case atStart => exact ⟨0, Nat.zero_le _, rfl, rfl, fun j _ h => by omega⟩
    case round =>
      obtain ⟨k, hk, rfl, rfl, hok⟩ := hrel
      have HO := Lib.hid hok
      clear hok
      by_cases hlt : k < x.length
      · obtain ⟨b, off, cap', hp, e1, lb⟩ := H2'.out.at hlt
        obtain rfl : p2 = some ⟨b, off, none⟩ := by cases hp; rfl
        have k1 : (k : Int) < (x.length : Int) := by omega
        have K2 := Lib.hid (KI.out x[k])
        obtain ⟨t, ht⟩ : ∃ t, argB x[k] = t := ⟨_, rfl⟩
        have HT := Lib.hid ht
        rw [ht] at K2
        clear hp ht
        generalize x[k] = y at e1 K2
        cases t with
        | false =>
          have HV := Lib.hid (va_bad (f := f) (.inr (.inr (fine70_no hlt HT.out))))
          go_wp2_with fail
          refine (K2.out _).mono ?_
          rintro e w2 ⟨rfl, rfl⟩
          go_wp2_with fail
          go_ret2
          exact ⟨rret_two HV.out.2.symm HV.out.1.symm, B1.out⟩
        | true =>
          have HG : Hid (∀ j, (h : j < x.length) → j < k + 1 → argB x[j] = true) := Lib.hid (fun j h hj => by
            rcases Nat.lt_or_eq_of_le (Nat.le_of_lt_succ hj) with h6 | h6
            · exact HO.out j h h6
            · subst h6; exact HT.out)
          go_wp2_with fail
          refine (K2.out _).mono ?_
          rintro e w2 ⟨rfl, rfl⟩
          go_wp2_with fail
          go_roundw
          case rel => exact ⟨k + 1, by omega, by go_num, (by first | trivial | rfl), HG.out⟩
          case measure => simp [intOf]; omega
      · obtain rfl : k = x.length := by omega
        have hi := fine70_ok c4 (fun i hi => HO.out i hi hi)
        have HV := Lib.hid (va_good c4 HFo.out hi)
        have KW := Lib.hid (fun w h h' => total_any f x (.slice p f.cs.length cap) (.slice p2 x.length cap2) HFo.out (by omega) (fine_args4 hi).2 w h h')
        obtain ⟨z, hz⟩ : ∃ z, worth f x = z := ⟨_, rfl⟩
        have K3 := Lib.hid (KI.out z)
        rw [hz] at KW HV
        clear hz hi
        have HZ : Hid ((-1000000000 ≤ z ∧ z ≤ 1000000000) ↔ argB z = true) := Lib.hid argB_iff.symm
        cases ht : argB z with
        | false =>
          have HV := Lib.hid (HV.out.1 (by rw [HZ.out, ht]; decide))
          rw [ht] at K3
          clear ht HZ
          go_wp2_with fail
          refine (KW.out _ H1'.out H2'.out).mono ?_
          rintro e w2 ⟨rfl, hb⟩
          have B2 := Lib.hid (B1.out.trans (hb.mono B1.out.size))
          clear hb
          go_wp2_with fail
          refine (K3.out _).mono ?_
          rintro e w3 ⟨rfl, rfl⟩
          go_wp2_with fail
          go_ret2
          exact ⟨rret_two HV.out.2.symm HV.out.1.symm, B2.out⟩
        | true =>
          have HV := Lib.hid (HV.out.2 (by rw [HZ.out, ht]))
          rw [ht] at K3
          clear ht HZ
          go_wp2_with fail
          refine (KW.out _ H1'.out H2'.out).mono ?_
          rintro e w2 ⟨rfl, hb⟩
          have B2 := Lib.hid (B1.out.trans (hb.mono B1.out.size))
          clear hb
          go_wp2_with fail
          refine (K3.out _).mono ?_
          rintro e w3 ⟨rfl, rfl⟩
          go_wp2_with fail
          go_ret2
          exact ⟨rret_two HV.out.2.symm HV.out.1.symm, B2.out⟩
end Go.Proofs.Ytcoljbcjnggagaa
namespace Go.Proofs.Ytcoljbcjnggagaa
open Go.RowKit
open WM RM
set_option linter.unusedVariables false
set_option linter.unusedSimpArgs false

set_option maxRecDepth 100000 in
set_option maxHeartbeats 3200000 in
theorem prfirst_any (v : Value) (l : List Rw) (m : Md) (mv : Value) (hmax : l.length ≤ 9223372036854775807) (hg : ∀ r ∈ l, r.gs.all (formB · r.ar) = true ∧ r.gs.length ≤ 9223372036854775807) (hm : fineB m = true) (w : World) (hv : Rws w v l) (hmv : Ints w mv m.a) :
    Calls Try.prog 76 #[v, .agg #[.int .u8 m.c.toNat, mv]] w fun e w' => e = .returned (.int .i64 (first l m)) ∧ Below w.heap.size w w' := by
  obtain ⟨p, cap, rfl⟩ := hv.slice
  obtain ⟨p2, cap2, rfl⟩ := hmv.slice
  obtain ⟨m4, mr⟩ := fine_args4 hm
  have HMR := Lib.hid mr
  obtain ⟨W0, hW0⟩ : ∃ W, W = w.alloc (.cells #[.int .u8 m.c.toNat, .slice p2 m.a.length cap2] 55) := ⟨_, rfl⟩
  have N0 : W0.heap[w.heap.size]? = some (.cells #[.int .u8 m.c.toNat, .slice p2 m.a.length cap2] 55 (0, 0)) := by rw [hW0]; exact heap_alloc_new _ _
  have B0 : Below w.heap.size w W0 := by rw [hW0]; exact (Below.refl _ _).alloc (Nat.le_refl _) _
  have HB := Lib.hid B0
  have HV := Lib.hid (hv.later B0)
  have HM := Lib.hid (hmv.later B0)
  have q0 := cell_two0 N0
  have q1 := cell_two1 N0
  have l1 := lt_of_block N0
  have HG := Lib.hid hg
  clear N0 B0 hv hmv hg hm mr
  go_enter Try.func76, Try.ntmps76
  go_wp2_with fail
  rw [← hW0]
  clear hW0
  go_step3
  go_wp2_with fail
  go_step3
  go_wp2_with fail
  go_loopw [11] (fun i wr => ∃ k : Nat, k ≤ l.length ∧ i = .int .i64 k ∧ Below W0.heap.size W0 wr ∧ FAt l m k) (fun i _ => l.length - (intOf i).toNat)
  case atStart => exact ⟨0, Nat.zero_le _, rfl, Below.refl _ _, fAt_start l m⟩
  case round =>
    rename World => wo
    obtain ⟨k, hk, rfl, hb, hok⟩ := hrel
    have HK := Lib.hid hok
    have HBr := Lib.hid hb
    have hbz := hb.size
    have y0 := (hb.cell (p := ⟨w.heap.size, 0, none⟩) l1).trans q0
    have y1 := (hb.cell (p := ⟨w.heap.size, 1, none⟩) l1).trans q1
    have lo : w.heap.size < wo.heap.size := Nat.lt_of_lt_of_le l1 hbz
    clear hok hb
    by_cases hlt : k < l.length
    · obtain ⟨b, off, cap', g, gc, o, oc, hp, lb, hat⟩ := (HV.out.later HBr.out).at hlt
      obtain rfl : p = some ⟨b, off, none⟩ := by cases hp; rfl
      have k1 : (k : Int) < (l.length : Int) := by omega
      obtain ⟨g1, g2⟩ := HG.out _ (List.getElem_mem hlt)
      have HG1 := Lib.hid g1
      have HX := Lib.hid (HM.out.later HBr.out)
      have HGs := Lib.hid hat.gs
      obtain ⟨e0, e1, e2, e3, e4, e5, e6, _, _⟩ := hat
      obtain ⟨r, hr⟩ : ∃ r, l[k] = r := ⟨_, rfl⟩
      have HR := Lib.hid hr
      rw [hr] at e0 e1 e2 e3 e4 e5 e6 HGs HG1 g2
      obtain ⟨W1, hW1⟩ : ∃ W, W = wo.alloc (.cells #[.int .u8 r.c.toNat, .int .i64 r.ar, .int .u8 r.l.toNat, .int .u8 r.r.toNat, .slice g r.gs.length gc, .int .i64 r.wt, .slice o r.out.length oc] 48) := ⟨_, rfl⟩
      have N1 : W1.heap[wo.heap.size]? = some (.cells #[.int .u8 r.c.toNat, .int .i64 r.ar, .int .u8 r.l.toNat, .int .u8 r.r.toNat, .slice g r.gs.length gc, .int .i64 r.wt, .slice o r.out.length oc] 48 (0, 0)) := by rw [hW1]; exact heap_alloc_new _ _
      have b1 : Below wo.heap.size wo W1 := by rw [hW1]; exact (Below.refl _ _).alloc (Nat.le_refl _) _
      have E1 := Lib.hid b1
      have B1 := Lib.hid (HBr.out.trans (b1.mono hbz))
      have r0 : W1.cell? ⟨wo.heap.size, 0, none⟩ = some (.int .u8 r.c.toNat) := by simp [World.cell?, N1]
      have r1 : W1.cell? ⟨wo.heap.size, 1, none⟩ = some (.int .i64 r.ar) := by simp [World.cell?, N1]
      have r4 : W1.cell? ⟨wo.heap.size, 4, none⟩ = some (.slice g r.gs.length gc) := by simp [World.cell?, N1]
      have s0 := (B1.out.cell (p := ⟨w.heap.size, 0, none⟩) l1).trans q0
      have s1 := (B1.out.cell (p := ⟨w.heap.size, 1, none⟩) l1).trans q1
      have HGs1 := Lib.hid (HGs.out.later E1.out)
      have HNo : Hid (fitB r m = false → FAt l m (k + 1)) := Lib.hid (fun h => fAt_no hlt HK.out (by rw [HR.out]; exact h))
      have HYes : Hid (fitB r m = true → first l m = (k : Int)) := Lib.hid (fun h => fAt_yes hlt HK.out (by rw [HR.out]; exact h))
      clear hp hr N1 b1 g1
      generalize r.l.toNat = x2 at e2 hW1
      generalize r.r.toNat = x3 at e3 hW1
      generalize r.wt = x5 at e5 hW1
      generalize r.out.length = x6 at e6 hW1
      by_cases hc : r.c = m.c
      · have HC := Lib.hid hc
        have t1 : ((r.c.toNat : Int) != (m.c.toNat : Int)) = false := by rw [hc]; simp
        by_cases ha : r.ar = (m.a.length : Int)
        · have HA := Lib.hid ha
          have HA0 := Lib.hid ha
          have t2 : (r.ar != (m.a.length : Int)) = false := by rw [ha]; simp
          clear hc ha
          generalize r.c.toNat = ca at e0 r0 t1 hW1
          generalize m.c.toNat = cb at y0 s0 q0 t1
          generalize r.ar = ra at e1 r1 t2 hW1 HG1 HA
          obtain ⟨x4, hx4⟩ : ∃ x4, r.gs.length = x4 := ⟨_, rfl⟩
          have HX4 := Lib.hid hx4
          rw [hx4] at e4 r4 hW1
          go_wp2_with fail
          rw [← hW1]
          clear hW1
          go_wp2_with fail
          have l1w : w.heap.size < W1.heap.size := Nat.lt_of_lt_of_le l1 B1.out.size
          go_loopw [32] (fun i wr => ∃ j : Nat, j ≤ x4 ∧ i = .int .i64 j ∧ Below W1.heap.size W1 wr ∧ ∀ j', (hj : j' < r.gs.length) → j' < j → 0 ≤ worth r.gs[j'] m.a) (fun i _ => x4 - (intOf i).toNat)
          case atStart => exact ⟨0, Nat.zero_le _, rfl, Below.refl _ _, fun j _ h => by omega⟩
          case round =>
            rename World => wi
            obtain ⟨j, hj, rfl, hb, hok⟩ := hrel
            have HJ := Lib.hid hok
            have HBi := Lib.hid hb
            have hbi := hb.size
            have u1 := (hb.cell (p := ⟨w.heap.size, 1, none⟩) l1w).trans s1
            have li : w.heap.size < wi.heap.size := Nat.lt_of_lt_of_le l1w hbi
            have HBw : Hid (Below W0.heap.size W0 wi) := Lib.hid (B1.out.trans (hb.mono B1.out.size))
            clear hok hb
            by_cases hjl : j < r.gs.length
            · obtain ⟨bg, og, cg, q, d, hp, f0, f1, hin, lg⟩ := (HGs1.out.later HBi.out).at hjl
              obtain rfl : g = some ⟨bg, og, none⟩ := by cases hp; rfl
              have j1 : (j : Int) < (x4 : Int) := by omega
              have hf := List.all_eq_true.1 HG1.out _ (List.getElem_mem hjl)
              rw [HA.out] at hf
              obtain ⟨W2, hW2⟩ : ∃ W, W = wi.alloc (.cells #[.int .i64 r.gs[j].k, .slice q r.gs[j].cs.length d] 51) := ⟨_, rfl⟩
              have b2 : Below wi.heap.size wi W2 := by rw [hW2]; exact (Below.refl _ _).alloc (Nat.le_refl _) _
              have E2 := Lib.hid b2
              have KT := Lib.hid (total_any r.gs[j] m.a _ _ hf m4 HMR.out W2 (hin.later b2) (HM.out.later (HBw.out.trans (b2.mono HBw.out.size))))
              obtain ⟨z, hz⟩ : ∃ z, worth r.gs[j] m.a = z := ⟨_, rfl⟩
              have HZ := Lib.hid hz
              rw [hz] at KT
              generalize r.gs[j].k = fk at f0 hW2 KT
              generalize r.gs[j].cs.length = fl at f1 hW2 KT
              clear hp hin hf hz b2
              by_cases h0 : z < 0
              · have HN := Lib.hid (HNo.out (fit_neg hjl (by rw [HZ.out]; exact h0)))
                go_wp2_with fail
                rw [← hW2]
                clear hW2
                refine KT.out.mono ?_
                rintro e w5 ⟨rfl, hb⟩
                have HB5 := Lib.hid (HBw.out.trans ((E2.out.trans (hb.mono E2.out.size)).mono HBw.out.size))
                clear hb
                go_wp2_with fail
                go_roundw
                case rel => exact ⟨k + 1, by omega, by go_num, HB5.out, HN.out⟩
                case measure => simp [intOf]; omega
              · have HJ2 : Hid (∀ j', (hj : j' < r.gs.length) → j' < j + 1 → 0 ≤ worth r.gs[j'] m.a) := Lib.hid (fun j' hj h => by
                  rcases Nat.lt_or_eq_of_le (Nat.le_of_lt_succ h) with h1 | h1
                  · exact HJ.out j' hj h1
                  · subst h1; rw [HZ.out]; omega)
                go_wp2_with fail
                rw [← hW2]
                clear hW2
                refine KT.out.mono ?_
                rintro e w5 ⟨rfl, hb⟩
                have HB5 := Lib.hid (HBi.out.trans ((E2.out.trans (hb.mono E2.out.size)).mono HBi.out.size))
                clear hb
                go_wp2_with fail
                go_roundw
                case rel => exact ⟨j + 1, by omega, by go_num, HB5.out, HJ2.out⟩
                case measure => simp [intOf]; omega
            · have hje : j = x4 := by omega
              have j1 : ¬ (j : Int) < (x4 : Int) := by omega
              have HF := Lib.hid (HYes.out (fit_ok HC.out HA0.out (fun i hi => HJ.out i hi (by omega))))
              clear hje
              go_wp2_with fail
              try rw [Exit.noGoto_ret]
              go_ret
              exact ⟨ret_int HF.out.symm, HB.out.trans (HBw.out.mono HB.out.size)⟩
        · have t2 : (r.ar != (m.a.length : Int)) = true := by rw [bne_iff_ne]; exact ha
          have HN := Lib.hid (HNo.out (fit_len ha))
          clear hc ha
          generalize r.c.toNat = ca at e0 r0 t1 hW1
          generalize m.c.toNat = cb at y0 s0 q0 t1
          generalize r.ar = ra at e1 r1 t2 hW1
          generalize r.gs.length = x4 at e4 r4 hW1
          go_wp2_with fail
          rw [← hW1]
          clear hW1
          go_roundw
          case rel => exact ⟨k + 1, by omega, by go_num, B1.out, HN.out⟩
          case measure => simp [intOf]; omega
      · have t1 : ((r.c.toNat : Int) != (m.c.toNat : Int)) = true := by
          rw [bne_iff_ne]; intro h
          exact hc (UInt8.toNat_inj.1 (by omega))
        have HN := Lib.hid (HNo.out (fit_name hc))
        clear hc
        generalize r.c.toNat = ca at e0 r0 t1 hW1
        generalize m.c.toNat = cb at y0 s0 q0 t1
        generalize r.gs.length = x4 at e4 r4 hW1
        generalize r.ar = ra at e1 r1 hW1
        go_wp2_with fail
        rw [← hW1]
        clear hW1
        go_roundw
        case rel => exact ⟨k + 1, by omega, by go_num, B1.out, HN.out⟩
        case measure => simp [intOf]; omega
    · obtain rfl : k = l.length := by omega
      have HF := Lib.hid (fAt_end HK.out)
      go_wp2_with fail
      try rw [Exit.noGoto_ret]
      go_ret
      exact ⟨ret_int HF.out.symm, HB.out.trans (HBr.out.mono HB.out.size)⟩
end Go.Proofs.Ytcoljbcjnggagaa
namespace Go.Proofs.Ytcoljbcjnggagaa
open Go.RowKit
open WM RM
set_option linter.unusedVariables false
set_option linter.unusedSimpArgs false

set_option maxRecDepth 100000 in
set_option maxHeartbeats 1600000 in
theorem prfind_any (v : Value) (l : List Rw) (m : Md) (mv : Value) (hmax : l.length ≤ 9223372036854775807) (hs : ∀ r ∈ l, RwSm r) (hml : m.a.length ≤ 9223372036854775807) (w : World) (hv : Rws w v l) (hmv : Ints w mv m.a) (hn : NilOr mv) :
    Calls Try.prog 68 #[v, .agg #[.int .u8 m.c.toNat, mv]] w fun e w' => e = .returned (.tuple #[.int .i64 (finV l m), .int .i64 (finC l m)]) ∧ Below w.heap.size w w' := by
  obtain ⟨p, cap, rfl⟩ := hv.slice
  obtain ⟨p2, cap2, rfl⟩ := hmv.slice
  obtain ⟨W0, hW0⟩ : ∃ W, W = w.alloc (.cells #[.int .u8 m.c.toNat, .slice p2 m.a.length cap2] 55) := ⟨_, rfl⟩
  have N0 : W0.heap[w.heap.size]? = some (.cells #[.int .u8 m.c.toNat, .slice p2 m.a.length cap2] 55 (0, 0)) := by rw [hW0]; exact heap_alloc_new _ _
  have B0 : Below w.heap.size w W0 := by rw [hW0]; exact (Below.refl _ _).alloc (Nat.le_refl _) _
  have HB := Lib.hid B0
  have HV := Lib.hid (hv.later B0)
  have HM := Lib.hid (hmv.later B0)
  have HN := Lib.hid hn
  have q0 := cell_two0 N0
  have q1 := cell_two1 N0
  have l1 := lt_of_block N0
  have KC := Lib.hid (fun w h => prcheck_any (.slice p l.length cap) l hmax hs w h)
  have KW := Lib.hid (fun (w : World) (h : Ints w (.slice p2 m.a.length cap2) m.a) => pcheck_any (.slice (some ⟨w.heap.size, 0, none⟩) 1 1) [m] (by simp) (by simpa using hml) (w.alloc (.cells #[.int .u8 m.c.toNat, .slice p2 m.a.length cap2] 55)) (mods_new w m _ h HN.out))
  clear N0 B0 hv hmv hn
  by_cases h0 : rchk l = 0
  · obtain ⟨r1, r2⟩ := rchk_zero h0
    rw [h0] at KC
    have hc8 := chk_one m
    obtain ⟨x, hx⟩ : ∃ x, chk [m] = x := ⟨_, rfl⟩
    rw [hx] at KW hc8
    cases hf : fineB m with
    | false =>
      have HF := Lib.hid (fin_bad h0 hf)
      rw [hf] at hc8
      have t8 : (x == 8) = true := hc8
      clear h0 hf r1 r2 hs hx hc8
      go_enter Try.func68, Try.ntmps68
      go_wp2_with fail
      rw [← hW0]
      clear hW0
      go_wp2_with fail
      refine (KC.out _ HV.out).mono ?_
      rintro e w1 ⟨rfl, hb⟩
      have D1 := Lib.hid hb
      have y0 := (hb.cell (p := ⟨w.heap.size, 0, none⟩) l1).trans q0
      have y1 := (hb.cell (p := ⟨w.heap.size, 1, none⟩) l1).trans q1
      clear hb
      go_wp2_with fail
      refine (KW.out _ (HM.out.later D1.out)).mono ?_
      rintro e w2 ⟨rfl, hb⟩
      have B2 := Lib.hid (HB.out.trans ((D1.out.trans (((Below.refl w1.heap.size w1).alloc (Nat.le_refl _) _).mono D1.out.size |>.trans (hb.mono (by have := D1.out.size; simp; omega)))).mono HB.out.size))
      clear hb
      go_wp2_with fail
      go_ret2
      exact ⟨rret_two HF.out.2.symm HF.out.1.symm, B2.out⟩
    | true =>
      have HF := Lib.hid (fin_ok h0 hf)
      rw [hf] at hc8
      have t8 : (x == 8) = false := hc8
      have KT := Lib.hid (fun w h h' => prfirst_any (.slice p l.length cap) l m (.slice p2 m.a.length cap2) hmax (fun r hr => ⟨rule_guards (r2 r hr).1, by have := (hs r hr).1; omega⟩) hf w h h')
      obtain ⟨z, hz⟩ : ∃ z, first l m = z := ⟨_, rfl⟩
      rw [hz] at KT HF
      clear h0 hf r1 r2 hs hz hx hc8
      go_enter Try.func68, Try.ntmps68
      go_wp2_with fail
      rw [← hW0]
      clear hW0
      go_wp2_with fail
      refine (KC.out _ HV.out).mono ?_
      rintro e w1 ⟨rfl, hb⟩
      have D1 := Lib.hid hb
      have y0 := (hb.cell (p := ⟨w.heap.size, 0, none⟩) l1).trans q0
      have y1 := (hb.cell (p := ⟨w.heap.size, 1, none⟩) l1).trans q1
      clear hb
      go_wp2_with fail
      refine (KW.out _ (HM.out.later D1.out)).mono ?_
      rintro e w2 ⟨rfl, hb⟩
      have D2 : Hid (Below W0.heap.size W0 w2) := Lib.hid (D1.out.trans (((Below.refl w1.heap.size w1).alloc (Nat.le_refl _) _).mono D1.out.size |>.trans (hb.mono (by have := D1.out.size; simp; omega))))
      have z0 := (D2.out.cell (p := ⟨w.heap.size, 0, none⟩) l1).trans q0
      have z1 := (D2.out.cell (p := ⟨w.heap.size, 1, none⟩) l1).trans q1
      clear hb
      go_wp2_with fail
      refine (KT.out _ (HV.out.later D2.out) (HM.out.later D2.out)).mono ?_
      rintro e w3 ⟨rfl, hb⟩
      have B3 := Lib.hid (HB.out.trans ((D2.out.trans (hb.mono D2.out.size)).mono HB.out.size))
      clear hb
      go_wp2_with fail
      go_ret2
      exact ⟨rret_two HF.out.2.symm HF.out.1.symm, B3.out⟩
  · have HF := Lib.hid (fin_rules (m := m) h0)
    obtain ⟨c, hc⟩ : ∃ c, rchk l = c := ⟨_, rfl⟩
    rw [hc] at KC HF h0
    have h1 : (c != 0) = true := by rw [bne_iff_ne]; exact h0
    clear h0 hc hs
    go_enter Try.func68, Try.ntmps68
    go_wp2_with fail
    rw [← hW0]
    clear hW0
    go_wp2_with fail
    refine (KC.out _ HV.out).mono ?_
    rintro e w1 ⟨rfl, hb⟩
    have B1 := Lib.hid (HB.out.trans (hb.mono HB.out.size))
    clear hb
    go_wp2_with fail
    go_ret2
    exact ⟨rret_two HF.out.2.symm HF.out.1.symm, B1.out⟩
end Go.Proofs.Ytcoljbcjnggagaa
