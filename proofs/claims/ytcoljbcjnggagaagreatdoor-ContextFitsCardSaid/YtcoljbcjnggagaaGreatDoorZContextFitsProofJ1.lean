/-
  The walk of ContextFits.
-/
import Derived.Test.YtcoljbcjnggagaaGreatDoorZContextBackProofM17
import Derived.Test.YtcoljbcjnggagaaGreatDoorZContextBackProofM7
import Derived.Deep.RegionHeld3
import Derived.Lib.QuietBelow
namespace Go.Proofs.YtcoljbcjnggagaaGreatDoor
open Go.RowKit
open WM RM CM
set_option linter.unusedVariables false
set_option linter.unusedSimpArgs false

theorem bare_rchk {r : Rw} (h : ruleB r = true) (hw : r.wt = 0) (hg : r.gs.length ≤ 4) (ho : r.out.length ≤ 20) : rchk [bareR r] = 0 := by
  refine rchk_ok (many_not (by simp) fun k hk => ?_) fun k hk => ?_
  · have hk0 : k = 0 := by simpa using hk
    subst hk0
    simp only [List.getElem_cons_zero, bareR]
    omega
  · have hk0 : k = 0 := by simpa using hk
    subst hk0
    simp only [List.getElem_cons_zero]
    exact ⟨h, plain_ok rfl rfl hw⟩
theorem bare_fin {r : Rw} {m : Md} (h : ruleB r = true) (hw : r.wt = 0) (hg : r.gs.length ≤ 4) (ho : r.out.length ≤ 20) (hm : fineB m = true) : finC [bareR r] m = 0 ∧ finV [bareR r] m = if fitB r m = true then 0 else -1 := by
  obtain ⟨h1, h2⟩ := fin_ok (bare_rchk h hw hg ho) hm
  exact ⟨h1, by rw [h2]; rfl⟩
theorem rws_block {w : World} {b : Nat} {r : Rw} {g o : Value} (h : w.heap[b]? = some (.cells #[.int .u8 r.c.toNat, .int .i64 r.ar, .int .u8 r.l.toNat, .int .u8 r.r.toNat, g, .int .i64 r.wt, o] 28 (0, 0))) (h1 : Fms w g r.gs) (h2 : Shs w o r.out) : Rws w (.slice (some ⟨b, 0, none⟩) 1 1) [r] := by
  refine .some b 0 1 [r] (by simp) (lt_of_block h) fun i hi => ?_
  obtain rfl : i = 0 := by simpa using hi
  exact ⟨by simp [World.cell?, h], by simp [World.cell?, h], by simp [World.cell?, h], by simp [World.cell?, h], by simp [World.cell?, h], ⟨g, by simp [World.cell?, h], h1⟩, ⟨o, by simp [World.cell?, h], h2⟩⟩
theorem nb_val {u : List Md} {a : Nat} {c : UInt8} (hc : c ≠ 0) (ha : a < u.length) : nbB u (a : Int) c = ((u[a].c.toNat : Int) == (c.toNat : Int)) := by rw [nb_at hc, md_get ha, u8_eq]
set_option maxRecDepth 100000 in
set_option maxHeartbeats 12800000 in
theorem cfits_walk (v : Value) (l : List Rw) (hmax : l.length ≤ 9223372036854775807) (s : ByteArray) (hss : s.size ≤ 9223372036854775807) (wv : Value) (u : List Md) (hu : u.length ≤ 9223372036854775807) (hua : ∀ m ∈ u, m.a.length ≤ 9223372036854775807) (i : Int) (w : World) (hr : Rws w v l) (hnv : NilOr v) (hw : Mods w wv u) (he : Env w) :
    Calls Tryz.prog 7 #[v, .string s, wv, .int .i64 i] w fun e w' => e = .returned (.bool true) ∧ Below w.heap.size w w' := by
  have HE := Lib.hid he
  have KA := Lib.hid calive_any
  have KV := Lib.hid (cvalid_any v wv l s u hmax hss hu hua w hr hw)
  have KF0 := Lib.hid (fun a b i w h h' => cpfind_any v l a b s hss wv u hu hua i w h hnv h')
  have KL0 := Lib.hid (fun (i : Nat) w h => pleft_any wv u hu hua (i : Int) s hss w h)
  have KR0 := Lib.hid (fun (i : Nat) w h => pright_any wv u hu hua (i : Int) s hss w h)
  obtain ⟨p, cap, rfl⟩ := hr.slice
  obtain ⟨p2, cap2, rfl⟩ := hw.slice
  have HW := Lib.hid hw
  have HV := Lib.hid hr
  clear hw hr he hnv
  generalize lA s = g at KV KF0 KL0 KR0
  cases hv : clawB g l u with
  | false =>
    rw [hv] at KV
    clear hv
    go_enter Tryz.func7, Tryz.ntmps7
    go_wp2_with fail
    refine KV.out.mono ?_
    rintro e w1 ⟨rfl, hb⟩
    have B1 := Lib.hid hb
    clear hb
    go_wp2_with fail
    refine (KA.out _ (HE.out.later B1.out)).mono ?_
    rintro e wz ⟨rfl, hb⟩
    have Bz := Lib.hid (B1.out.trans (hb.mono B1.out.size))
    clear hb
    go_wp2_with fail
    go_ret
    exact ⟨rfl, Bz.out⟩
  | true =>
    rw [hv] at KV
    obtain ⟨hgr, _, hc0, _, hu3, h1⟩ := clawB_iff.1 hv
    obtain ⟨g1, g2⟩ := greatR_sm hgr
    have hz := cchk_zero hc0
    by_cases i0 : i < 0
    · clear hv hgr hc0 h1 g1 g2 hz
      go_enter Tryz.func7, Tryz.ntmps7
      go_wp2_with fail
      refine KV.out.mono ?_
      rintro e w1 ⟨rfl, hb⟩
      have B1 := Lib.hid hb
      clear hb
      go_wp2_with fail
      refine (KA.out _ (HE.out.later B1.out)).mono ?_
      rintro e wz ⟨rfl, hb⟩
      have Bz := Lib.hid (B1.out.trans (hb.mono B1.out.size))
      clear hb
      go_wp2_with fail
      go_ret
      exact ⟨rfl, Bz.out⟩
    by_cases i1 : (u.length : Int) ≤ i
    · clear hv hgr hc0 h1 g1 g2 hz
      go_enter Tryz.func7, Tryz.ntmps7
      go_wp2_with fail
      refine KV.out.mono ?_
      rintro e w1 ⟨rfl, hb⟩
      have B1 := Lib.hid hb
      clear hb
      go_wp2_with fail
      refine (KA.out _ (HE.out.later B1.out)).mono ?_
      rintro e wz ⟨rfl, hb⟩
      have Bz := Lib.hid (B1.out.trans (hb.mono B1.out.size))
      clear hb
      go_wp2_with fail
      go_ret
      exact ⟨rfl, Bz.out⟩
    obtain ⟨n, rfl⟩ : ∃ n : Nat, i = (n : Int) := ⟨i.toNat, by omega⟩
    have hlt : n < u.length := by omega
    have k1 : (n : Int) < (u.length : Int) := by omega
    obtain ⟨b, off, cap', _, _, hp, _, _, _, lb0⟩ := HW.out.at hlt
    obtain rfl : p2 = some ⟨b, off, none⟩ := by cases hp; rfl
    obtain ⟨q, qc, e0, e1, hin, lb, hnq⟩ := mods_nil HW.out hlt
    have HIn := Lib.hid hin
    have HNq := Lib.hid hnq
    have HE0 := Lib.hid e0
    have HE1 := Lib.hid e1
    clear hp hin hnq e0 e1
    by_cases c1 : (md u n).c = 91
    · have t1 : ((u[n].c.toNat : Int) == 91) = true := by rw [← md_get hlt, c1]; rfl
      clear hv hgr hc0 h1 g1 g2 hz c1
      go_enter Tryz.func7, Tryz.ntmps7
      go_wp2_with fail
      refine KV.out.mono ?_
      rintro e w1 ⟨rfl, hb⟩
      have B1 := Lib.hid hb
      clear hb
      have e0 := (B1.out.cell (p := ⟨b, off + n * 2, none⟩) lb).trans HE0.out
      generalize u[n].c.toNat = cn at e0 t1
      go_wp2_with fail
      refine (KA.out _ (HE.out.later B1.out)).mono ?_
      rintro e wz ⟨rfl, hb⟩
      have Bz := Lib.hid (B1.out.trans (hb.mono B1.out.size))
      clear hb
      go_wp2_with fail
      go_ret
      exact ⟨rfl, Bz.out⟩
    have t1 : ((u[n].c.toNat : Int) == 91) = false := ne_tst2 hlt c1
    by_cases c2 : (md u n).c = 93
    · have t2 : ((u[n].c.toNat : Int) == 93) = true := by rw [← md_get hlt, c2]; rfl
      clear hv hgr hc0 h1 g1 g2 hz c1 c2
      go_enter Tryz.func7, Tryz.ntmps7
      go_wp2_with fail
      refine KV.out.mono ?_
      rintro e w1 ⟨rfl, hb⟩
      have B1 := Lib.hid hb
      clear hb
      have e0 := (B1.out.cell (p := ⟨b, off + n * 2, none⟩) lb).trans HE0.out
      generalize u[n].c.toNat = cn at e0 t1 t2
      go_wp2_with fail
      refine (KA.out _ (HE.out.later B1.out)).mono ?_
      rintro e wz ⟨rfl, hb⟩
      have Bz := Lib.hid (B1.out.trans (hb.mono B1.out.size))
      clear hb
      go_wp2_with fail
      go_ret
      exact ⟨rfl, Bz.out⟩
    have t2 : ((u[n].c.toNat : Int) == 93) = false := ne_tst2 hlt c2
    obtain ⟨a1, a2, a3⟩ := ask_ok (g := g) h1 hz.2.2 hlt c1 c2
    have hch : chB g l u = 0 := by rw [chB_ok hc0]; exact h1
    obtain ⟨f1, f2⟩ := fi_ok hch hlt
    have KF := Lib.hid (KF0.out g1 g2 (n : Int))
    have KL := Lib.hid (KL0.out n)
    have KR := Lib.hid (KR0.out n)
    rw [f1, f2] at KF
    rw [a1, a2] at KL
    rw [a1, a3] at KR
    have hkr := fstF_rng (cfitB g u n) l 0
    have HZ := Lib.hid (show fstF (cfitB g u n) l 0 = cfirst g l u n from rfl)
    rw [HZ.out] at hkr
    have har := bef_rng (g := g) hlt
    have hbr := beh_rng (g := g) hlt
    have HMn := Lib.hid (many_no hz.1)
    have HRu := Lib.hid hz.2.1
    have HSm := Lib.hid g2
    have hfi : fineB u[n] = true := List.all_eq_true.1 (chk_zero.1 h1).2.1 _ (List.getElem_mem hlt)
    have HFi := Lib.hid hfi
    have hmd := md_get hlt
    have HQ : Hid (∀ r, cfitB g u n r = (fitB r u[n] && nbB u (bef g u n) r.l && nbB u (beh g u n) r.r)) := Lib.hid (fun r => by unfold cfitB; rw [hmd])
    have S0 := Lib.hid (cfAt_start g l u n)
    have n1 : ¬ cfirst g l u n < -1 := by omega
    have n2 : ¬ (l.length : Int) ≤ cfirst g l u n := by omega
    have n3 : ¬ (u.length : Int) ≤ bef g u n := by omega
    have n4 : ¬ (u.length : Int) ≤ beh g u n := by omega
    obtain ⟨z, hzz⟩ : ∃ z, cfirst g l u n = z := ⟨_, rfl⟩
    have HZz := Lib.hid hzz
    rw [hzz] at KF n1 n2
    generalize bef g u n = za at KL har n3 HQ
    generalize beh g u n = zb at KR hbr n4 HQ
    clear hv hgr hc0 h1 g1 g2 hz c1 c2 a1 a2 a3 hch f1 f2 hkr hfi hmd KF0 KL0 KR0 hzz HZ
    go_enter Tryz.func7, Tryz.ntmps7
    go_wp2_with fail
    refine KV.out.mono ?_
    rintro e w1 ⟨rfl, hb⟩
    have B1 := Lib.hid hb
    clear hb
    have e0 := (B1.out.cell (p := ⟨b, off + n * 2, none⟩) lb).trans HE0.out
    obtain ⟨cn, hcn⟩ : ∃ cn, u[n].c.toNat = cn := ⟨_, rfl⟩
    have HCn := Lib.hid hcn
    rw [hcn] at e0 t1 t2
    clear hcn
    go_wp2_with fail
    refine (KF.out _ (HV.out.later B1.out) (HW.out.later B1.out)).mono ?_
    rintro e w2 ⟨rfl, hb⟩
    have B2 := Lib.hid (B1.out.trans (hb.mono B1.out.size))
    clear hb
    go_wp2_with fail
    refine (KL.out _ (HW.out.later B2.out)).mono ?_
    rintro e w3 ⟨rfl, hb⟩
    have B3 := Lib.hid (B2.out.trans (hb.mono B2.out.size))
    clear hb
    go_wp2_with fail
    refine (KR.out _ (HW.out.later B3.out)).mono ?_
    rintro e w4 ⟨rfl, hb⟩
    have B4 := Lib.hid (B3.out.trans (hb.mono B3.out.size))
    clear hb e0
    go_wp2_with fail
    have d1 : decide (z < -1) = false := decide_eq_false (by omega)
    have d2 : decide ((l.length : Int) ≤ z) = false := decide_eq_false (by omega)
    have d3 : decide ((u.length : Int) ≤ za) = false := decide_eq_false (by omega)
    have d4 : decide ((u.length : Int) ≤ zb) = false := decide_eq_false (by omega)
    simp only [d1, d2, d3, d4, Bool.or_false]
    clear d1 d2 d3 d4
    go_loopw [15] (fun i wr => ∃ k : Nat, k ≤ l.length ∧ i = .int .i64 k ∧ Below w.heap.size w wr ∧ CFAt g l u n k) (fun i _ => l.length - (intOf i).toNat)
    case atStart => exact ⟨0, Nat.zero_le _, rfl, B4.out, S0.out⟩
    case round =>
      obtain ⟨k, hk, rfl, hb0, hok⟩ := hrel
      have HB := Lib.hid hb0
      have HK := Lib.hid hok
      clear hb0 hok
      by_cases hkl : k < l.length
      · have k3 : (k : Int) < (l.length : Int) := by omega
        have hbz := HB.out.size
        obtain ⟨br, offr, capr, gg, gc, o, oc, hp, lbr, hat⟩ := (HV.out.later HB.out).at hkl
        obtain rfl : p = some ⟨br, offr, none⟩ := by cases hp; rfl
        have y0 := (HB.out.cell (p := ⟨b, off + n * 2, none⟩) lb).trans HE0.out
        have y1 := (HB.out.cell (p := ⟨b, off + n * 2 + 1, none⟩) lb).trans HE1.out
        have LB : Hid (b < wr.heap.size) := Lib.hid (Nat.lt_of_lt_of_le lb hbz)
        have hru := HRu.out _ (List.getElem_mem hkl)
        have hmn := HMn.out.2 _ (List.getElem_mem hkl)
        have hsm := HSm.out _ (List.getElem_mem hkl)
        have hbf := bare_fin (m := u[n]) hru.1 hru.2.2 hmn.1 hmn.2 HFi.out
        have HQk := Lib.hid (HQ.out l[k])
        have HYes := Lib.hid (cfAt_yes hkl HK.out)
        have HNo := Lib.hid (cfAt_no hkl HK.out)
        have HG3 := Lib.hid hat.gs
        have HO3 := Lib.hid hat.out
        have HI3 := Lib.hid (HIn.out.later HB.out)
        obtain ⟨W1, hW1⟩ : ∃ W, W = wr.alloc (.cells #[.int .u8 l[k].c.toNat, .int .i64 l[k].ar, .int .u8 0, .int .u8 0, .slice gg l[k].gs.length gc, .int .i64 l[k].wt, .slice o l[k].out.length oc] 28) := ⟨_, rfl⟩
        have N1 : W1.heap[wr.heap.size]? = some (.cells #[.int .u8 l[k].c.toNat, .int .i64 l[k].ar, .int .u8 0, .int .u8 0, .slice gg l[k].gs.length gc, .int .i64 l[k].wt, .slice o l[k].out.length oc] 28 (0, 0)) := by rw [hW1]; exact heap_alloc_new _ _
        have B1' : Hid (Below wr.heap.size wr W1) := Lib.hid (by rw [hW1]; exact (Below.refl _ _).alloc (Nat.le_refl _) _)
        have hs1 : W1.heap.size = wr.heap.size + 1 := by rw [hW1]; simp
        have HS1 := Lib.hid hs1
        have LB1 : Hid (b < W1.heap.size) := Lib.hid (by have := LB.out; omega)
        have LR1 : Hid (wr.heap.size < W1.heap.size) := Lib.hid (by omega)
        have m0 : W1.cell? ⟨wr.heap.size, 0, none⟩ = some (.int .u8 l[k].c.toNat) := by simp [World.cell?, N1]
        have m1 : W1.cell? ⟨wr.heap.size, 1, none⟩ = some (.int .i64 l[k].ar) := by simp [World.cell?, N1]
        have m2 : W1.cell? ⟨wr.heap.size, 2, none⟩ = some (.int .u8 0) := by simp [World.cell?, N1]
        have m3 : W1.cell? ⟨wr.heap.size, 3, none⟩ = some (.int .u8 0) := by simp [World.cell?, N1]
        have m4 : W1.cell? ⟨wr.heap.size, 4, none⟩ = some (.slice gg l[k].gs.length gc) := by simp [World.cell?, N1]
        have m5 : W1.cell? ⟨wr.heap.size, 5, none⟩ = some (.int .i64 l[k].wt) := by simp [World.cell?, N1]
        have m6 : W1.cell? ⟨wr.heap.size, 6, none⟩ = some (.slice o l[k].out.length oc) := by simp [World.cell?, N1]
        have w0 := (B1'.out.cell (p := ⟨b, off + n * 2, none⟩) LB.out).trans y0
        have w1' := (B1'.out.cell (p := ⟨b, off + n * 2 + 1, none⟩) LB.out).trans y1
        have KFd : Hid (Calls Tryz.prog 24 #[.slice (some ⟨W1.heap.size, 0, none⟩) 1 1, .agg #[.int .u8 u[n].c.toNat, .slice q u[n].a.length qc]] (W1.alloc (.cells #[.int .u8 l[k].c.toNat, .int .i64 l[k].ar, .int .u8 0, .int .u8 0, .slice gg l[k].gs.length gc, .int .i64 l[k].wt, .slice o l[k].out.length oc] 28)).drew fun e w'' => e = .returned (.tuple #[.int .i64 (if fitB l[k] u[n] = true then 0 else -1), .int .i64 0]) ∧ Below W1.heap.size W1 w'') := Lib.hid (by
          have h0 := (Below.refl W1.heap.size W1).alloc (Nat.le_refl _) (.cells #[.int .u8 l[k].c.toNat, .int .i64 l[k].ar, .int .u8 0, .int .u8 0, .slice gg l[k].gs.length gc, .int .i64 l[k].wt, .slice o l[k].out.length oc] 28)
          have hb1 := h0.trans ((Below.refl _ _).drew.mono h0.size)
          have hbw := B1'.out.trans (hb1.mono B1'.out.size)
          have hN : (W1.alloc (.cells #[.int .u8 l[k].c.toNat, .int .i64 l[k].ar, .int .u8 0, .int .u8 0, .slice gg l[k].gs.length gc, .int .i64 l[k].wt, .slice o l[k].out.length oc] 28)).drew.heap[W1.heap.size]? = some (.cells #[.int .u8 l[k].c.toNat, .int .i64 l[k].ar, .int .u8 0, .int .u8 0, .slice gg l[k].gs.length gc, .int .i64 l[k].wt, .slice o l[k].out.length oc] 28 (0, 0)) := heap_alloc_new _ _
          have hrw := rws_block (r := bareR l[k]) hN (HG3.out.later hbw) (HO3.out.later hbw)
          have K := prfind_any (.slice (some ⟨W1.heap.size, 0, none⟩) 1 1) [bareR l[k]] u[n] (.slice q u[n].a.length qc) (by simp) (by intro x hx; simp at hx; subst hx; exact hsm) (by have := (fine_args4 HFi.out).1; omega) _ hrw (HI3.out.later hbw) HNq.out
          rw [hbf.1, hbf.2] at K
          exact K.mono fun e w' h => ⟨h.1, hb1.trans (h.2.mono hb1.size)⟩)
        clear N1 hs1
        obtain ⟨x0, x1, x2, x3, x4, x5, x6, _, _⟩ := hat
        have HN0 : Hid (l[k].l = 0 → nbB u za l[k].l = true) := Lib.hid nb_any
        have HM0 : Hid (l[k].r = 0 → nbB u zb l[k].r = true) := Lib.hid nb_any
        rw [HCn.out] at KFd y0 w0
        generalize u[n].a.length = xl at y1 w1' KFd
        generalize fitB l[k] u[n] = t3 at KFd HQk
        clear hp hru hmn hsm hbf
        cases t3 with
        | false =>
          rw [if_neg (by decide)] at KFd
          have HN := Lib.hid (HNo.out (by rw [HQk.out]; rfl))
          clear HYes HNo HQk HQ HN0 HM0
          generalize l[k].c.toNat = v0 at x0 m0 hW1 KFd
          generalize l[k].ar = v1 at x1 m1 hW1 KFd
          generalize l[k].l.toNat = v2 at x2 
          generalize l[k].r.toNat = v3 at x3 
          generalize l[k].gs.length = v4 at x4 m4 hW1 KFd
          generalize l[k].wt = v5 at x5 m5 hW1 KFd
          generalize l[k].out.length = v6 at x6 m6 hW1 KFd
          go_wp2_with fail
          rw [← hW1]
          clear hW1
          go_wp2_with fail
          go_region_held3 (fun w' => (∀ o, w'.cell? ⟨wr.heap.size, o, none⟩ = W1.cell? ⟨wr.heap.size, o, none⟩) ∧ (∀ o, w'.cell? ⟨b, o, none⟩ = W1.cell? ⟨b, o, none⟩)) (exact st_keep2 LR1.out LB1.out ((by with_reducible (repeat (first | exact Below.refl _ _ | refine st_chain ?_ (Hid.out (by assumption)) | refine st_chain ?_ ((Below.refl _ _).alloc (Nat.le_refl _) _) | refine st_chain ?_ (Below.refl _ _).drew))))) (first
            | (go_at_call 24; with_reducible refine KFd.out.mono ?_; intro e w' hend; obtain ⟨he, hb⟩ := hend; subst he; replace hb := Lib.hid hb))
          have hb5 : Below W1.heap.size W1 w' := (by with_reducible (repeat (first | exact Below.refl _ _ | refine st_chain ?_ (Hid.out (by assumption)) | refine st_chain ?_ ((Below.refl _ _).alloc (Nat.le_refl _) _) | refine st_chain ?_ (Below.refl _ _).drew)))
          have C5 := Lib.hid (B1'.out.trans (hb5.mono B1'.out.size))
          have B5 := Lib.hid (HB.out.trans (C5.out.mono hbz))
          have r2 := (C5.out.cell (p := ⟨br, offr + k * 7 + 2, none⟩) lbr).trans x2
          have r3 := (C5.out.cell (p := ⟨br, offr + k * 7 + 3, none⟩) lbr).trans x3
          clear hb hb5
          go_wp2_with fail
          go_quiet (fail)
          go_wp2_with fail
          go_roundw
          case rel => exact ⟨k + 1, by omega, by go_num, below_drewN B5.out _, HN.out⟩
          case measure => first | (simp [intOf]; done) | (simp [intOf]; omega)
        | true =>
          rw [if_pos rfl] at KFd
          by_cases hl : l[k].l = 0
          · have tl : ((l[k].l.toNat : Int) == 0) = true := by rw [hl]; rfl
            have bl : nbB u za l[k].l = true := HN0.out hl
            by_cases hr : l[k].r = 0
            · have tr : ((l[k].r.toNat : Int) == 0) = true := by rw [hr]; rfl
              have br' : nbB u zb l[k].r = true := HM0.out hr
              have hzk : z = (k : Int) := by rw [← HZz.out]; exact HYes.out (by rw [HQk.out, bl, br']; rfl)
              subst hzk
              have tkk : ((k : Int) == (k : Int)) = true := beq_self_eq_true _
              clear HYes HNo HQk HQ HN0 HM0 bl br' hl hr
              generalize l[k].c.toNat = v0 at x0 m0 hW1 KFd
              generalize l[k].ar = v1 at x1 m1 hW1 KFd
              generalize l[k].l.toNat = v2 at x2 tl
              generalize l[k].r.toNat = v3 at x3 tr
              generalize l[k].gs.length = v4 at x4 m4 hW1 KFd
              generalize l[k].wt = v5 at x5 m5 hW1 KFd
              generalize l[k].out.length = v6 at x6 m6 hW1 KFd
              go_wp2_with fail
              rw [← hW1]
              clear hW1
              go_wp2_with fail
              go_region_held3 (fun w' => (∀ o, w'.cell? ⟨wr.heap.size, o, none⟩ = W1.cell? ⟨wr.heap.size, o, none⟩) ∧ (∀ o, w'.cell? ⟨b, o, none⟩ = W1.cell? ⟨b, o, none⟩)) (exact st_keep2 LR1.out LB1.out ((by with_reducible (repeat (first | exact Below.refl _ _ | refine st_chain ?_ (Hid.out (by assumption)) | refine st_chain ?_ ((Below.refl _ _).alloc (Nat.le_refl _) _) | refine st_chain ?_ (Below.refl _ _).drew))))) (first
                | (go_at_call 24; with_reducible refine KFd.out.mono ?_; intro e w' hend; obtain ⟨he, hb⟩ := hend; subst he; replace hb := Lib.hid hb))
              have hb5 : Below W1.heap.size W1 w' := (by with_reducible (repeat (first | exact Below.refl _ _ | refine st_chain ?_ (Hid.out (by assumption)) | refine st_chain ?_ ((Below.refl _ _).alloc (Nat.le_refl _) _) | refine st_chain ?_ (Below.refl _ _).drew)))
              have C5 := Lib.hid (B1'.out.trans (hb5.mono B1'.out.size))
              have B5 := Lib.hid (HB.out.trans (C5.out.mono hbz))
              have r2 := (C5.out.cell (p := ⟨br, offr + k * 7 + 2, none⟩) lbr).trans x2
              have r3 := (C5.out.cell (p := ⟨br, offr + k * 7 + 3, none⟩) lbr).trans x3
              clear hb hb5
              have s2 := fun d os => cell_regrown r2 d os
              have s3 := fun d os => cell_regrown r3 d os
              try (have zq : ¬ (0 : Int) ≤ zb := by omega)
              try (have zq1 : ((0 : Int) ≤ zb) = False := by simp; omega)
              try (have zq2 : decide ((0 : Int) ≤ zb) = false := by simp; omega)
              go_wp2_with fail
              refine wp_region_quiet_below (by kernel_rfl) (by kernel_rfl) ?_
              repeat (any_goals (first | go_big_quiet_step (fail) | quiet_step (fail) | (refine wpQuiet_step (fun K hK => ?_); go_simp; (first | rw [if_neg (by omega)] | rw [if_pos (by omega)]); refine hK _ ?_; clear hK K)))
              refine wpQuiet_nil ?_
              intro _ hw'
              obtain ⟨⟨dq, osq⟩, hw''⟩ := hw'
              subst hw''
              have B6 : Hid (Below w.heap.size w («Sort».grow (redrawn w' dq) osq)) := Lib.hid (B5.out.trans ((below_regrown w' dq osq).mono B5.out.size))
              go_wp2_with fail
              refine (KA.out _ (HE.out.later B6.out)).mono ?_
              rintro e wz ⟨rfl, hb⟩
              have Bz := Lib.hid (B6.out.trans (hb.mono B6.out.size))
              clear hb
              go_wp2_with fail
              go_ret
              exact ⟨rfl, Bz.out⟩
            · have tr : ((l[k].r.toNat : Int) == 0) = false := u8_zf hr
              by_cases zr : zb < 0
              · have br' : nbB u zb l[k].r = false := nb_none hr zr
                have zr0 : ¬ (0 : Int) ≤ zb := by omega
                have HN := Lib.hid (HNo.out (by rw [HQk.out, bl, br']; simp))
                clear HYes HNo HQk HQ HN0 HM0 bl br' hl hr
                generalize l[k].c.toNat = v0 at x0 m0 hW1 KFd
                generalize l[k].ar = v1 at x1 m1 hW1 KFd
                generalize l[k].l.toNat = v2 at x2 tl
                generalize l[k].r.toNat = v3 at x3 tr
                generalize l[k].gs.length = v4 at x4 m4 hW1 KFd
                generalize l[k].wt = v5 at x5 m5 hW1 KFd
                generalize l[k].out.length = v6 at x6 m6 hW1 KFd
                go_wp2_with fail
                rw [← hW1]
                clear hW1
                go_wp2_with fail
                go_region_held3 (fun w' => (∀ o, w'.cell? ⟨wr.heap.size, o, none⟩ = W1.cell? ⟨wr.heap.size, o, none⟩) ∧ (∀ o, w'.cell? ⟨b, o, none⟩ = W1.cell? ⟨b, o, none⟩)) (exact st_keep2 LR1.out LB1.out ((by with_reducible (repeat (first | exact Below.refl _ _ | refine st_chain ?_ (Hid.out (by assumption)) | refine st_chain ?_ ((Below.refl _ _).alloc (Nat.le_refl _) _) | refine st_chain ?_ (Below.refl _ _).drew))))) (first
                  | (go_at_call 24; with_reducible refine KFd.out.mono ?_; intro e w' hend; obtain ⟨he, hb⟩ := hend; subst he; replace hb := Lib.hid hb))
                have hb5 : Below W1.heap.size W1 w' := (by with_reducible (repeat (first | exact Below.refl _ _ | refine st_chain ?_ (Hid.out (by assumption)) | refine st_chain ?_ ((Below.refl _ _).alloc (Nat.le_refl _) _) | refine st_chain ?_ (Below.refl _ _).drew)))
                have C5 := Lib.hid (B1'.out.trans (hb5.mono B1'.out.size))
                have B5 := Lib.hid (HB.out.trans (C5.out.mono hbz))
                have r2 := (C5.out.cell (p := ⟨br, offr + k * 7 + 2, none⟩) lbr).trans x2
                have r3 := (C5.out.cell (p := ⟨br, offr + k * 7 + 3, none⟩) lbr).trans x3
                clear hb hb5
                have s2 := fun d os => cell_regrown r2 d os
                have s3 := fun d os => cell_regrown r3 d os
                try (have zq : ¬ (0 : Int) ≤ zb := by omega)
                try (have zq1 : ((0 : Int) ≤ zb) = False := by simp; omega)
                try (have zq2 : decide ((0 : Int) ≤ zb) = false := by simp; omega)
                go_wp2_with fail
                refine wp_region_quiet_below (by kernel_rfl) (by kernel_rfl) ?_
                repeat (any_goals (first | go_big_quiet_step (fail) | quiet_step (fail) | (refine wpQuiet_step (fun K hK => ?_); go_simp; (first | rw [if_neg (by omega)] | rw [if_pos (by omega)]); refine hK _ ?_; clear hK K)))
                refine wpQuiet_nil ?_
                intro _ hw'
                obtain ⟨⟨dq, osq⟩, hw''⟩ := hw'
                subst hw''
                have B6 : Hid (Below w.heap.size w («Sort».grow (redrawn w' dq) osq)) := Lib.hid (B5.out.trans ((below_regrown w' dq osq).mono B5.out.size))
                go_wp2_with fail
                go_roundw
                case rel => exact ⟨k + 1, by omega, by go_num, B6.out, HN.out⟩
                case measure => first | (simp [intOf]; done) | (simp [intOf]; omega)
              · obtain ⟨nb, rfl⟩ : ∃ a : Nat, zb = (a : Int) := ⟨zb.toNat, by omega⟩
                have hrl : nb < u.length := by omega
                have zr0 : (0 : Int) ≤ (nb : Int) := by omega
                have zr1 : (nb : Int) < (u.length : Int) := by omega
                obtain ⟨br', offr', capr', qar, car, hpr, eb0, _, _, _⟩ := (HW.out.later HB.out).at hrl
                obtain ⟨rfl, rfl⟩ : b = br' ∧ off = offr' := by cases hpr; exact ⟨rfl, rfl⟩
                have hvr := nb_val (u := u) hr hrl
                generalize u[nb].c.toNat = xr at eb0 hvr
                clear hpr
                cases ttr : ((xr : Int) == (l[k].r.toNat : Int)) with
                | false =>
                  have br' : nbB u (nb : Int) l[k].r = false := by rw [hvr, ttr]
                  clear hvr
                  have HN := Lib.hid (HNo.out (by rw [HQk.out, bl, br']; simp))
                  clear HYes HNo HQk HQ HN0 HM0 bl br' hl hr
                  generalize l[k].c.toNat = v0 at x0 m0 hW1 KFd
                  generalize l[k].ar = v1 at x1 m1 hW1 KFd
                  generalize l[k].l.toNat = v2 at x2 tl
                  generalize l[k].r.toNat = v3 at x3 tr ttr
                  generalize l[k].gs.length = v4 at x4 m4 hW1 KFd
                  generalize l[k].wt = v5 at x5 m5 hW1 KFd
                  generalize l[k].out.length = v6 at x6 m6 hW1 KFd
                  go_wp2_with fail
                  rw [← hW1]
                  clear hW1
                  go_wp2_with fail
                  go_region_held3 (fun w' => (∀ o, w'.cell? ⟨wr.heap.size, o, none⟩ = W1.cell? ⟨wr.heap.size, o, none⟩) ∧ (∀ o, w'.cell? ⟨b, o, none⟩ = W1.cell? ⟨b, o, none⟩)) (exact st_keep2 LR1.out LB1.out ((by with_reducible (repeat (first | exact Below.refl _ _ | refine st_chain ?_ (Hid.out (by assumption)) | refine st_chain ?_ ((Below.refl _ _).alloc (Nat.le_refl _) _) | refine st_chain ?_ (Below.refl _ _).drew))))) (first
                    | (go_at_call 24; with_reducible refine KFd.out.mono ?_; intro e w' hend; obtain ⟨he, hb⟩ := hend; subst he; replace hb := Lib.hid hb))
                  have hb5 : Below W1.heap.size W1 w' := (by with_reducible (repeat (first | exact Below.refl _ _ | refine st_chain ?_ (Hid.out (by assumption)) | refine st_chain ?_ ((Below.refl _ _).alloc (Nat.le_refl _) _) | refine st_chain ?_ (Below.refl _ _).drew)))
                  have C5 := Lib.hid (B1'.out.trans (hb5.mono B1'.out.size))
                  have B5 := Lib.hid (HB.out.trans (C5.out.mono hbz))
                  have r2 := (C5.out.cell (p := ⟨br, offr + k * 7 + 2, none⟩) lbr).trans x2
                  have r3 := (C5.out.cell (p := ⟨br, offr + k * 7 + 3, none⟩) lbr).trans x3
                  have rb := (C5.out.cell (p := ⟨b, off + nb * 2, none⟩) LB.out).trans eb0
                  clear hb hb5
                  have s2 := fun d os => cell_regrown r2 d os
                  have s3 := fun d os => cell_regrown r3 d os
                  have sb := fun d os => cell_regrown rb d os
                  go_wp2_with fail
                  refine wp_region_quiet_below (by kernel_rfl) (by kernel_rfl) ?_
                  repeat (any_goals (first | go_big_quiet_step (fail) | quiet_step (fail) | (refine wpQuiet_step (fun K hK => ?_); go_simp; (first | rw [if_neg (by omega)] | rw [if_pos (by omega)]); refine hK _ ?_; clear hK K)))
                  refine wpQuiet_nil ?_
                  intro _ hw'
                  obtain ⟨⟨dq, osq⟩, hw''⟩ := hw'
                  subst hw''
                  have B6 : Hid (Below w.heap.size w («Sort».grow (redrawn w' dq) osq)) := Lib.hid (B5.out.trans ((below_regrown w' dq osq).mono B5.out.size))
                  go_wp2_with fail
                  go_roundw
                  case rel => exact ⟨k + 1, by omega, by go_num, B6.out, HN.out⟩
                  case measure => first | (simp [intOf]; done) | (simp [intOf]; omega)
                | true =>
                  have br' : nbB u (nb : Int) l[k].r = true := by rw [hvr, ttr]
                  clear hvr
                  have hzk : z = (k : Int) := by rw [← HZz.out]; exact HYes.out (by rw [HQk.out, bl, br']; rfl)
                  subst hzk
                  have tkk : ((k : Int) == (k : Int)) = true := beq_self_eq_true _
                  clear HYes HNo HQk HQ HN0 HM0 bl br' hl hr
                  generalize l[k].c.toNat = v0 at x0 m0 hW1 KFd
                  generalize l[k].ar = v1 at x1 m1 hW1 KFd
                  generalize l[k].l.toNat = v2 at x2 tl
                  generalize l[k].r.toNat = v3 at x3 tr ttr
                  generalize l[k].gs.length = v4 at x4 m4 hW1 KFd
                  generalize l[k].wt = v5 at x5 m5 hW1 KFd
                  generalize l[k].out.length = v6 at x6 m6 hW1 KFd
                  go_wp2_with fail
                  rw [← hW1]
                  clear hW1
                  go_wp2_with fail
                  go_region_held3 (fun w' => (∀ o, w'.cell? ⟨wr.heap.size, o, none⟩ = W1.cell? ⟨wr.heap.size, o, none⟩) ∧ (∀ o, w'.cell? ⟨b, o, none⟩ = W1.cell? ⟨b, o, none⟩)) (exact st_keep2 LR1.out LB1.out ((by with_reducible (repeat (first | exact Below.refl _ _ | refine st_chain ?_ (Hid.out (by assumption)) | refine st_chain ?_ ((Below.refl _ _).alloc (Nat.le_refl _) _) | refine st_chain ?_ (Below.refl _ _).drew))))) (first
                    | (go_at_call 24; with_reducible refine KFd.out.mono ?_; intro e w' hend; obtain ⟨he, hb⟩ := hend; subst he; replace hb := Lib.hid hb))
                  have hb5 : Below W1.heap.size W1 w' := (by with_reducible (repeat (first | exact Below.refl _ _ | refine st_chain ?_ (Hid.out (by assumption)) | refine st_chain ?_ ((Below.refl _ _).alloc (Nat.le_refl _) _) | refine st_chain ?_ (Below.refl _ _).drew)))
                  have C5 := Lib.hid (B1'.out.trans (hb5.mono B1'.out.size))
                  have B5 := Lib.hid (HB.out.trans (C5.out.mono hbz))
                  have r2 := (C5.out.cell (p := ⟨br, offr + k * 7 + 2, none⟩) lbr).trans x2
                  have r3 := (C5.out.cell (p := ⟨br, offr + k * 7 + 3, none⟩) lbr).trans x3
                  have rb := (C5.out.cell (p := ⟨b, off + nb * 2, none⟩) LB.out).trans eb0
                  clear hb hb5
                  have s2 := fun d os => cell_regrown r2 d os
                  have s3 := fun d os => cell_regrown r3 d os
                  have sb := fun d os => cell_regrown rb d os
                  go_wp2_with fail
                  refine wp_region_quiet_below (by kernel_rfl) (by kernel_rfl) ?_
                  repeat (any_goals (first | go_big_quiet_step (fail) | quiet_step (fail) | (refine wpQuiet_step (fun K hK => ?_); go_simp; (first | rw [if_neg (by omega)] | rw [if_pos (by omega)]); refine hK _ ?_; clear hK K)))
                  refine wpQuiet_nil ?_
                  intro _ hw'
                  obtain ⟨⟨dq, osq⟩, hw''⟩ := hw'
                  subst hw''
                  have B6 : Hid (Below w.heap.size w («Sort».grow (redrawn w' dq) osq)) := Lib.hid (B5.out.trans ((below_regrown w' dq osq).mono B5.out.size))
                  go_wp2_with fail
                  refine (KA.out _ (HE.out.later B6.out)).mono ?_
                  rintro e wz ⟨rfl, hb⟩
                  have Bz := Lib.hid (B6.out.trans (hb.mono B6.out.size))
                  clear hb
                  go_wp2_with fail
                  go_ret
                  exact ⟨rfl, Bz.out⟩
          · have tl : ((l[k].l.toNat : Int) == 0) = false := u8_zf hl
            by_cases zl : za < 0
            · have bl : nbB u za l[k].l = false := nb_none hl zl
              have zl0 : ¬ (0 : Int) ≤ za := by omega
              have HN := Lib.hid (HNo.out (by rw [HQk.out, bl]; simp))
              clear HYes HNo HQk HQ HN0 HM0 bl hl
              generalize l[k].c.toNat = v0 at x0 m0 hW1 KFd
              generalize l[k].ar = v1 at x1 m1 hW1 KFd
              generalize l[k].l.toNat = v2 at x2 tl
              generalize l[k].r.toNat = v3 at x3 
              generalize l[k].gs.length = v4 at x4 m4 hW1 KFd
              generalize l[k].wt = v5 at x5 m5 hW1 KFd
              generalize l[k].out.length = v6 at x6 m6 hW1 KFd
              go_wp2_with fail
              rw [← hW1]
              clear hW1
              go_wp2_with fail
              go_region_held3 (fun w' => (∀ o, w'.cell? ⟨wr.heap.size, o, none⟩ = W1.cell? ⟨wr.heap.size, o, none⟩) ∧ (∀ o, w'.cell? ⟨b, o, none⟩ = W1.cell? ⟨b, o, none⟩)) (exact st_keep2 LR1.out LB1.out ((by with_reducible (repeat (first | exact Below.refl _ _ | refine st_chain ?_ (Hid.out (by assumption)) | refine st_chain ?_ ((Below.refl _ _).alloc (Nat.le_refl _) _) | refine st_chain ?_ (Below.refl _ _).drew))))) (first
                | (go_at_call 24; with_reducible refine KFd.out.mono ?_; intro e w' hend; obtain ⟨he, hb⟩ := hend; subst he; replace hb := Lib.hid hb))
              have hb5 : Below W1.heap.size W1 w' := (by with_reducible (repeat (first | exact Below.refl _ _ | refine st_chain ?_ (Hid.out (by assumption)) | refine st_chain ?_ ((Below.refl _ _).alloc (Nat.le_refl _) _) | refine st_chain ?_ (Below.refl _ _).drew)))
              have C5 := Lib.hid (B1'.out.trans (hb5.mono B1'.out.size))
              have B5 := Lib.hid (HB.out.trans (C5.out.mono hbz))
              have r2 := (C5.out.cell (p := ⟨br, offr + k * 7 + 2, none⟩) lbr).trans x2
              have r3 := (C5.out.cell (p := ⟨br, offr + k * 7 + 3, none⟩) lbr).trans x3
              clear hb hb5
              have s2 := fun d os => cell_regrown r2 d os
              have s3 := fun d os => cell_regrown r3 d os
              go_wp2_with fail
              refine wp_region_quiet_below (by kernel_rfl) (by kernel_rfl) ?_
              repeat (any_goals (first | go_big_quiet_step (fail) | quiet_step (fail) | (refine wpQuiet_step (fun K hK => ?_); go_simp; (first | rw [if_neg (by omega)] | rw [if_pos (by omega)]); refine hK _ ?_; clear hK K)))
              refine wpQuiet_nil ?_
              intro _ hw'
              obtain ⟨⟨dq, osq⟩, hw''⟩ := hw'
              subst hw''
              have B6 : Hid (Below w.heap.size w («Sort».grow (redrawn w' dq) osq)) := Lib.hid (B5.out.trans ((below_regrown w' dq osq).mono B5.out.size))
              go_wp2_with fail
              go_roundw
              case rel => exact ⟨k + 1, by omega, by go_num, B6.out, HN.out⟩
              case measure => first | (simp [intOf]; done) | (simp [intOf]; omega)
            · obtain ⟨na, rfl⟩ : ∃ a : Nat, za = (a : Int) := ⟨za.toNat, by omega⟩
              have hll : na < u.length := by omega
              have zl0 : (0 : Int) ≤ (na : Int) := by omega
              have zl1 : (na : Int) < (u.length : Int) := by omega
              obtain ⟨bl', offl', capl', qal, cal, hpl, ea0, _, _, _⟩ := (HW.out.later HB.out).at hll
              obtain ⟨rfl, rfl⟩ : b = bl' ∧ off = offl' := by cases hpl; exact ⟨rfl, rfl⟩
              have hvl := nb_val (u := u) hl hll
              generalize u[na].c.toNat = xl at ea0 hvl
              clear hpl
              cases ttl : ((xl : Int) == (l[k].l.toNat : Int)) with
              | false =>
                have bl : nbB u (na : Int) l[k].l = false := by rw [hvl, ttl]
                clear hvl
                have HN := Lib.hid (HNo.out (by rw [HQk.out, bl]; simp))
                clear HYes HNo HQk HQ HN0 HM0 bl hl
                generalize l[k].c.toNat = v0 at x0 m0 hW1 KFd
                generalize l[k].ar = v1 at x1 m1 hW1 KFd
                generalize l[k].l.toNat = v2 at x2 tl ttl
                generalize l[k].r.toNat = v3 at x3 
                generalize l[k].gs.length = v4 at x4 m4 hW1 KFd
                generalize l[k].wt = v5 at x5 m5 hW1 KFd
                generalize l[k].out.length = v6 at x6 m6 hW1 KFd
                go_wp2_with fail
                rw [← hW1]
                clear hW1
                go_wp2_with fail
                go_region_held3 (fun w' => (∀ o, w'.cell? ⟨wr.heap.size, o, none⟩ = W1.cell? ⟨wr.heap.size, o, none⟩) ∧ (∀ o, w'.cell? ⟨b, o, none⟩ = W1.cell? ⟨b, o, none⟩)) (exact st_keep2 LR1.out LB1.out ((by with_reducible (repeat (first | exact Below.refl _ _ | refine st_chain ?_ (Hid.out (by assumption)) | refine st_chain ?_ ((Below.refl _ _).alloc (Nat.le_refl _) _) | refine st_chain ?_ (Below.refl _ _).drew))))) (first
                  | (go_at_call 24; with_reducible refine KFd.out.mono ?_; intro e w' hend; obtain ⟨he, hb⟩ := hend; subst he; replace hb := Lib.hid hb))
                have hb5 : Below W1.heap.size W1 w' := (by with_reducible (repeat (first | exact Below.refl _ _ | refine st_chain ?_ (Hid.out (by assumption)) | refine st_chain ?_ ((Below.refl _ _).alloc (Nat.le_refl _) _) | refine st_chain ?_ (Below.refl _ _).drew)))
                have C5 := Lib.hid (B1'.out.trans (hb5.mono B1'.out.size))
                have B5 := Lib.hid (HB.out.trans (C5.out.mono hbz))
                have r2 := (C5.out.cell (p := ⟨br, offr + k * 7 + 2, none⟩) lbr).trans x2
                have r3 := (C5.out.cell (p := ⟨br, offr + k * 7 + 3, none⟩) lbr).trans x3
                have ra := (C5.out.cell (p := ⟨b, off + na * 2, none⟩) LB.out).trans ea0
                clear hb hb5
                have s2 := fun d os => cell_regrown r2 d os
                have s3 := fun d os => cell_regrown r3 d os
                have sa := fun d os => cell_regrown ra d os
                go_wp2_with fail
                refine wp_region_quiet_below (by kernel_rfl) (by kernel_rfl) ?_
                repeat (any_goals (first | go_big_quiet_step (fail) | quiet_step (fail) | (refine wpQuiet_step (fun K hK => ?_); go_simp; (first | rw [if_neg (by omega)] | rw [if_pos (by omega)]); refine hK _ ?_; clear hK K)))
                refine wpQuiet_nil ?_
                intro _ hw'
                obtain ⟨⟨dq, osq⟩, hw''⟩ := hw'
                subst hw''
                have B6 : Hid (Below w.heap.size w («Sort».grow (redrawn w' dq) osq)) := Lib.hid (B5.out.trans ((below_regrown w' dq osq).mono B5.out.size))
                go_wp2_with fail
                go_roundw
                case rel => exact ⟨k + 1, by omega, by go_num, B6.out, HN.out⟩
                case measure => first | (simp [intOf]; done) | (simp [intOf]; omega)
              | true =>
                have bl : nbB u (na : Int) l[k].l = true := by rw [hvl, ttl]
                clear hvl
                by_cases hr : l[k].r = 0
                · have tr : ((l[k].r.toNat : Int) == 0) = true := by rw [hr]; rfl
                  have br' : nbB u zb l[k].r = true := HM0.out hr
                  have hzk : z = (k : Int) := by rw [← HZz.out]; exact HYes.out (by rw [HQk.out, bl, br']; rfl)
                  subst hzk
                  have tkk : ((k : Int) == (k : Int)) = true := beq_self_eq_true _
                  clear HYes HNo HQk HQ HN0 HM0 bl br' hl hr
                  generalize l[k].c.toNat = v0 at x0 m0 hW1 KFd
                  generalize l[k].ar = v1 at x1 m1 hW1 KFd
                  generalize l[k].l.toNat = v2 at x2 tl ttl
                  generalize l[k].r.toNat = v3 at x3 tr
                  generalize l[k].gs.length = v4 at x4 m4 hW1 KFd
                  generalize l[k].wt = v5 at x5 m5 hW1 KFd
                  generalize l[k].out.length = v6 at x6 m6 hW1 KFd
                  go_wp2_with fail
                  rw [← hW1]
                  clear hW1
                  go_wp2_with fail
                  go_region_held3 (fun w' => (∀ o, w'.cell? ⟨wr.heap.size, o, none⟩ = W1.cell? ⟨wr.heap.size, o, none⟩) ∧ (∀ o, w'.cell? ⟨b, o, none⟩ = W1.cell? ⟨b, o, none⟩)) (exact st_keep2 LR1.out LB1.out ((by with_reducible (repeat (first | exact Below.refl _ _ | refine st_chain ?_ (Hid.out (by assumption)) | refine st_chain ?_ ((Below.refl _ _).alloc (Nat.le_refl _) _) | refine st_chain ?_ (Below.refl _ _).drew))))) (first
                    | (go_at_call 24; with_reducible refine KFd.out.mono ?_; intro e w' hend; obtain ⟨he, hb⟩ := hend; subst he; replace hb := Lib.hid hb))
                  have hb5 : Below W1.heap.size W1 w' := (by with_reducible (repeat (first | exact Below.refl _ _ | refine st_chain ?_ (Hid.out (by assumption)) | refine st_chain ?_ ((Below.refl _ _).alloc (Nat.le_refl _) _) | refine st_chain ?_ (Below.refl _ _).drew)))
                  have C5 := Lib.hid (B1'.out.trans (hb5.mono B1'.out.size))
                  have B5 := Lib.hid (HB.out.trans (C5.out.mono hbz))
                  have r2 := (C5.out.cell (p := ⟨br, offr + k * 7 + 2, none⟩) lbr).trans x2
                  have r3 := (C5.out.cell (p := ⟨br, offr + k * 7 + 3, none⟩) lbr).trans x3
                  have ra := (C5.out.cell (p := ⟨b, off + na * 2, none⟩) LB.out).trans ea0
                  clear hb hb5
                  have s2 := fun d os => cell_regrown r2 d os
                  have s3 := fun d os => cell_regrown r3 d os
                  have sa := fun d os => cell_regrown ra d os
                  try (have zq : ¬ (0 : Int) ≤ zb := by omega)
                  try (have zq1 : ((0 : Int) ≤ zb) = False := by simp; omega)
                  try (have zq2 : decide ((0 : Int) ≤ zb) = false := by simp; omega)
                  go_wp2_with fail
                  refine wp_region_quiet_below (by kernel_rfl) (by kernel_rfl) ?_
                  repeat (any_goals (first | go_big_quiet_step (fail) | quiet_step (fail) | (refine wpQuiet_step (fun K hK => ?_); go_simp; (first | rw [if_neg (by omega)] | rw [if_pos (by omega)]); refine hK _ ?_; clear hK K)))
                  refine wpQuiet_nil ?_
                  intro _ hw'
                  obtain ⟨⟨dq, osq⟩, hw''⟩ := hw'
                  subst hw''
                  have B6 : Hid (Below w.heap.size w («Sort».grow (redrawn w' dq) osq)) := Lib.hid (B5.out.trans ((below_regrown w' dq osq).mono B5.out.size))
                  go_wp2_with fail
                  refine (KA.out _ (HE.out.later B6.out)).mono ?_
                  rintro e wz ⟨rfl, hb⟩
                  have Bz := Lib.hid (B6.out.trans (hb.mono B6.out.size))
                  clear hb
                  go_wp2_with fail
                  go_ret
                  exact ⟨rfl, Bz.out⟩
                · have tr : ((l[k].r.toNat : Int) == 0) = false := u8_zf hr
                  by_cases zr : zb < 0
                  · have br' : nbB u zb l[k].r = false := nb_none hr zr
                    have zr0 : ¬ (0 : Int) ≤ zb := by omega
                    have HN := Lib.hid (HNo.out (by rw [HQk.out, bl, br']; simp))
                    clear HYes HNo HQk HQ HN0 HM0 bl br' hl hr
                    generalize l[k].c.toNat = v0 at x0 m0 hW1 KFd
                    generalize l[k].ar = v1 at x1 m1 hW1 KFd
                    generalize l[k].l.toNat = v2 at x2 tl ttl
                    generalize l[k].r.toNat = v3 at x3 tr
                    generalize l[k].gs.length = v4 at x4 m4 hW1 KFd
                    generalize l[k].wt = v5 at x5 m5 hW1 KFd
                    generalize l[k].out.length = v6 at x6 m6 hW1 KFd
                    go_wp2_with fail
                    rw [← hW1]
                    clear hW1
                    go_wp2_with fail
                    go_region_held3 (fun w' => (∀ o, w'.cell? ⟨wr.heap.size, o, none⟩ = W1.cell? ⟨wr.heap.size, o, none⟩) ∧ (∀ o, w'.cell? ⟨b, o, none⟩ = W1.cell? ⟨b, o, none⟩)) (exact st_keep2 LR1.out LB1.out ((by with_reducible (repeat (first | exact Below.refl _ _ | refine st_chain ?_ (Hid.out (by assumption)) | refine st_chain ?_ ((Below.refl _ _).alloc (Nat.le_refl _) _) | refine st_chain ?_ (Below.refl _ _).drew))))) (first
                      | (go_at_call 24; with_reducible refine KFd.out.mono ?_; intro e w' hend; obtain ⟨he, hb⟩ := hend; subst he; replace hb := Lib.hid hb))
                    have hb5 : Below W1.heap.size W1 w' := (by with_reducible (repeat (first | exact Below.refl _ _ | refine st_chain ?_ (Hid.out (by assumption)) | refine st_chain ?_ ((Below.refl _ _).alloc (Nat.le_refl _) _) | refine st_chain ?_ (Below.refl _ _).drew)))
                    have C5 := Lib.hid (B1'.out.trans (hb5.mono B1'.out.size))
                    have B5 := Lib.hid (HB.out.trans (C5.out.mono hbz))
                    have r2 := (C5.out.cell (p := ⟨br, offr + k * 7 + 2, none⟩) lbr).trans x2
                    have r3 := (C5.out.cell (p := ⟨br, offr + k * 7 + 3, none⟩) lbr).trans x3
                    have ra := (C5.out.cell (p := ⟨b, off + na * 2, none⟩) LB.out).trans ea0
                    clear hb hb5
                    have s2 := fun d os => cell_regrown r2 d os
                    have s3 := fun d os => cell_regrown r3 d os
                    have sa := fun d os => cell_regrown ra d os
                    try (have zq : ¬ (0 : Int) ≤ zb := by omega)
                    try (have zq1 : ((0 : Int) ≤ zb) = False := by simp; omega)
                    try (have zq2 : decide ((0 : Int) ≤ zb) = false := by simp; omega)
                    go_wp2_with fail
                    refine wp_region_quiet_below (by kernel_rfl) (by kernel_rfl) ?_
                    repeat (any_goals (first | go_big_quiet_step (fail) | quiet_step (fail) | (refine wpQuiet_step (fun K hK => ?_); go_simp; (first | rw [if_neg (by omega)] | rw [if_pos (by omega)]); refine hK _ ?_; clear hK K)))
                    refine wpQuiet_nil ?_
                    intro _ hw'
                    obtain ⟨⟨dq, osq⟩, hw''⟩ := hw'
                    subst hw''
                    have B6 : Hid (Below w.heap.size w («Sort».grow (redrawn w' dq) osq)) := Lib.hid (B5.out.trans ((below_regrown w' dq osq).mono B5.out.size))
                    go_wp2_with fail
                    go_roundw
                    case rel => exact ⟨k + 1, by omega, by go_num, B6.out, HN.out⟩
                    case measure => first | (simp [intOf]; done) | (simp [intOf]; omega)
                  · obtain ⟨nb, rfl⟩ : ∃ a : Nat, zb = (a : Int) := ⟨zb.toNat, by omega⟩
                    have hrl : nb < u.length := by omega
                    have zr0 : (0 : Int) ≤ (nb : Int) := by omega
                    have zr1 : (nb : Int) < (u.length : Int) := by omega
                    obtain ⟨br', offr', capr', qar, car, hpr, eb0, _, _, _⟩ := (HW.out.later HB.out).at hrl
                    obtain ⟨rfl, rfl⟩ : b = br' ∧ off = offr' := by cases hpr; exact ⟨rfl, rfl⟩
                    have hvr := nb_val (u := u) hr hrl
                    generalize u[nb].c.toNat = xr at eb0 hvr
                    clear hpr
                    cases ttr : ((xr : Int) == (l[k].r.toNat : Int)) with
                    | false =>
                      have br' : nbB u (nb : Int) l[k].r = false := by rw [hvr, ttr]
                      clear hvr
                      have HN := Lib.hid (HNo.out (by rw [HQk.out, bl, br']; simp))
                      clear HYes HNo HQk HQ HN0 HM0 bl br' hl hr
                      generalize l[k].c.toNat = v0 at x0 m0 hW1 KFd
                      generalize l[k].ar = v1 at x1 m1 hW1 KFd
                      generalize l[k].l.toNat = v2 at x2 tl ttl
                      generalize l[k].r.toNat = v3 at x3 tr ttr
                      generalize l[k].gs.length = v4 at x4 m4 hW1 KFd
                      generalize l[k].wt = v5 at x5 m5 hW1 KFd
                      generalize l[k].out.length = v6 at x6 m6 hW1 KFd
                      go_wp2_with fail
                      rw [← hW1]
                      clear hW1
                      go_wp2_with fail
                      go_region_held3 (fun w' => (∀ o, w'.cell? ⟨wr.heap.size, o, none⟩ = W1.cell? ⟨wr.heap.size, o, none⟩) ∧ (∀ o, w'.cell? ⟨b, o, none⟩ = W1.cell? ⟨b, o, none⟩)) (exact st_keep2 LR1.out LB1.out ((by with_reducible (repeat (first | exact Below.refl _ _ | refine st_chain ?_ (Hid.out (by assumption)) | refine st_chain ?_ ((Below.refl _ _).alloc (Nat.le_refl _) _) | refine st_chain ?_ (Below.refl _ _).drew))))) (first
                        | (go_at_call 24; with_reducible refine KFd.out.mono ?_; intro e w' hend; obtain ⟨he, hb⟩ := hend; subst he; replace hb := Lib.hid hb))
                      have hb5 : Below W1.heap.size W1 w' := (by with_reducible (repeat (first | exact Below.refl _ _ | refine st_chain ?_ (Hid.out (by assumption)) | refine st_chain ?_ ((Below.refl _ _).alloc (Nat.le_refl _) _) | refine st_chain ?_ (Below.refl _ _).drew)))
                      have C5 := Lib.hid (B1'.out.trans (hb5.mono B1'.out.size))
                      have B5 := Lib.hid (HB.out.trans (C5.out.mono hbz))
                      have r2 := (C5.out.cell (p := ⟨br, offr + k * 7 + 2, none⟩) lbr).trans x2
                      have r3 := (C5.out.cell (p := ⟨br, offr + k * 7 + 3, none⟩) lbr).trans x3
                      have ra := (C5.out.cell (p := ⟨b, off + na * 2, none⟩) LB.out).trans ea0
                      have rb := (C5.out.cell (p := ⟨b, off + nb * 2, none⟩) LB.out).trans eb0
                      clear hb hb5
                      have s2 := fun d os => cell_regrown r2 d os
                      have s3 := fun d os => cell_regrown r3 d os
                      have sa := fun d os => cell_regrown ra d os
                      have sb := fun d os => cell_regrown rb d os
                      go_wp2_with fail
                      refine wp_region_quiet_below (by kernel_rfl) (by kernel_rfl) ?_
                      repeat (any_goals (first | go_big_quiet_step (fail) | quiet_step (fail) | (refine wpQuiet_step (fun K hK => ?_); go_simp; (first | rw [if_neg (by omega)] | rw [if_pos (by omega)]); refine hK _ ?_; clear hK K)))
                      refine wpQuiet_nil ?_
                      intro _ hw'
                      obtain ⟨⟨dq, osq⟩, hw''⟩ := hw'
                      subst hw''
                      have B6 : Hid (Below w.heap.size w («Sort».grow (redrawn w' dq) osq)) := Lib.hid (B5.out.trans ((below_regrown w' dq osq).mono B5.out.size))
                      go_wp2_with fail
                      go_roundw
                      case rel => exact ⟨k + 1, by omega, by go_num, B6.out, HN.out⟩
                      case measure => first | (simp [intOf]; done) | (simp [intOf]; omega)
                    | true =>
                      have br' : nbB u (nb : Int) l[k].r = true := by rw [hvr, ttr]
                      clear hvr
                      have hzk : z = (k : Int) := by rw [← HZz.out]; exact HYes.out (by rw [HQk.out, bl, br']; rfl)
                      subst hzk
                      have tkk : ((k : Int) == (k : Int)) = true := beq_self_eq_true _
                      clear HYes HNo HQk HQ HN0 HM0 bl br' hl hr
                      generalize l[k].c.toNat = v0 at x0 m0 hW1 KFd
                      generalize l[k].ar = v1 at x1 m1 hW1 KFd
                      generalize l[k].l.toNat = v2 at x2 tl ttl
                      generalize l[k].r.toNat = v3 at x3 tr ttr
                      generalize l[k].gs.length = v4 at x4 m4 hW1 KFd
                      generalize l[k].wt = v5 at x5 m5 hW1 KFd
                      generalize l[k].out.length = v6 at x6 m6 hW1 KFd
                      go_wp2_with fail
                      rw [← hW1]
                      clear hW1
                      go_wp2_with fail
                      go_region_held3 (fun w' => (∀ o, w'.cell? ⟨wr.heap.size, o, none⟩ = W1.cell? ⟨wr.heap.size, o, none⟩) ∧ (∀ o, w'.cell? ⟨b, o, none⟩ = W1.cell? ⟨b, o, none⟩)) (exact st_keep2 LR1.out LB1.out ((by with_reducible (repeat (first | exact Below.refl _ _ | refine st_chain ?_ (Hid.out (by assumption)) | refine st_chain ?_ ((Below.refl _ _).alloc (Nat.le_refl _) _) | refine st_chain ?_ (Below.refl _ _).drew))))) (first
                        | (go_at_call 24; with_reducible refine KFd.out.mono ?_; intro e w' hend; obtain ⟨he, hb⟩ := hend; subst he; replace hb := Lib.hid hb))
                      have hb5 : Below W1.heap.size W1 w' := (by with_reducible (repeat (first | exact Below.refl _ _ | refine st_chain ?_ (Hid.out (by assumption)) | refine st_chain ?_ ((Below.refl _ _).alloc (Nat.le_refl _) _) | refine st_chain ?_ (Below.refl _ _).drew)))
                      have C5 := Lib.hid (B1'.out.trans (hb5.mono B1'.out.size))
                      have B5 := Lib.hid (HB.out.trans (C5.out.mono hbz))
                      have r2 := (C5.out.cell (p := ⟨br, offr + k * 7 + 2, none⟩) lbr).trans x2
                      have r3 := (C5.out.cell (p := ⟨br, offr + k * 7 + 3, none⟩) lbr).trans x3
                      have ra := (C5.out.cell (p := ⟨b, off + na * 2, none⟩) LB.out).trans ea0
                      have rb := (C5.out.cell (p := ⟨b, off + nb * 2, none⟩) LB.out).trans eb0
                      clear hb hb5
                      have s2 := fun d os => cell_regrown r2 d os
                      have s3 := fun d os => cell_regrown r3 d os
                      have sa := fun d os => cell_regrown ra d os
                      have sb := fun d os => cell_regrown rb d os
                      go_wp2_with fail
                      refine wp_region_quiet_below (by kernel_rfl) (by kernel_rfl) ?_
                      repeat (any_goals (first | go_big_quiet_step (fail) | quiet_step (fail) | (refine wpQuiet_step (fun K hK => ?_); go_simp; (first | rw [if_neg (by omega)] | rw [if_pos (by omega)]); refine hK _ ?_; clear hK K)))
                      refine wpQuiet_nil ?_
                      intro _ hw'
                      obtain ⟨⟨dq, osq⟩, hw''⟩ := hw'
                      subst hw''
                      have B6 : Hid (Below w.heap.size w («Sort».grow (redrawn w' dq) osq)) := Lib.hid (B5.out.trans ((below_regrown w' dq osq).mono B5.out.size))
                      go_wp2_with fail
                      refine (KA.out _ (HE.out.later B6.out)).mono ?_
                      rintro e wz ⟨rfl, hb⟩
                      have Bz := Lib.hid (B6.out.trans (hb.mono B6.out.size))
                      clear hb
                      go_wp2_with fail
                      go_ret
                      exact ⟨rfl, Bz.out⟩
      · obtain rfl : k = l.length := by omega
        have k3 : ¬ (l.length : Int) < (l.length : Int) := by omega
        have hzn : z = -1 := by rw [← HZz.out]; exact cfAt_end HK.out
        subst hzn
        go_wp2_with fail
        refine (KA.out _ (HE.out.later HB.out)).mono ?_
        rintro e wz ⟨rfl, hb⟩
        have Bz := Lib.hid (HB.out.trans (hb.mono HB.out.size))
        clear hb
        go_wp2_with fail
        go_ret
        exact ⟨rfl, Bz.out⟩
end Go.Proofs.YtcoljbcjnggagaaGreatDoor
