/-
  Texts of the proof, merged: BConPrJ, BConPrK, BConPrD.
-/
import Derived.Test.YtlmofdmbcddddaaGreatDoorBContextBranchProofM15
import Derived.Test.YtlmofdmbcddddaaGreatDoorBContextBranchProofM7
import Derived.Test.YtlmofdmbcddddaaGreatDoorBContextBranchProofM14
import Derived.Test.YtlmofdmbcddddaaGreatDoorBContextBranchProofM9
namespace Go.Proofs.YtlmofdmbcddddaaGreatDoor
open Go.RowKit
open WM RM CM
set_option linter.unusedVariables false
set_option linter.unusedSimpArgs false

/-- How step ends. -/
def CspEnd (g : Bs) (l : List Rw) (u : List Md) (b0 : Nat) (w : World) (e : Ending) (w' : World) : Prop := ∃ v vs, e = .returned (.tuple #[v, .int .i64 (csC g l u)]) ∧ Below w.heap.size w w' ∧ ModFr w' b0 v (csL g l u) vs
/-- Where the loop stands. -/
structure CsAt (w2 : World) (b0 : Nat) (g : Bs) (l : List Rw) (u : List Md) (k : Nat) (v : Value) (wr : World) : Prop where
  hi : k ≤ u.length
  below : Below w2.heap.size w2 wr
  own : ∃ d vs, cstp g l u k = some d ∧ d.length ≤ 20 * k ∧ ModFr wr b0 v d vs ∧ ∀ q, v.ownBlock = some q → w2.heap.size ≤ q
theorem csAt_push {w2 wr w3 w5 : World} {b0 : Nat} {g : Bs} {l : List Rw} {u : List Md} {k : Nat} {v v2 : Value} {d : List Md} {vs : List Value} {o : Obj} (h : CsAt w2 b0 g l u k v wr) (hk : k < u.length) (hd : cstp g l u k = some d) (hdl : d.length ≤ 20 * k) (hm : ModFr wr b0 v d vs) (hq : ∀ q, v.ownBlock = some q → w2.heap.size ≤ q)
    (hz : cfirst g l u k < 0) (hb : Below wr.heap.size wr w3) {av : Value} (ha : wr.ownsRow b0 3 1 av u[k].a.length (valsL u[k].a))
    (ho : w5.ownsRow b0 27 2 v2 (d.length + 1) (modC d vs ++ [.int .u8 u[k].c.toNat, av])) (hg : (w3.alloc o).grownBy w5 v.ownBlock) (hv : v2.ownBlock = v.ownBlock ∨ v2.ownBlock = some (w3.alloc o).heap.size) : CsAt w2 b0 g l u (k + 1) v2 w5 := by
  have z0 := h.below.size
  have z1 := hb.size
  have hba : Below wr.heap.size wr (w3.alloc o) := hb.alloc z1 _
  have hB := h.below.trans (hba.mono z0)
  refine ⟨hk, hB.grown hg hB.size (fun j e => hq j e), d ++ [u[k]], vs ++ [av], ?_, by rw [List.length_append]; simp; omega, mod_push (hm.later hba) (l_own_later ha hba) ho hg, fun q e => ?_⟩
  · rw [← md_get hk]; exact cstp_succ hd (csuc_self hz)
  · rcases hv with h1 | h1
    · exact hq q (h1 ▸ e)
    · rw [h1] at e
      have := Option.some.inj e
      have : (w3.alloc o).heap.size = w3.heap.size + 1 := by simp
      omega
theorem csAt_join {w2 wr w3 w5 : World} {b0 : Nat} {g : Bs} {l : List Rw} {u : List Md} {k : Nat} {v v2 mv : Value} {d ms : List Md} {vs mvs : List Value} (h : CsAt w2 b0 g l u k v wr) (hk : k < u.length) (hd : cstp g l u k = some d) (hdl : d.length ≤ 20 * k) (hm : ModFr wr b0 v d vs) (hq : ∀ q, v.ownBlock = some q → w2.heap.size ≤ q)
    (hs : csuc g l u k = some ms) (hml : ms.length ≤ 20) (hb : Below wr.heap.size wr w3) (hb0 : b0 ≤ wr.heap.size) (hm2 : ModFr w3 wr.heap.size mv ms mvs)
    (ho : w5.ownsRow b0 27 2 v2 (d.length + ms.length) (modC d vs ++ modC ms mvs)) (hg : w3.grownBy w5 v.ownBlock) (hv : v2.ownBlock = v.ownBlock ∨ v2.ownBlock = some w3.heap.size) : CsAt w2 b0 g l u (k + 1) v2 w5 := by
  have z0 := h.below.size
  have z1 := hb.size
  have hB := h.below.trans (hb.mono z0)
  refine ⟨hk, hB.grown hg hB.size (fun j e => hq j e), d ++ ms, vs ++ mvs, cstp_succ hd hs, by rw [List.length_append]; omega, modFr_join hm hb hm2 hb0 ho hg hv, fun q e => ?_⟩
  rcases hv with h1 | h1
  · exact hq q (h1 ▸ e)
  · rw [h1] at e
    have := Option.some.inj e; omega
theorem csAt_nil {w2 wr w3 : World} {b0 : Nat} {g : Bs} {l : List Rw} {u : List Md} {k : Nat} {v : Value} {d : List Md} {vs : List Value} (h : CsAt w2 b0 g l u k v wr) (hk : k < u.length) (hd : cstp g l u k = some d) (hdl : d.length ≤ 20 * k) (hm : ModFr wr b0 v d vs) (hq : ∀ q, v.ownBlock = some q → w2.heap.size ≤ q)
    (hs : csuc g l u k = some []) (hb : Below wr.heap.size wr w3) : CsAt w2 b0 g l u (k + 1) v w3 :=
  ⟨hk, h.below.trans (hb.mono h.below.size), d, vs, by have := cstp_succ hd hs; rwa [List.append_nil] at this, by omega, hm.later hb, hq⟩
theorem cstp_bad {g : Bs} {l : List Rw} {u : List Md} {k : Nat} (hk : k < u.length) (hs : csuc g l u k = none) : cstp g l u u.length = none := by
  have := cstp_none hs (u.length - (k + 1))
  rwa [show k + 1 + (u.length - (k + 1)) = u.length by omega] at this
set_option maxRecDepth 100000 in
set_option maxHeartbeats 6400000 in
theorem cpstep_any (p : Option Addr) (cap : Nat) (l : List Rw) (hs : ∀ r ∈ l, RwSm r) (s : ByteArray) (h0 : cchk (lA s) l = 0)
    (wv : Value) (u : List Md) (us : List Value) (h1 : chk u = 0) (b0 : Nat) (w : World) (hb0 : b0 ≤ w.heap.size) (hv : Rws w (.slice p l.length cap) l) (hw : ModFr w b0 wv u us) :
    Calls Tryz.prog 39 #[.slice p l.length cap, .string s, wv] w (CspEnd (lA s) l u b0 w) := by
  obtain ⟨p2, cap2, rfl⟩ := fr_slice hw.row
  have HV := Lib.hid hv
  have HW := Lib.hid hw
  have hz := cchk_zero h0
  have HMn := Lib.hid (many_no hz.1)
  have hu := chk_zero.1 h1
  have KL := Lib.hid (fun w h => look_any (.slice p2 u.length cap2) u h1 s w h)
  have KT := Lib.hid (fun i hi g1 g2 w h1 h2 h3 h4 => pvfirst_any (.slice p l.length cap) l (by have := (many_no hz.1).1; omega) hs (fun r hr => ⟨(hz.2.1 r hr).1, ((many_no hz.1).2 r hr).1⟩) s p2 cap2 u hu.1 (fun m hm => List.all_eq_true.1 hu.2.1 m hm) i hi g1 g2 w h1 h2 h3 h4)
  have HS := Lib.hid hs
  have HRu := Lib.hid (fun r hr => (hz.2.1 r hr).1)
  have HFu := Lib.hid (fun m hm => List.all_eq_true.1 hu.2.1 m hm)
  have hul := hu.1
  have H0 := Lib.hid h0
  have H1 := Lib.hid h1
  obtain ⟨j0, hj, hy0, hy1, hy2⟩ := info_parts info_mod
  have HM : Hid (maxLen = 9223372036854775807) := Lib.hid rfl
  clear hv hw hz hu hs h0 h1
  generalize lA s = g at KL KT H0 ⊢
  go_enter Tryz.func39, Tryz.ntmps39
  go_wp2_with fail
  refine (KL.out _ HW.out.mods).mono ?_
  rintro e w1 ⟨g1, g2, rfl, hb, hr1, hr2, _, _⟩
  have B1 := Lib.hid hb
  have R1 := Lib.hid hr1
  have R2 := Lib.hid hr2
  clear hb hr1 hr2
  obtain ⟨W2, hW2⟩ : ∃ W, W = w1.alloc (.cells #[.slice p2 u.length cap2, .slice (some ⟨g1, 0, none⟩) u.length u.length, .slice (some ⟨g2, 0, none⟩) u.length u.length] 92) := ⟨_, rfl⟩
  have N2 : W2.heap[w1.heap.size]? = some (.cells #[.slice p2 u.length cap2, .slice (some ⟨g1, 0, none⟩) u.length u.length, .slice (some ⟨g2, 0, none⟩) u.length u.length] 92 (0, 0)) := by rw [hW2]; exact heap_alloc_new _ _
  have b2 : Below w1.heap.size w1 W2 := by rw [hW2]; exact (Below.refl _ _).alloc (Nat.le_refl _) _
  have B2 := Lib.hid (B1.out.trans (b2.mono B1.out.size))
  have hz2 := B2.out.size
  have R1' := Lib.hid (R1.out.later b2)
  have R2' := Lib.hid (R2.out.later b2)
  have q0 : W2.cell? ⟨w1.heap.size, 0, none⟩ = some (.slice p2 u.length cap2) := by simp [World.cell?, N2]
  have q1 : W2.cell? ⟨w1.heap.size, 1, none⟩ = some (.slice (some ⟨g1, 0, none⟩) u.length u.length) := by simp [World.cell?, N2]
  have q2 : W2.cell? ⟨w1.heap.size, 2, none⟩ = some (.slice (some ⟨g2, 0, none⟩) u.length u.length) := by simp [World.cell?, N2]
  have l0 := lt_of_block N2
  have S0 : Hid (CsAt W2 b0 g l u 0 (.slice none 0 0) W2) := Lib.hid ⟨Nat.zero_le _, Below.refl _ _, [], [], rfl, by simp, modFr_nil _ _, fun q e => by cases e⟩
  clear N2 b2
  go_wp2_with fail
  rw [← hW2]
  clear hW2
  go_loopw [9, 19] (fun v i wr => ∃ k : Nat, i = .int .i64 k ∧ CsAt W2 b0 g l u k v wr) (fun _ i _ => u.length - (intOf i).toNat)
  case atStart => exact ⟨0, rfl, S0.out⟩
  case round =>
    obtain ⟨k, rfl, hS⟩ := hrel
    have HSt := Lib.hid hS
    have hsz := hS.below.size
    have hkl := hS.hi
    obtain ⟨d, vs, hd, hdl, hm, hq⟩ := hS.own
    have HD := Lib.hid hd
    have HMF := Lib.hid hm
    have HQ := Lib.hid hq
    clear hS hd hm hq
    by_cases hlt : k < u.length
    · have k1 : (k : Int) < (u.length : Int) := by omega
      have HBw := Lib.hid (B2.out.trans (HSt.out.below.mono hz2))
      obtain ⟨gw, rfl⟩ : ∃ gw, p2 = some ⟨gw, 0, none⟩ := by
        rcases HW.out.row.2 with ⟨_, h⟩ | ⟨gw, c, cur, h, _⟩
        · omega
        · cases h; exact ⟨gw, rfl⟩
      have hi2 : k < us.length := by rw [HW.out.len]; exact hlt
      have hro := (HW.out.later HBw.out).row
      have lgw := (owns_lt hro gw rfl).2
      have e0 := hro.cellAt (k * 2) (by omega)
      have e1 := hro.cellAt (k * 2 + 1) (by omega)
      rw [(modC_get u us k hlt hi2).1] at e0
      rw [(modC_get u us k hlt hi2).2] at e1
      have HA := Lib.hid ((HW.out.later HBw.out).args k hlt hi2).own
      have HNq := Lib.hid (nilOr_of_owned HA.out)
      obtain ⟨q, cq, hqq⟩ := fr_slice HA.out
      have HI := Lib.hid (ints_of_owned HA.out)
      rw [hqq] at e1 HA HI HNq
      have hfi := HFu.out _ (List.getElem_mem hlt)
      have HFi := Lib.hid hfi
      have z0 := (HSt.out.below.cell (p := ⟨w1.heap.size, 0, none⟩) l0).trans q0
      have z1 := (HSt.out.below.cell (p := ⟨w1.heap.size, 1, none⟩) l0).trans q1
      have z2 := (HSt.out.below.cell (p := ⟨w1.heap.size, 2, none⟩) l0).trans q2
      have KT1 := Lib.hid (KT.out k hlt g1 g2 wr (HV.out.later HBw.out) (HW.out.later HBw.out).mods (R1'.out.later HSt.out.below) (R2'.out.later HSt.out.below))
      obtain ⟨z, hz⟩ : ∃ z, cfirst g l u k = z := ⟨_, rfl⟩
      have HZ := Lib.hid hz
      rw [hz] at KT1
      clear hro hqq hfi hz
      go_wp2_with fail
      refine KT1.out.mono ?_
      rintro e w3 ⟨rfl, hb⟩
      have B3 := Lib.hid hb
      have D3 := Lib.hid (HBw.out.trans (hb.mono HBw.out.size))
      have f0 := (hb.cell (p := ⟨gw, k * 2, none⟩) lgw).trans e0
      have f1 := (hb.cell (p := ⟨gw, k * 2 + 1, none⟩) lgw).trans e1
      have LB : Hid (gw < w3.heap.size) := Lib.hid (Nat.lt_of_lt_of_le lgw hb.size)
      have hz3 := hb.size
      clear hb
      by_cases hz0 : z < 0
      · have H1r := Lib.hid ((HMF.out.later B3.out).row.alloc (.cells #[.int .u8 u[k].c.toNat, .slice q u[k].a.length cq] 27))
        obtain ⟨OB, hOB⟩ : ∃ o : Obj, o = .cells #[.int .u8 u[k].c.toNat, .slice q u[k].a.length cq] 27 := ⟨_, rfl⟩
        have HT := Lib.hid (fun (v2 : Value) (w5 : World) ho hg hv => csAt_push (w3 := w3) (o := OB) HSt.out hlt HD.out hdl HMF.out HQ.out (by rw [HZ.out]; exact hz0) B3.out HA.out (v2 := v2) (w5 := w5) ho hg hv)
        rw [hOB] at HT
        clear hOB
        generalize u[k].c.toNat = cn at e0 f0 H1r HT
        generalize u[k].a.length = xl at e1 f1 H1r HT
        have hsz5 : b0 ≤ (w3.alloc (.cells #[.int .u8 cn, .slice q xl cq] 27)).heap.size := by
          have : (w3.alloc (.cells #[.int .u8 cn, .slice q xl cq] 27)).heap.size = w3.heap.size + 1 := by simp
          omega
        go_wp2_with (at_builtin; refine wpList_append_own_at _ rfl _ _ 22 rfl b0 27 j0 (.agg #[.int .u8 0, .slice none 0 0]) 2 32 Tryz.underlying22 hj hy0 hy1 hy2 rfl (by decide) u9 d.length (modC d vs) rfl H1r.out ⟨w3.heap.size, 0, none⟩ 1 1 [.int .u8 cn, .slice q xl cq] rfl rfl (two_new _ _ _ _) (by simp [Value.oneCell']) (by rw [HM.out]; omega) (by omega) hsz5 ?_; intro v2 w5 ho2 hg2 hn2 hb2)
        have HT2 := Lib.hid (HT.out v2 w5 ho2 hg2 hb2)
        clear ho2 hg2 hn2 hb2
        go_wp2_with fail
        go_roundw
        case rel => exact ⟨k + 1, by go_num, HT2.out⟩
        case measure => first | (simp [intOf]; done) | (simp [intOf]; omega)
      · obtain ⟨kk, hkk⟩ : ∃ kk : Nat, z = (kk : Int) := ⟨z.toNat, by omega⟩
        subst hkk
        obtain ⟨hkl2, hfitc⟩ := fstF_fit HZ.out
        have hfit : fitB l[kk] u[k] = true := by have := cfit_fit hfitc; rwa [md_get hlt] at this
        have HSu : Hid (csuc g l u k = made l[kk] u[k]) := Lib.hid (by rw [csuc_made HZ.out hkl2, md_get hlt])
        obtain ⟨b3, off3, cap3, gg, gc, o, oc, hp3, lb3, hat⟩ := (HV.out.later D3.out).at hkl2
        obtain rfl : p = some ⟨b3, off3, none⟩ := by cases hp3; rfl
        have k7 : (kk : Int) < (l.length : Int) := by omega
        have k8 : ¬ ((kk : Int) < 0) := by omega
        have LB3 : Hid (b3 < w3.heap.size) := Lib.hid lb3
        have HRk := Lib.hid (HRu.out _ (List.getElem_mem hkl2))
        have HSm := Lib.hid (HS.out _ (List.getElem_mem hkl2))
        have ho20 := (HMn.out.2 _ (List.getElem_mem hkl2)).2
        have HOs := Lib.hid hat.out
        have HI3 := Lib.hid (HI.out.later B3.out)
        have HFt := Lib.hid hfit
        obtain ⟨x0, x1, x2, x3, x4, x5, x6, _, _⟩ := hat
        have KM0 : Hid (∀ w', Below w3.heap.size w3 w' → Calls Tryz.prog 56 #[.agg #[.int .u8 l[kk].c.toNat, .int .i64 l[kk].ar, .int .u8 l[kk].l.toNat, .int .u8 l[kk].r.toNat, .slice gg l[kk].gs.length gc, .int .i64 l[kk].wt, .slice o l[kk].out.length oc], .agg #[.int .u8 u[k].c.toNat, .slice q u[k].a.length cq]] w' (ScEnd l[kk] u[k] w')) :=
          Lib.hid (fun w' hb => psucc_any l[kk] u[k] gg gc o oc q cq HRk.out HSm.out ho20 HFi.out HFt.out HNq.out w' (HOs.out.later hb) (HI3.out.later hb))
        clear hp3 hfit hfitc
        cases hmd : made l[kk] u[k] with
        | none =>
          have KMd : Hid (∀ w', Below w3.heap.size w3 w' → Calls Tryz.prog 56 #[.agg #[.int .u8 l[kk].c.toNat, .int .i64 l[kk].ar, .int .u8 l[kk].l.toNat, .int .u8 l[kk].r.toNat, .slice gg l[kk].gs.length gc, .int .i64 l[kk].wt, .slice o l[kk].out.length oc], .agg #[.int .u8 u[k].c.toNat, .slice q u[k].a.length cq]] w' fun e w'' => (∃ p n c, e = .returned (.tuple #[.slice p n c, .int .i64 16])) ∧ Below w'.heap.size w' w'') :=
            Lib.hid (fun w' hb => (KM0.out w' hb).mono (by
              rintro e w'' ⟨hb2, ⟨_, h⟩ | ⟨d', v', vs', hy, _⟩⟩
              · exact ⟨h, hb2⟩
              · rw [hmd] at hy; simp at hy))
          have HE : Hid (∀ w', Below w.heap.size w w' → CspEnd g l u b0 w (.returned (.tuple #[.slice none 0 0, .int .i64 16])) w') := Lib.hid (fun w' hb => by
            have h5 := cs_none H0.out H1.out (cstp_bad hlt (HSu.out.trans hmd))
            exact ⟨_, [], by rw [h5.1], hb, by rw [h5.2]; exact modFr_nil _ _⟩)
          clear hmd
          go_wp2_with fail
          go_region_held3 (fun w' => (∀ o, w'.cell? ⟨b3, o, none⟩ = w3.cell? ⟨b3, o, none⟩) ∧ (∀ o, w'.cell? ⟨gw, o, none⟩ = w3.cell? ⟨gw, o, none⟩)) (exact st_keep2 LB3.out LB.out ((by with_reducible (repeat (first | exact Below.refl _ _ | refine st_chain ?_ (Hid.out (by assumption)) | refine st_chain ?_ ((Below.refl _ _).alloc (Nat.le_refl _) _) | refine st_chain ?_ (Below.refl _ _).drew))))) (first
            | (go_at_call 56; with_reducible refine (KMd.out _ ((by with_reducible (repeat (first | exact Below.refl _ _ | refine st_chain ?_ (Hid.out (by assumption)) | refine st_chain ?_ ((Below.refl _ _).alloc (Nat.le_refl _) _) | refine st_chain ?_ (Below.refl _ _).drew))))).mono ?_; intro e w' hend; obtain ⟨⟨pq, nq, cq', he⟩, hb⟩ := hend; subst he; replace hb := Lib.hid hb))
          have hb3 : Below w3.heap.size w3 w' := (by with_reducible (repeat (first | exact Below.refl _ _ | refine st_chain ?_ (Hid.out (by assumption)) | refine st_chain ?_ ((Below.refl _ _).alloc (Nat.le_refl _) _) | refine st_chain ?_ (Below.refl _ _).drew)))
          have HF := Lib.hid (HE.out _ (D3.out.trans (hb3.mono D3.out.size)))
          clear hb3
          go_wp2_with fail
          go_ret2
          exact HF.out
        | some ms =>
          have hml : ms.length ≤ 20 := by have := made_len hmd; omega
          have KMd : Hid (∀ w', Below w3.heap.size w3 w' → Calls Tryz.prog 56 #[.agg #[.int .u8 l[kk].c.toNat, .int .i64 l[kk].ar, .int .u8 l[kk].l.toNat, .int .u8 l[kk].r.toNat, .slice gg l[kk].gs.length gc, .int .i64 l[kk].wt, .slice o l[kk].out.length oc], .agg #[.int .u8 u[k].c.toNat, .slice q u[k].a.length cq]] w' fun e w'' => ∃ v' vs', e = .returned (.tuple #[v', .int .i64 0]) ∧ Below w'.heap.size w' w'' ∧ ModFr w'' w3.heap.size v' ms vs') :=
            Lib.hid (fun w' hb => (KM0.out w' hb).mono (by
              rintro e w'' ⟨hb2, ⟨hno, _⟩ | ⟨d', v', vs', hy, rfl, hm2⟩⟩
              · rw [hmd] at hno; simp at hno
              · rw [hmd] at hy
                obtain rfl := Option.some.inj hy
                exact ⟨v', vs', rfl, hb2, hm2.mono hb.size⟩))
          have HSu2 : Hid (csuc g l u k = some ms) := Lib.hid (HSu.out.trans hmd)
          clear hmd
          go_wp2_with fail
          go_region_held3 (fun w' => (∀ o, w'.cell? ⟨b3, o, none⟩ = w3.cell? ⟨b3, o, none⟩) ∧ (∀ o, w'.cell? ⟨gw, o, none⟩ = w3.cell? ⟨gw, o, none⟩)) (exact st_keep2 LB3.out LB.out ((by with_reducible (repeat (first | exact Below.refl _ _ | refine st_chain ?_ (Hid.out (by assumption)) | refine st_chain ?_ ((Below.refl _ _).alloc (Nat.le_refl _) _) | refine st_chain ?_ (Below.refl _ _).drew))))) (first
            | (go_at_call 56; with_reducible refine (KMd.out _ ((by with_reducible (repeat (first | exact Below.refl _ _ | refine st_chain ?_ (Hid.out (by assumption)) | refine st_chain ?_ ((Below.refl _ _).alloc (Nat.le_refl _) _) | refine st_chain ?_ (Below.refl _ _).drew))))).mono ?_; intro e w' hend; obtain ⟨mv, mvs, he, hb, hmm⟩ := hend; subst he; replace hb := Lib.hid hb; replace hmm := Lib.hid hmm))
          have hb3 : Below w3.heap.size w3 w' := (by with_reducible (repeat (first | exact Below.refl _ _ | refine st_chain ?_ (Hid.out (by assumption)) | refine st_chain ?_ ((Below.refl _ _).alloc (Nat.le_refl _) _) | refine st_chain ?_ (Below.refl _ _).drew)))
          have E3 := Lib.hid (B3.out.trans (hb3.mono B3.out.size))
          have M2 := Lib.hid (hmm.out.mono B3.out.size)
          clear hb hmm hb3
          have H1r := Lib.hid ((HMF.out.later E3.out).row)
          rcases j_slice M2.out with ⟨rfl, hb0'⟩ | ⟨ad, c, rfl⟩
          · have HT := Lib.hid (csAt_nil HSt.out hlt HD.out hdl HMF.out HQ.out (by rw [HSu2.out, hb0']) E3.out)
            clear hb0'
            go_wp2_with (at_builtin; refine j_append_nil rfl _ _ 22 rfl b0 27 j0 2 Tryz.underlying22 hj u9 d.length (modC d vs) rfl H1r.out rfl ?_)
            go_wp2_with fail
            go_roundw
            case rel => exact ⟨k + 1, by go_num, HT.out⟩
            case measure => first | (simp [intOf]; done) | (simp [intOf]; omega)
          · have H3 := Lib.hid (j_cells M2.out).2
            have H4 := Lib.hid (j_one M2.out)
            have hzz := E3.out.size
            have HT := Lib.hid (fun (v2 : Value) (w5 : World) ho hg hv => csAt_join (w3 := w') HSt.out hlt HD.out hdl HMF.out HQ.out HSu2.out hml E3.out (by omega) M2.out (v2 := v2) (w5 := w5) ho hg hv)
            go_wp2_with (at_builtin; refine wpList_append_own_at _ rfl _ _ 22 rfl b0 27 j0 (.agg #[.int .u8 0, .slice none 0 0]) 2 32 Tryz.underlying22 hj hy0 hy1 hy2 rfl (by decide) u9 d.length (modC d vs) rfl H1r.out ad (ms).length c (modC (ms) mvs) rfl (modC_length _ _ M2.out.len.symm) H3.out H4.out (by rw [HM.out]; omega) (by omega) (by omega) ?_; intro v2 w5 ho2 hg2 hn2 hb2)
            have HT2 := Lib.hid (HT.out v2 w5 ho2 hg2 hb2)
            clear ho2 hg2 hn2 hb2
            go_wp2_with fail
            go_roundw
            case rel => exact ⟨k + 1, by go_num, HT2.out⟩
            case measure => first | (simp [intOf]; done) | (simp [intOf]; omega)
    · obtain rfl : k = u.length := by omega
      have k1 : ¬ (u.length : Int) < (u.length : Int) := by omega
      have HBw := Lib.hid (B2.out.trans (HSt.out.below.mono hz2))
      obtain ⟨pu, cu, rfl⟩ := own_sl HMF.out.row
      by_cases h4 : 2000 < d.length
      · have c4 : (2000 : Int) < (d.length : Int) := by omega
        have HE : Hid (CspEnd g l u b0 w (.returned (.tuple #[.slice none 0 0, .int .i64 4])) wr) := Lib.hid (by
          have h5 := cs_many H0.out H1.out HD.out h4
          exact ⟨_, [], by rw [h5.1], HBw.out, by rw [h5.2]; exact modFr_nil _ _⟩)
        go_wp2_with fail
        go_ret2
        exact HE.out
      · have c4 : ¬ (2000 : Int) < (d.length : Int) := by omega
        have HE : Hid (CspEnd g l u b0 w (.returned (.tuple #[.slice pu d.length cu, .int .i64 0])) wr) := Lib.hid (by
          have h5 := cs_ok H0.out H1.out HD.out h4
          exact ⟨_, vs, by rw [h5.1], HBw.out, by rw [h5.2]; exact HMF.out⟩)
        go_wp2_with fail
        go_ret2
        exact HE.out
end Go.Proofs.YtlmofdmbcddddaaGreatDoor
namespace Go.Proofs.YtlmofdmbcddddaaGreatDoor
open Go.RowKit
open WM RM CM
set_option linter.unusedVariables false
set_option linter.unusedSimpArgs false

theorem csp_eq (g : Bs) (l : List Rw) (u : List Md) (b0 : Nat) (w : World) (e : Ending) (w' : World) : CspEnd g l u b0 w e w' ↔ ∃ v vs, e = .returned (.tuple #[v, .int .i64 (csC g l u)]) ∧ Below w.heap.size w w' ∧ ModFr w' b0 v (csL g l u) vs := Iff.rfl
/-- How Run ends. -/
def CpuEnd (g : Bs) (l : List Rw) (wd : List Md) (n : Int) (w : World) (e : Ending) (w' : World) : Prop := ∃ v vs, e = .returned (.tuple #[v, .int .i64 (cruC g l wd n)]) ∧ Below w.heap.size w w' ∧ ModFr w' w.heap.size v (cruL g l wd n) vs
/-- Where the loop stands. -/
structure CpnAt (w : World) (g : Bs) (l : List Rw) (wd : List Md) (n i : Nat) (u : List Md) (v : Value) (wr : World) : Prop where
  hi : i ≤ n
  below : Below w.heap.size w wr
  own : ∃ vs, ModFr wr w.heap.size v u vs
  ok : chk u = 0
  eq : cruF g l n wd = cruF g l (n - i) u
theorem chB_run {g : Bs} {l : List Rw} {u : List Md} {n : Int} (h : chB g l u ≠ 0) : cruC g l u n = chB g l u ∧ cruL g l u n = [] := by
  by_cases h0 : cchk g l = 0
  · rw [chB_ok h0] at h ⊢
    exact cru_word h0 h
  · rw [chB_no h0]; exact cru_rules h0
set_option maxRecDepth 100000 in
set_option maxHeartbeats 6400000 in
theorem cprun_any (v : Value) (l : List Rw) (hmax : l.length ≤ 50) (hs : ∀ r ∈ l, RwSm r) (s : ByteArray) (hss : s.size ≤ 9223372036854775807) (wv : Value) (wd : List Md) (hwl : wd.length ≤ 9223372036854775807) (hwa : ∀ m ∈ wd, m.a.length ≤ 9223372036854775807) (n : Int) (w : World) (hv : Rws w v l) (hnv : NilOr v) (hw : Mods w wv wd) (hnil : NilOr wv) :
    Calls Tryz.prog 25 #[v, .string s, wv, .int .i64 n] w (CpuEnd (lA s) l wd n w) := by
  have KC := Lib.hid (pcboth_any v l hmax hs s hss wv wd hwl hwa w hv hnv hw)
  have KStp := Lib.hid (fun p cap h0 wv u us h1 b0 w h2 h3 h4 => cpstep_any p cap l hs s h0 wv u us h1 b0 w h2 h3 h4)
  obtain ⟨p, cap, rfl⟩ := hv.slice
  obtain ⟨p2, cap2, rfl⟩ := hw.slice
  have HV := Lib.hid hv
  have HW := Lib.hid hw
  clear hv hw hwa hs hnv
  generalize lA s = g at KC KStp ⊢
  by_cases hch : chB g l wd = 0
  · obtain ⟨h0, h1⟩ := chB_zero hch
    have H0 := Lib.hid h0
    have H1 := Lib.hid h1
    have KT := Lib.hid (fun (w : World) (h : Mods w (.slice p2 wd.length cap2) wd) => ptwin_any (.slice p2 wd.length cap2) wd (by have := (chk_zero.1 h1).1; omega) (fun m hm => by have := chk_args h1 m hm; omega) w h hnil)
    rw [hch] at KC
    clear h0 h1 hch hnil
    by_cases h2 : n < 0
    · have HE : Hid (∀ w', Below w.heap.size w w' → CpuEnd g l wd n w (.returned (.tuple #[.slice none 0 0, .int .i64 2])) w') := Lib.hid (fun w' hb => by
        have h5 := cru_arg (n := n) H0.out H1.out (.inl h2)
        exact ⟨_, [], by rw [h5.1], hb, by rw [h5.2]; exact modFr_nil _ _⟩)
      go_enter Tryz.func25, Tryz.ntmps25
      go_wp2_with fail
      refine KC.out.mono ?_
      rintro e w1 ⟨rfl, hb⟩
      have B1 := Lib.hid hb
      clear hb
      go_wp2_with fail
      go_ret2
      exact HE.out _ B1.out
    · by_cases h3 : 30 < n
      · have HE : Hid (∀ w', Below w.heap.size w w' → CpuEnd g l wd n w (.returned (.tuple #[.slice none 0 0, .int .i64 2])) w') := Lib.hid (fun w' hb => by
          have h5 := cru_arg (n := n) H0.out H1.out (.inr h3)
          exact ⟨_, [], by rw [h5.1], hb, by rw [h5.2]; exact modFr_nil _ _⟩)
        go_enter Tryz.func25, Tryz.ntmps25
        go_wp2_with fail
        refine KC.out.mono ?_
        rintro e w1 ⟨rfl, hb⟩
        have B1 := Lib.hid hb
        clear hb
        go_wp2_with fail
        go_ret2
        exact HE.out _ B1.out
      · obtain ⟨N, hN⟩ : ∃ N : Nat, n = (N : Int) := ⟨n.toNat, by omega⟩
        subst hN
        have HR : Hid (∀ c u, cruF g l N wd = (c, u) → cruC g l wd (N : Int) = c ∧ cruL g l wd (N : Int) = if c = 0 then u else []) := Lib.hid (fun c u h => cru_run H0.out H1.out (by omega) h)
        go_enter Tryz.func25, Tryz.ntmps25
        go_wp2_with fail
        refine KC.out.mono ?_
        rintro e w1 ⟨rfl, hb⟩
        have B2 := Lib.hid hb
        clear hb
        go_wp2_with fail
        refine (KT.out _ (HW.out.later B2.out)).mono ?_
        rintro e w3 ⟨v3, vs3, rfl, hb, hmo⟩
        have S3 : Hid (CpnAt w g l wd N 0 wd v3 w3) := Lib.hid ⟨Nat.zero_le _, B2.out.trans (hb.mono B2.out.size), ⟨vs3, hmo.mono B2.out.size⟩, H1.out, rfl⟩
        clear hb hmo
        go_wp2_with fail
        go_loopw [11, 30] (fun v i wr => ∃ (i' : Nat) (u : List Md), i = .int .i64 (i' : Nat) ∧ CpnAt w g l wd N i' u v wr) (fun _ i _ => N - (intOf i).toNat)
        case atStart => exact ⟨0, wd, rfl, S3.out⟩
        case round =>
          rename World => wo
          obtain ⟨i, u, rfl, hS⟩ := hrel
          have HSt := Lib.hid hS
          have hi := hS.hi
          have hsz := hS.below.size
          obtain ⟨vs, hm⟩ := hS.own
          obtain ⟨q, c, hq⟩ := fr_slice hm.row
          subst hq
          have HMF := Lib.hid hm
          have HOk := Lib.hid hS.ok
          clear hS hm
          by_cases hlt : i < N
          · have k1 : (i : Int) < (N : Int) := by omega
            have HEq : Hid (cruF g l N wd = cruF g l (N - (i + 1) + 1) u) := Lib.hid (by rw [HSt.out.eq]; congr 1; omega)
            have KS1 := Lib.hid (KStp.out p cap H0.out (.slice q u.length c) u vs HOk.out w.heap.size wo hsz (HV.out.later HSt.out.below) HMF.out)
            unfold CspEnd at KS1
            by_cases h5 : csC g l u = 0
            · have HN : Hid (∀ w' v' vs', Below wo.heap.size wo w' → ModFr w' w.heap.size v' (csL g l u) vs' → CpnAt w g l wd N (i + 1) (csL g l u) v' w') := Lib.hid (fun w' v' vs' hb hm =>
                ⟨hlt, HSt.out.below.trans (hb.mono hsz), ⟨vs', hm⟩, csL_chk H0.out HOk.out, by rw [HEq.out, cruF_ok h5]⟩)
              rw [h5] at KS1
              clear h5
              go_wp2_with fail
              refine KS1.out.mono ?_
              rintro e w4 ⟨v4, vs4, rfl, hb, hm⟩
              have HT := Lib.hid (HN.out _ _ _ hb hm)
              clear hb hm
              go_wp2_with fail
              go_roundw
              case rel => exact ⟨i + 1, _, by go_num, HT.out⟩
              case measure => first | (simp [intOf]; done) | (simp [intOf]; omega)
            · have HE : Hid (∀ w', Below wo.heap.size wo w' → CpuEnd g l wd (N : Int) w (.returned (.tuple #[.slice none 0 0, .int .i64 (csC g l u)])) w') := Lib.hid (fun w' hb => by
                have h6 := HR.out _ _ (HEq.out.trans (cruF_no h5))
                rw [if_neg h5] at h6
                exact ⟨_, [], by rw [h6.1], HSt.out.below.trans (hb.mono hsz), by rw [h6.2]; exact modFr_nil _ _⟩)
              obtain ⟨z, hz⟩ : ∃ z, csC g l u = z := ⟨_, rfl⟩
              rw [hz] at KS1 HE h5
              have h6 : (z != 0) = true := by rw [bne_iff_ne]; exact h5
              clear h5 hz
              go_wp2_with fail
              refine KS1.out.mono ?_
              rintro e w4 ⟨v4, vs4, rfl, hb, hm⟩
              have B4 := Lib.hid hb
              clear hb hm
              go_wp2_with fail
              go_ret2
              exact HE.out _ B4.out
          · obtain rfl : i = N := by omega
            have k1 : ¬ (i : Int) < (i : Int) := by omega
            have HE : Hid (CpuEnd g l wd (i : Int) w (.returned (.tuple #[.slice q u.length c, .int .i64 0])) wo) := Lib.hid (by
              have h6 := HR.out 0 u (by rw [HSt.out.eq, Nat.sub_self]; rfl)
              rw [if_pos rfl] at h6
              exact ⟨_, vs, by rw [h6.1], HSt.out.below, by rw [h6.2]; exact HMF.out⟩)
            go_wp2_with fail
            go_ret2
            exact HE.out
  · have HE : Hid (∀ w', Below w.heap.size w w' → CpuEnd g l wd n w (.returned (.tuple #[.slice none 0 0, .int .i64 (chB g l wd)])) w') := Lib.hid (fun w' hb => ⟨_, [], by rw [(chB_run hch).1], hb, by rw [(chB_run hch).2]; exact modFr_nil _ _⟩)
    obtain ⟨c, hc⟩ : ∃ c, chB g l wd = c := ⟨_, rfl⟩
    rw [hc] at KC HE hch
    have h2 : (c != 0) = true := by rw [bne_iff_ne]; exact hch
    clear hch hc
    go_enter Tryz.func25, Tryz.ntmps25
    go_wp2_with fail
    refine KC.out.mono ?_
    rintro e w1 ⟨rfl, hb⟩
    have B1 := Lib.hid hb
    clear hb
    go_wp2_with fail
    go_ret2
    exact HE.out _ B1.out
theorem cru_one (g : Bs) (l : List Rw) (wd : List Md) : cruC g l wd 1 = csC g l wd ∧ cruL g l wd 1 = csL g l wd := by
  have hr : cruF g l 1 wd = if csC g l wd ≠ 0 then (csC g l wd, []) else (0, csL g l wd) := by
    rw [cruF]
    split
    · rfl
    · rw [cruF]
  have e : cruC g l wd 1 = csC g l wd := by
    unfold cruC
    by_cases h0 : cchk g l = 0
    · by_cases h1 : chk wd = 0
      · rw [if_neg (by simp [h0]), if_neg (by simp [h1]), if_neg (by omega)]
        show (cruF g l 1 wd).1 = _
        rw [hr]
        split
        · rfl
        · rename_i h; simp at h; exact h.symm
      · rw [if_neg (by simp [h0]), if_pos h1, (cs_word h0 h1).1]
    · rw [if_pos h0, (cs_rules h0).1]
  refine ⟨e, ?_⟩
  unfold cruL
  rw [e]
  by_cases h : csC g l wd = 0
  · rw [if_pos h]
    show (cruF g l 1 wd).2 = _
    rw [hr, if_neg (by simp [h])]
  · rw [if_neg h]
    unfold csL; rw [if_neg h]
/-- How Step ends. -/
def CptEnd (g : Bs) (l : List Rw) (wd : List Md) (w : World) (e : Ending) (w' : World) : Prop := ∃ v vs, e = .returned (.tuple #[v, .int .i64 (csC g l wd)]) ∧ Below w.heap.size w w' ∧ ModFr w' w.heap.size v (csL g l wd) vs
theorem fi_ch {g : Bs} {l : List Rw} {u : List Md} {i : Int} (h : chB g l u ≠ 0) : cfiC g l u i = chB g l u ∧ cfiV g l u i = 0 := by
  have e : cfiC g l u i = chB g l u := by
    unfold cfiC
    by_cases h0 : cchk g l = 0
    · rw [chB_ok h0] at h ⊢
      rw [if_neg (by simp [h0]), if_pos h]
    · rw [chB_no h0, if_pos h0]
  exact ⟨e, by unfold cfiV; rw [e, if_neg h]⟩
theorem fi_arg {g : Bs} {l : List Rw} {u : List Md} {i : Int} (h : chB g l u = 0) (h1 : i < 0 ∨ (u.length : Int) ≤ i) : cfiC g l u i = 2 ∧ cfiV g l u i = 0 := by
  obtain ⟨a, b⟩ := chB_zero h
  have e : cfiC g l u i = 2 := by unfold cfiC; rw [if_neg (by simp [a]), if_neg (by simp [b]), if_pos h1]
  exact ⟨e, by unfold cfiV; rw [e]; rfl⟩
theorem fi_ok {g : Bs} {l : List Rw} {u : List Md} {i : Nat} (h : chB g l u = 0) (h1 : i < u.length) : cfiC g l u (i : Int) = 0 ∧ cfiV g l u (i : Int) = cfirst g l u i := by
  obtain ⟨a, b⟩ := chB_zero h
  have e : cfiC g l u (i : Int) = 0 := by unfold cfiC; rw [if_neg (by simp [a]), if_neg (by simp [b]), if_neg (by omega)]
  exact ⟨e, by unfold cfiV; rw [e, if_pos rfl, Int.toNat_natCast]⟩
end Go.Proofs.YtlmofdmbcddddaaGreatDoor
namespace Go.Proofs.YtlmofdmbcddddaaGreatDoor
open Go.RowKit
open WM RM CM
set_option linter.unusedVariables false
set_option linter.unusedSimpArgs false

set_option maxRecDepth 100000 in
set_option maxHeartbeats 3200000 in
theorem neighbourL_any (v : Value) (u : List Md) (hu : u.length ≤ 9223372036854775807) (hua : ∀ m ∈ u, m.a.length ≤ 9223372036854775807) (i : Int) (s : ByteArray) (hs : s.size ≤ 9223372036854775807) (l : List Int) (hl : l.length = u.length) (x : Int)
    (hx : ∀ n : Nat, i = (n : Int) → ∀ h : n < l.length, askC (lA s) u i = 0 → l[n] = x) (hx0 : askC (lA s) u i ≠ 0 → x = 0)
    (KS : ∀ w, chk u = 0 → Mods w v u → Calls Tryz.prog 16 #[v, .string s] w (NbEnd l w)) (w : World) (hv : Mods w v u) :
    Calls Tryz.prog 15 #[.func (.func 16) #[] #[], v, .int .i64 i, .string s] w fun e w' => e = .returned (.tuple #[.int .i64 x, .int .i64 (askC (lA s) u i)]) ∧ Below w.heap.size w w' := by
  have KC := Lib.hid (fun w h => pcheck_any v u hu hua w h)
  obtain ⟨p, cap, rfl⟩ := hv.slice
  have HV := Lib.hid hv
  have KI := Lib.hid (fun w => cignorable_any s hs w)
  have KL := Lib.hid (fun c w => cletter_any c w)
  have HKS := Lib.hid KS
  clear hv KS
  generalize lA s = g at KI hx hx0 ⊢
  have HX := Lib.hid hx
  clear hx
  by_cases h0 : chk u = 0
  · rw [h0] at KC
    have HC0 := Lib.hid h0
    by_cases h1 : i < 0
    · have HF := ask_lo (g := g) h0 h1
      rw [hx0 (by rw [HF]; decide), HF]
      clear h0 HF hx0
      go_enter Tryz.func15, Tryz.ntmps15
      go_wp2_with fail
      refine (KC.out _ HV.out).mono ?_
      rintro e w1 ⟨rfl, hb⟩
      have B1 := Lib.hid hb
      clear hb
      go_wp2_with fail
      go_ret2
      exact ⟨rfl, B1.out⟩
    · by_cases h2 : (u.length : Int) ≤ i
      · have HF := ask_hi (g := g) h0 h2
        rw [hx0 (by rw [HF]; decide), HF]
        clear h0 HF hx0
        go_enter Tryz.func15, Tryz.ntmps15
        go_wp2_with fail
        refine (KC.out _ HV.out).mono ?_
        rintro e w1 ⟨rfl, hb⟩
        have B1 := Lib.hid hb
        clear hb
        go_wp2_with fail
        go_ret2
        exact ⟨rfl, B1.out⟩
      · obtain ⟨n, rfl⟩ : ∃ n : Nat, i = (n : Int) := ⟨i.toNat, by omega⟩
        have hlt : n < u.length := by omega
        have k1 : (n : Int) < (u.length : Int) := by omega
        have KL1 := Lib.hid (fun w => KL.out u[n].c w)
        have hmd : (md u ((n : Nat) : Int).toNat) = u[n] := by rw [Int.toNat_natCast, md_get hlt]
        cases hp : plnB u[n].c with
        | false =>
          rw [hp] at KL1
          have HF := ask_bra (g := g) (i := (n : Int)) h0 (by rw [hmd]; exact hp)
          rw [hx0 (by rw [HF]; decide), HF]
          clear h0 hp hmd HF hx0
          go_enter Tryz.func15, Tryz.ntmps15
          go_wp2_with fail
          refine (KC.out _ HV.out).mono ?_
          rintro e w1 ⟨rfl, hb⟩
          have B1 := Lib.hid hb
          obtain ⟨b, off, cap', q, d, hpp, e1, _, _, lb⟩ := (HV.out.later hb).at hlt
          obtain rfl : p = some ⟨b, off, none⟩ := by cases hpp; rfl
          clear hb hpp
          generalize u[n].c.toNat = xx at e1 KL1
          go_wp2_with fail
          refine (KL1.out _).mono ?_
          rintro e w2 ⟨rfl, hb⟩
          have B2 := Lib.hid (B1.out.trans (hb.mono B1.out.size))
          clear hb
          go_wp2_with fail
          go_ret2
          exact ⟨rfl, B2.out⟩
        | true =>
          rw [hp] at KL1
          have HF := ask_ign (g := g) (i := (n : Int)) h0 (by omega) k1 (by rw [hmd]; exact hp)
          clear hp hmd
          cases hg : ignB g with
          | true =>
            rw [hg] at KI HF
            rw [if_pos rfl] at HF
            have HX1 := Lib.hid (HX.out n rfl (by rw [hl]; exact hlt) HF)
            have HKS1 := Lib.hid (fun w h => HKS.out w h0 h)
            rw [HF]
            clear hg HF hx0 HX h0
            go_enter Tryz.func15, Tryz.ntmps15
            go_wp2_with fail
            refine (KC.out _ HV.out).mono ?_
            rintro e w1 ⟨rfl, hb⟩
            have B1 := Lib.hid hb
            obtain ⟨b, off, cap', q, d, hpp, e1, _, _, lb⟩ := (HV.out.later hb).at hlt
            obtain rfl : p = some ⟨b, off, none⟩ := by cases hpp; rfl
            clear hb hpp
            generalize u[n].c.toNat = xx at e1 KL1
            go_wp2_with fail
            refine (KL1.out _).mono ?_
            rintro e w2 ⟨rfl, hb⟩
            have B2 := Lib.hid (B1.out.trans (hb.mono B1.out.size))
            clear hb
            go_wp2_with fail
            refine (KI.out _).mono ?_
            rintro e w3 ⟨rfl, hb⟩
            have B3 := Lib.hid (B2.out.trans (hb.mono B2.out.size))
            clear hb
            go_wp2_with fail
            refine (HKS1.out _ (HV.out.later B3.out)).mono ?_
            rintro e w4 ⟨gl, rfl, hb, hrow, _⟩
            have B4 := Lib.hid (B3.out.trans (hb.mono B3.out.size))
            have q4 := hrow.cell (i := n) (by rw [hl]; exact hlt)
            rw [HX1.out] at q4
            rw [hl]
            clear hb hrow hl HX1
            go_wp2_with fail
            go_ret2
            exact ⟨rfl, B4.out⟩
          | false =>
            rw [hg] at KI HF
            rw [if_neg (by decide)] at HF
            rw [hx0 (by rw [HF]; decide), HF]
            clear hg HF hx0 HX h0
            go_enter Tryz.func15, Tryz.ntmps15
            go_wp2_with fail
            refine (KC.out _ HV.out).mono ?_
            rintro e w1 ⟨rfl, hb⟩
            have B1 := Lib.hid hb
            obtain ⟨b, off, cap', q, d, hpp, e1, _, _, lb⟩ := (HV.out.later hb).at hlt
            obtain rfl : p = some ⟨b, off, none⟩ := by cases hpp; rfl
            clear hb hpp
            generalize u[n].c.toNat = xx at e1 KL1
            go_wp2_with fail
            refine (KL1.out _).mono ?_
            rintro e w2 ⟨rfl, hb⟩
            have B2 := Lib.hid (B1.out.trans (hb.mono B1.out.size))
            clear hb
            go_wp2_with fail
            refine (KI.out _).mono ?_
            rintro e w3 ⟨rfl, hb⟩
            have B3 := Lib.hid (B2.out.trans (hb.mono B2.out.size))
            clear hb
            go_wp2_with fail
            go_ret2
            exact ⟨rfl, B3.out⟩
  · have HF := ask_word (g := g) (i := i) h0
    rw [hx0 (by rw [HF]; exact h0), HF]
    obtain ⟨c, hc⟩ : ∃ c, chk u = c := ⟨_, rfl⟩
    rw [hc] at KC h0 ⊢
    have t0 : (c != 0) = true := by rw [bne_iff_ne]; exact h0
    clear h0 hc HF hx0
    go_enter Tryz.func15, Tryz.ntmps15
    go_wp2_with fail
    refine (KC.out _ HV.out).mono ?_
    rintro e w1 ⟨rfl, hb⟩
    have B1 := Lib.hid hb
    clear hb
    go_wp2_with fail
    go_ret2
    exact ⟨rfl, B1.out⟩
set_option maxRecDepth 100000 in
set_option maxHeartbeats 3200000 in
theorem neighbourR_any (v : Value) (u : List Md) (hu : u.length ≤ 9223372036854775807) (hua : ∀ m ∈ u, m.a.length ≤ 9223372036854775807) (i : Int) (s : ByteArray) (hs : s.size ≤ 9223372036854775807) (l : List Int) (hl : l.length = u.length) (x : Int)
    (hx : ∀ n : Nat, i = (n : Int) → ∀ h : n < l.length, askC (lA s) u i = 0 → l[n] = x) (hx0 : askC (lA s) u i ≠ 0 → x = 0)
    (KS : ∀ w, chk u = 0 → Mods w v u → Calls Tryz.prog 17 #[v, .string s] w (NbEnd l w)) (w : World) (hv : Mods w v u) :
    Calls Tryz.prog 15 #[.func (.func 17) #[] #[], v, .int .i64 i, .string s] w fun e w' => e = .returned (.tuple #[.int .i64 x, .int .i64 (askC (lA s) u i)]) ∧ Below w.heap.size w w' := by
  have KC := Lib.hid (fun w h => pcheck_any v u hu hua w h)
  obtain ⟨p, cap, rfl⟩ := hv.slice
  have HV := Lib.hid hv
  have KI := Lib.hid (fun w => cignorable_any s hs w)
  have KL := Lib.hid (fun c w => cletter_any c w)
  have HKS := Lib.hid KS
  clear hv KS
  generalize lA s = g at KI hx hx0 ⊢
  have HX := Lib.hid hx
  clear hx
  by_cases h0 : chk u = 0
  · rw [h0] at KC
    have HC0 := Lib.hid h0
    by_cases h1 : i < 0
    · have HF := ask_lo (g := g) h0 h1
      rw [hx0 (by rw [HF]; decide), HF]
      clear h0 HF hx0
      go_enter Tryz.func15, Tryz.ntmps15
      go_wp2_with fail
      refine (KC.out _ HV.out).mono ?_
      rintro e w1 ⟨rfl, hb⟩
      have B1 := Lib.hid hb
      clear hb
      go_wp2_with fail
      go_ret2
      exact ⟨rfl, B1.out⟩
    · by_cases h2 : (u.length : Int) ≤ i
      · have HF := ask_hi (g := g) h0 h2
        rw [hx0 (by rw [HF]; decide), HF]
        clear h0 HF hx0
        go_enter Tryz.func15, Tryz.ntmps15
        go_wp2_with fail
        refine (KC.out _ HV.out).mono ?_
        rintro e w1 ⟨rfl, hb⟩
        have B1 := Lib.hid hb
        clear hb
        go_wp2_with fail
        go_ret2
        exact ⟨rfl, B1.out⟩
      · obtain ⟨n, rfl⟩ : ∃ n : Nat, i = (n : Int) := ⟨i.toNat, by omega⟩
        have hlt : n < u.length := by omega
        have k1 : (n : Int) < (u.length : Int) := by omega
        have KL1 := Lib.hid (fun w => KL.out u[n].c w)
        have hmd : (md u ((n : Nat) : Int).toNat) = u[n] := by rw [Int.toNat_natCast, md_get hlt]
        cases hp : plnB u[n].c with
        | false =>
          rw [hp] at KL1
          have HF := ask_bra (g := g) (i := (n : Int)) h0 (by rw [hmd]; exact hp)
          rw [hx0 (by rw [HF]; decide), HF]
          clear h0 hp hmd HF hx0
          go_enter Tryz.func15, Tryz.ntmps15
          go_wp2_with fail
          refine (KC.out _ HV.out).mono ?_
          rintro e w1 ⟨rfl, hb⟩
          have B1 := Lib.hid hb
          obtain ⟨b, off, cap', q, d, hpp, e1, _, _, lb⟩ := (HV.out.later hb).at hlt
          obtain rfl : p = some ⟨b, off, none⟩ := by cases hpp; rfl
          clear hb hpp
          generalize u[n].c.toNat = xx at e1 KL1
          go_wp2_with fail
          refine (KL1.out _).mono ?_
          rintro e w2 ⟨rfl, hb⟩
          have B2 := Lib.hid (B1.out.trans (hb.mono B1.out.size))
          clear hb
          go_wp2_with fail
          go_ret2
          exact ⟨rfl, B2.out⟩
        | true =>
          rw [hp] at KL1
          have HF := ask_ign (g := g) (i := (n : Int)) h0 (by omega) k1 (by rw [hmd]; exact hp)
          clear hp hmd
          cases hg : ignB g with
          | true =>
            rw [hg] at KI HF
            rw [if_pos rfl] at HF
            have HX1 := Lib.hid (HX.out n rfl (by rw [hl]; exact hlt) HF)
            have HKS1 := Lib.hid (fun w h => HKS.out w h0 h)
            rw [HF]
            clear hg HF hx0 HX h0
            go_enter Tryz.func15, Tryz.ntmps15
            go_wp2_with fail
            refine (KC.out _ HV.out).mono ?_
            rintro e w1 ⟨rfl, hb⟩
            have B1 := Lib.hid hb
            obtain ⟨b, off, cap', q, d, hpp, e1, _, _, lb⟩ := (HV.out.later hb).at hlt
            obtain rfl : p = some ⟨b, off, none⟩ := by cases hpp; rfl
            clear hb hpp
            generalize u[n].c.toNat = xx at e1 KL1
            go_wp2_with fail
            refine (KL1.out _).mono ?_
            rintro e w2 ⟨rfl, hb⟩
            have B2 := Lib.hid (B1.out.trans (hb.mono B1.out.size))
            clear hb
            go_wp2_with fail
            refine (KI.out _).mono ?_
            rintro e w3 ⟨rfl, hb⟩
            have B3 := Lib.hid (B2.out.trans (hb.mono B2.out.size))
            clear hb
            go_wp2_with fail
            refine (HKS1.out _ (HV.out.later B3.out)).mono ?_
            rintro e w4 ⟨gl, rfl, hb, hrow, _⟩
            have B4 := Lib.hid (B3.out.trans (hb.mono B3.out.size))
            have q4 := hrow.cell (i := n) (by rw [hl]; exact hlt)
            rw [HX1.out] at q4
            rw [hl]
            clear hb hrow hl HX1
            go_wp2_with fail
            go_ret2
            exact ⟨rfl, B4.out⟩
          | false =>
            rw [hg] at KI HF
            rw [if_neg (by decide)] at HF
            rw [hx0 (by rw [HF]; decide), HF]
            clear hg HF hx0 HX h0
            go_enter Tryz.func15, Tryz.ntmps15
            go_wp2_with fail
            refine (KC.out _ HV.out).mono ?_
            rintro e w1 ⟨rfl, hb⟩
            have B1 := Lib.hid hb
            obtain ⟨b, off, cap', q, d, hpp, e1, _, _, lb⟩ := (HV.out.later hb).at hlt
            obtain rfl : p = some ⟨b, off, none⟩ := by cases hpp; rfl
            clear hb hpp
            generalize u[n].c.toNat = xx at e1 KL1
            go_wp2_with fail
            refine (KL1.out _).mono ?_
            rintro e w2 ⟨rfl, hb⟩
            have B2 := Lib.hid (B1.out.trans (hb.mono B1.out.size))
            clear hb
            go_wp2_with fail
            refine (KI.out _).mono ?_
            rintro e w3 ⟨rfl, hb⟩
            have B3 := Lib.hid (B2.out.trans (hb.mono B2.out.size))
            clear hb
            go_wp2_with fail
            go_ret2
            exact ⟨rfl, B3.out⟩
  · have HF := ask_word (g := g) (i := i) h0
    rw [hx0 (by rw [HF]; exact h0), HF]
    obtain ⟨c, hc⟩ : ∃ c, chk u = c := ⟨_, rfl⟩
    rw [hc] at KC h0 ⊢
    have t0 : (c != 0) = true := by rw [bne_iff_ne]; exact h0
    clear h0 hc HF hx0
    go_enter Tryz.func15, Tryz.ntmps15
    go_wp2_with fail
    refine (KC.out _ HV.out).mono ?_
    rintro e w1 ⟨rfl, hb⟩
    have B1 := Lib.hid hb
    clear hb
    go_wp2_with fail
    go_ret2
    exact ⟨rfl, B1.out⟩
theorem lef_no {g : Bs} {u : List Md} {i : Int} (h : askC g u i ≠ 0) : lefV g u i = 0 := by unfold lefV; rw [if_neg h]
theorem rig_no {g : Bs} {u : List Md} {i : Int} (h : askC g u i ≠ 0) : rigV g u i = 0 := by unfold rigV; rw [if_neg h]
set_option maxRecDepth 100000 in
set_option maxHeartbeats 800000 in
theorem pleft_any (v : Value) (u : List Md) (hu : u.length ≤ 9223372036854775807) (hua : ∀ m ∈ u, m.a.length ≤ 9223372036854775807) (i : Int) (s : ByteArray) (hs : s.size ≤ 9223372036854775807) (w : World) (hv : Mods w v u) :
    Calls Tryz.prog 6 #[v, .int .i64 i, .string s] w fun e w' => e = .returned (.tuple #[.int .i64 (lefV (lA s) u i), .int .i64 (askC (lA s) u i)]) ∧ Below w.heap.size w w' := by
  have K := Lib.hid (neighbourL_any v u hu hua i s hs (lfL (lA s) u u.length) (lfL_length _ _ _) (lefV (lA s) u i)
    (fun n hn h h0 => by rw [lfL_length] at h; rw [lfL_get h, if_pos h]; unfold lefV; rw [if_pos h0, hn, Int.toNat_natCast]) lef_no
    (fun w h0 hv => lefts_any v u (chk_zero.1 h0).1 (chk_zero.1 h0).2.2.1 s w hv) w hv)
  obtain ⟨p, cap, rfl⟩ := hv.slice
  clear hv
  generalize lefV (lA s) u i = x at K ⊢
  generalize askC (lA s) u i = c at K ⊢
  go_enter Tryz.func6, Tryz.ntmps6
  go_wp2_with fail
  refine K.out.mono ?_
  rintro e w1 ⟨rfl, hb⟩
  have B1 := Lib.hid hb
  clear hb
  go_wp2_with fail
  go_ret2
  exact ⟨rfl, B1.out⟩
set_option maxRecDepth 100000 in
set_option maxHeartbeats 800000 in
theorem pright_any (v : Value) (u : List Md) (hu : u.length ≤ 9223372036854775807) (hua : ∀ m ∈ u, m.a.length ≤ 9223372036854775807) (i : Int) (s : ByteArray) (hs : s.size ≤ 9223372036854775807) (w : World) (hv : Mods w v u) :
    Calls Tryz.prog 7 #[v, .int .i64 i, .string s] w fun e w' => e = .returned (.tuple #[.int .i64 (rigV (lA s) u i), .int .i64 (askC (lA s) u i)]) ∧ Below w.heap.size w w' := by
  have K := Lib.hid (neighbourR_any v u hu hua i s hs (rgL (lA s) u u.length) (rgL_length _ _ _) (rigV (lA s) u i)
    (fun n hn h h0 => by rw [rgL_length] at h; rw [rgL_get h, if_pos (by omega)]; unfold rigV; rw [if_pos h0, hn, Int.toNat_natCast]) rig_no
    (fun w h0 hv => rights_any v u (chk_zero.1 h0).1 (chk_zero.1 h0).2.2.1 (chk_zero.1 h0).2.2.2 s w hv) w hv)
  obtain ⟨p, cap, rfl⟩ := hv.slice
  clear hv
  generalize rigV (lA s) u i = x at K ⊢
  generalize askC (lA s) u i = c at K ⊢
  go_enter Tryz.func7, Tryz.ntmps7
  go_wp2_with fail
  refine K.out.mono ?_
  rintro e w1 ⟨rfl, hb⟩
  have B1 := Lib.hid hb
  clear hb
  go_wp2_with fail
  go_ret2
  exact ⟨rfl, B1.out⟩
end Go.Proofs.YtlmofdmbcddddaaGreatDoor
