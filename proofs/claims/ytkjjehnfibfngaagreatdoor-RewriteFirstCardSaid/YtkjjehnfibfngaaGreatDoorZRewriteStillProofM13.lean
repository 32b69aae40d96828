/-
  Texts of the proof, merged: ZRewLawT, ZRewCap, ZRewCard.
-/
import Derived.Test.YtkjjehnfibfngaaGreatDoorZRewriteStillProofM12
import Derived.SizedLaws
import Derived.Test.YtkjjehnfibfngaaGreatDoorCards
import Derived.Test.YtkjjehnfibfngaaGreatDoorTie
import Derived.Test.YtkjjehnfibfngaaGreatDoorRows
import Derived.Test.YtkjjehnfibfngaaGreatDoorZRewriteStillProofM11
import Derived.ProofKit
import Derived.OpenShut
import Derived.ChangeSlices
import Derived.ChangeMaps5
import Derived.Deep.DeepHandedRow
import Derived.Deep.SlicePairs
import Derived.Lib.LaidTab
import Derived.Lib.SmallJoins
import Derived.Stop.LaidErr
import Derived.Stop.Joined
import Derived.JoinedCond
import GoSem.PinnedTables
namespace Go.Proofs.YtkjjehnfibfngaaGreatDoor
open Go.RowKit
open WM RM
set_option linter.unusedVariables false
set_option linter.unusedSimpArgs false

set_option maxRecDepth 100000 in
set_option maxHeartbeats 3200000 in
theorem rstill_walk (v v1 gv ov : Value) (l : List Rw) (hl : l.length ≤ 9223372036854775807) (hsz : l.length * 80 ≤ 140737488351232) (n0 : NilOr v) (a : List Md) (ha : a.length ≤ 9223372036854775807) (haa : ∀ m ∈ a, m.a.length ≤ 9223372036854775807) (r : Rw)
    (w : World) (h1 : Rws w v l) (h2 : Mods w v1 a) (h3 : Fms w gv r.gs) (h4 : Shs w ov r.out) (n1 : NilOr v1) (he : Env w) :
    Calls Tryz.prog 6 #[v, v1, .agg #[.int .u8 r.c.toNat, .int .i64 r.ar, .int .u8 r.l.toNat, .int .u8 r.r.toNat, gv, .int .i64 r.wt, ov]] w fun e w' => e = .returned (.bool true) ∧ Below w.heap.size w w' := by
  have KA := Lib.hid alive_any
  have K1 := Lib.hid (fun vv w h h' => lvalid_any vv v1 (r :: l) a (by rw [List.length_cons]; omega) ha haa w h h')
  have KC := Lib.hid (fun w h => pcount_any v1 a r.c ha w h)
  obtain ⟨p, cap, rfl⟩ := h1.slice
  obtain ⟨pa, ca, rfl⟩ := h2.slice
  obtain ⟨pg, cg, rfl⟩ := h3.slice
  obtain ⟨po, co, rfl⟩ := h4.slice
  obtain ⟨W0, hW0⟩ : ∃ W, W = w.alloc (.cells #[.int .u8 r.c.toNat, .int .i64 r.ar, .int .u8 r.l.toNat, .int .u8 r.r.toNat, .slice pg r.gs.length cg, .int .i64 r.wt, .slice po r.out.length co] 38) := ⟨_, rfl⟩
  have N1 : W0.heap[w.heap.size]? = some (.cells #[.int .u8 r.c.toNat, .int .i64 r.ar, .int .u8 r.l.toNat, .int .u8 r.r.toNat, .slice pg r.gs.length cg, .int .i64 r.wt, .slice po r.out.length co] 38 (0, 0)) := by rw [hW0]; exact heap_alloc_new _ _
  have b0 : Below w.heap.size w W0 := by rw [hW0]; exact (Below.refl _ _).alloc (Nat.le_refl _) _
  have HB := Lib.hid b0
  have HE := Lib.hid (he.later b0)
  have H1 := Lib.hid (h1.later b0)
  have H2 := Lib.hid (h2.later b0)
  have H3 := Lib.hid (h3.later b0)
  have H4 := Lib.hid (h4.later b0)
  have q0 : W0.cell? ⟨w.heap.size, 0, none⟩ = some (.int .u8 r.c.toNat) := by simp [World.cell?, N1]
  have q1 : W0.cell? ⟨w.heap.size, 1, none⟩ = some (.int .i64 r.ar) := by simp [World.cell?, N1]
  have q2 : W0.cell? ⟨w.heap.size, 2, none⟩ = some (.int .u8 r.l.toNat) := by simp [World.cell?, N1]
  have q3 : W0.cell? ⟨w.heap.size, 3, none⟩ = some (.int .u8 r.r.toNat) := by simp [World.cell?, N1]
  have q4 : W0.cell? ⟨w.heap.size, 4, none⟩ = some (.slice pg r.gs.length cg) := by simp [World.cell?, N1]
  have q5 : W0.cell? ⟨w.heap.size, 5, none⟩ = some (.int .i64 r.wt) := by simp [World.cell?, N1]
  have q6 : W0.cell? ⟨w.heap.size, 6, none⟩ = some (.slice po r.out.length co) := by simp [World.cell?, N1]
  have l0 := lt_of_block N1
  obtain ⟨j0, hj, hy0, hy1, hy2⟩ := info_parts info_rw
  have HM : Hid (maxLen = 9223372036854775807) := Lib.hid rfl
  have HOne : Hid (∀ w1, Below W0.heap.size W0 w1 → Rws (w1.alloc (.cells #[.int .u8 r.c.toNat, .int .i64 r.ar, .int .u8 r.l.toNat, .int .u8 r.r.toNat, .slice pg r.gs.length cg, .int .i64 r.wt, .slice po r.out.length co] 38)) (.slice (some ⟨w1.heap.size, 0, none⟩) 1 1) [r]) := Lib.hid (fun w1 hb => by
    have hb2 : Below W0.heap.size W0 (w1.alloc (.cells #[.int .u8 r.c.toNat, .int .i64 r.ar, .int .u8 r.l.toNat, .int .u8 r.r.toNat, .slice pg r.gs.length cg, .int .i64 r.wt, .slice po r.out.length co] 38)) := hb.trans ((Below.refl _ _).alloc hb.size _)
    exact rws_row (base := 0) (l := [r]) (World.ownsRow_lit (base := 0) (e := 38) (size := 7) w1 #[.int .u8 r.c.toNat, .int .i64 r.ar, .int .u8 r.l.toNat, .int .u8 r.r.toNat, .slice pg r.gs.length cg, .int .i64 r.wt, .slice po r.out.length co] 1 (Nat.zero_le _) (by rw [HM.out]; omega) rfl) (RowR.one (H3.out.later hb2) (H4.out.later hb2)))
  have hs0 : W0.heap.size = w.heap.size + 1 := by rw [hW0]; simp
  have HS0 := Lib.hid hs0
  have HOwn : Hid (((w.alloc (.cells #[.int .u8 r.c.toNat, .int .i64 r.ar, .int .u8 r.l.toNat, .int .u8 r.r.toNat, .slice pg r.gs.length cg, .int .i64 r.wt, .slice po r.out.length co] 38)).alloc (.cells #[.int .u8 r.c.toNat, .int .i64 r.ar, .int .u8 r.l.toNat, .int .u8 r.r.toNat, .slice pg r.gs.length cg, .int .i64 r.wt, .slice po r.out.length co] 38)).ownsRow (w.heap.size + 1) 38 7 (.slice (some ⟨w.heap.size + 1, 0, none⟩) 1 1) 1 [.int .u8 r.c.toNat, .int .i64 r.ar, .int .u8 r.l.toNat, .int .u8 r.r.toNat, .slice pg r.gs.length cg, .int .i64 r.wt, .slice po r.out.length co]) := Lib.hid (by
    have h := World.ownsRow_lit (base := W0.heap.size) (e := 38) (size := 7) W0 #[.int .u8 r.c.toNat, .int .i64 r.ar, .int .u8 r.l.toNat, .int .u8 r.r.toNat, .slice pg r.gs.length cg, .int .i64 r.wt, .slice po r.out.length co] 1 (Nat.le_refl _) (by rw [HM.out]; omega) rfl
    rw [hs0] at h
    rw [← hW0]; exact h)
  have HBl : Hid (Below W0.heap.size W0 ((w.alloc (.cells #[.int .u8 r.c.toNat, .int .i64 r.ar, .int .u8 r.l.toNat, .int .u8 r.r.toNat, .slice pg r.gs.length cg, .int .i64 r.wt, .slice po r.out.length co] 38)).alloc (.cells #[.int .u8 r.c.toNat, .int .i64 r.ar, .int .u8 r.l.toNat, .int .u8 r.r.toNat, .slice pg r.gs.length cg, .int .i64 r.wt, .slice po r.out.length co] 38))) := Lib.hid (by rw [← hW0]; exact (Below.refl _ _).alloc (Nat.le_refl _) _)
  have HW := Lib.hid hW0
  clear N1 b0 h1 h2 h3 h4 he hl hs0 hW0
  rcases n0 with hv | ⟨ad, n, c, hv⟩
  · obtain ⟨rfl, e0, rfl⟩ : p = none ∧ l.length = 0 ∧ cap = 0 := by simp only [Value.slice.injEq] at hv; exact hv
    obtain rfl : l = [] := List.length_eq_zero_iff.1 e0
    clear hv e0
    cases va : lawB (r :: []) a with
    | false =>
      rw [va] at K1
      clear va
      go_enter Tryz.func6, Tryz.ntmps6
      go_wp2_with (at_builtin; refine j_append_nil rfl _ _ 22 rfl (w.heap.size + 1) 38 j0 7 Tryz.underlying22 hj (.slice (some ⟨w.heap.size + 1, 0, none⟩) 1 1) 1 [.int .u8 r.c.toNat, .int .i64 r.ar, .int .u8 r.l.toNat, .int .u8 r.r.toNat, .slice pg r.gs.length cg, .int .i64 r.wt, .slice po r.out.length co] rfl HOwn.out rfl ?_)
      obtain ⟨w2, hw2⟩ : ∃ W, W = (w.alloc (.cells #[.int .u8 r.c.toNat, .int .i64 r.ar, .int .u8 r.l.toNat, .int .u8 r.r.toNat, .slice pg r.gs.length cg, .int .i64 r.wt, .slice po r.out.length co] 38)).alloc (.cells #[.int .u8 r.c.toNat, .int .i64 r.ar, .int .u8 r.l.toNat, .int .u8 r.r.toNat, .slice pg r.gs.length cg, .int .i64 r.wt, .slice po r.out.length co] 38) := ⟨_, rfl⟩
      rw [← hw2]
      have R2 : Hid (Rws w2 (.slice (some ⟨w.heap.size + 1, 0, none⟩) 1 1) (r :: [])) := Lib.hid (by
        have h := HOne.out W0 (Below.refl _ _)
        rw [HS0.out] at h
        rw [hw2, ← HW.out]; exact h)
      have B2 : Hid (Below W0.heap.size W0 w2) := Lib.hid (by rw [hw2]; exact HBl.out)
      clear hw2
      go_wp2_with fail
      refine (K1.out _ _ R2.out (H2.out.later B2.out)).mono ?_
      rintro e w3 ⟨rfl, hb⟩
      have B3 := Lib.hid (B2.out.trans (hb.mono B2.out.size))
      have C3 := Lib.hid hb
      have y0 := (B3.out.cell (p := ⟨w.heap.size, 0, none⟩) l0).trans q0
      clear hb
      go_wp2_with fail
      refine (KA.out _ (HE.out.later B3.out)).mono ?_
      rintro e w4 ⟨rfl, hb⟩
      have Bz := Lib.hid (B3.out.trans (hb.mono B3.out.size))
      clear hb
      go_wp2_with fail
      go_ret
      exact ⟨(by first | rfl | simp), HB.out.trans (Bz.out.mono HB.out.size)⟩
    | true =>
      rw [va] at K1
      obtain ⟨g1, r1, g2, c1⟩ := lawB_iff.1 va
      obtain ⟨cn, hcn⟩ : ∃ cn : Int, ((cntB a r.c : Nat) : Int) = cn := ⟨_, rfl⟩
      rw [hcn] at KC
      clear va
      by_cases hc : 0 < cn
      · clear hcn g1 r1 g2 c1
        go_enter Tryz.func6, Tryz.ntmps6
        go_wp2_with (at_builtin; refine j_append_nil rfl _ _ 22 rfl (w.heap.size + 1) 38 j0 7 Tryz.underlying22 hj (.slice (some ⟨w.heap.size + 1, 0, none⟩) 1 1) 1 [.int .u8 r.c.toNat, .int .i64 r.ar, .int .u8 r.l.toNat, .int .u8 r.r.toNat, .slice pg r.gs.length cg, .int .i64 r.wt, .slice po r.out.length co] rfl HOwn.out rfl ?_)
        obtain ⟨w2, hw2⟩ : ∃ W, W = (w.alloc (.cells #[.int .u8 r.c.toNat, .int .i64 r.ar, .int .u8 r.l.toNat, .int .u8 r.r.toNat, .slice pg r.gs.length cg, .int .i64 r.wt, .slice po r.out.length co] 38)).alloc (.cells #[.int .u8 r.c.toNat, .int .i64 r.ar, .int .u8 r.l.toNat, .int .u8 r.r.toNat, .slice pg r.gs.length cg, .int .i64 r.wt, .slice po r.out.length co] 38) := ⟨_, rfl⟩
        rw [← hw2]
        have R2 : Hid (Rws w2 (.slice (some ⟨w.heap.size + 1, 0, none⟩) 1 1) (r :: [])) := Lib.hid (by
          have h := HOne.out W0 (Below.refl _ _)
          rw [HS0.out] at h
          rw [hw2, ← HW.out]; exact h)
        have B2 : Hid (Below W0.heap.size W0 w2) := Lib.hid (by rw [hw2]; exact HBl.out)
        clear hw2
        go_wp2_with fail
        refine (K1.out _ _ R2.out (H2.out.later B2.out)).mono ?_
        rintro e w3 ⟨rfl, hb⟩
        have B3 := Lib.hid (B2.out.trans (hb.mono B2.out.size))
        have C3 := Lib.hid hb
        have y0 := (B3.out.cell (p := ⟨w.heap.size, 0, none⟩) l0).trans q0
        clear hb
        go_wp2_with fail
        refine (KC.out _ (H2.out.later B3.out)).mono ?_
        rintro e w4 ⟨rfl, rfl⟩
        go_wp2_with fail
        refine (KA.out _ (HE.out.later B3.out)).mono ?_
        rintro e w5 ⟨rfl, hb⟩
        have Bz := Lib.hid (B3.out.trans (hb.mono B3.out.size))
        clear hb
        go_wp2_with fail
        go_ret
        exact ⟨(by first | rfl | simp), HB.out.trans (Bz.out.mono HB.out.size)⟩
      · have hcz : ¬ 0 < cntB a r.c := by omega
        obtain ⟨s1, s2, s3, s4⟩ := still_st r1 c1 (cnt_zero hcz)
        have sm := (greatR_sm g1).2
        have KX := Lib.hid (fun w h h' => pstep1_any (.slice none 0 0) [] (by first | omega | simp) (fun x hx => sm x (by simp [hx])) (.slice pa a.length ca) a ha haa w h h' n1)
        have KY := Lib.hid (fun vv w h h' => pstep1_any vv (r :: []) (by simp only [List.length_cons, List.length_nil]; omega) sm (.slice pa a.length ca) a ha haa w h h' n1)
        have KZ := Lib.hid (fun vv w h h' => pstep1_any vv [r] (by simp) (fun x hx => sm x (by simp at hx; simp [hx])) (.slice pa a.length ca) a ha haa w h h' n1)
        unfold PtEnd at KX KY KZ
        rw [s1, s2] at KY
        rw [s3, s4] at KZ
        obtain ⟨_, r2⟩ := rchk_tail r1
        have cx := stL_chk (rchk_tail r1).1 c1
        have gx := chk_a cx
        have lx := chk_len cx
        have KS := Lib.hid (fun x y w h h' => same_yes x y (stL [] a) (by omega) (fun m hm => by have := gx m hm; omega) w h h')
        have KT := Lib.hid (fun x w h h' => same_yes x (.slice pa a.length ca) a ha haa w h h')
        obtain ⟨e0, he0⟩ : ∃ e0, stC [] a = e0 := ⟨_, rfl⟩
        rw [he0] at KX KY
        have t1 : (e0 == e0) = true := by simp
        clear hcn g1 r1 g2 c1 hcz s1 s2 s3 s4 sm r2 cx gx lx he0
        go_enter Tryz.func6, Tryz.ntmps6
        go_wp2_with (at_builtin; refine j_append_nil rfl _ _ 22 rfl (w.heap.size + 1) 38 j0 7 Tryz.underlying22 hj (.slice (some ⟨w.heap.size + 1, 0, none⟩) 1 1) 1 [.int .u8 r.c.toNat, .int .i64 r.ar, .int .u8 r.l.toNat, .int .u8 r.r.toNat, .slice pg r.gs.length cg, .int .i64 r.wt, .slice po r.out.length co] rfl HOwn.out rfl ?_)
        obtain ⟨w2, hw2⟩ : ∃ W, W = (w.alloc (.cells #[.int .u8 r.c.toNat, .int .i64 r.ar, .int .u8 r.l.toNat, .int .u8 r.r.toNat, .slice pg r.gs.length cg, .int .i64 r.wt, .slice po r.out.length co] 38)).alloc (.cells #[.int .u8 r.c.toNat, .int .i64 r.ar, .int .u8 r.l.toNat, .int .u8 r.r.toNat, .slice pg r.gs.length cg, .int .i64 r.wt, .slice po r.out.length co] 38) := ⟨_, rfl⟩
        rw [← hw2]
        have R2 : Hid (Rws w2 (.slice (some ⟨w.heap.size + 1, 0, none⟩) 1 1) (r :: [])) := Lib.hid (by
          have h := HOne.out W0 (Below.refl _ _)
          rw [HS0.out] at h
          rw [hw2, ← HW.out]; exact h)
        have B2 : Hid (Below W0.heap.size W0 w2) := Lib.hid (by rw [hw2]; exact HBl.out)
        clear hw2
        go_wp2_with fail
        refine (K1.out _ _ R2.out (H2.out.later B2.out)).mono ?_
        rintro e w3 ⟨rfl, hb⟩
        have B3 := Lib.hid (B2.out.trans (hb.mono B2.out.size))
        have C3 := Lib.hid hb
        have y0 := (B3.out.cell (p := ⟨w.heap.size, 0, none⟩) l0).trans q0
        clear hb
        go_wp2_with fail
        refine (KC.out _ (H2.out.later B3.out)).mono ?_
        rintro e w4 ⟨rfl, rfl⟩
        go_wp2_with fail
        refine (KX.out _ (H1.out.later B3.out) (H2.out.later B3.out)).mono ?_
        rintro e w4 ⟨xv, vs4, rfl, hb, hm⟩
        have B4 := Lib.hid (B3.out.trans (hb.mono B3.out.size))
        have C4 := Lib.hid hb
        have M4 := Lib.hid hm
        clear hb hm
        go_wp2_with fail
        refine (KY.out _ _ ((R2.out.later C3.out).later C4.out) (H2.out.later B4.out)).mono ?_
        rintro e w5 ⟨yv, vs5, rfl, hb, hm⟩
        have B5 := Lib.hid (B4.out.trans (hb.mono B4.out.size))
        have C5 := Lib.hid hb
        have M5 := Lib.hid hm
        clear hb hm
        have z0 := (B5.out.cell (p := ⟨w.heap.size, 0, none⟩) l0).trans q0
        have z1 := (B5.out.cell (p := ⟨w.heap.size, 1, none⟩) l0).trans q1
        have z2 := (B5.out.cell (p := ⟨w.heap.size, 2, none⟩) l0).trans q2
        have z3 := (B5.out.cell (p := ⟨w.heap.size, 3, none⟩) l0).trans q3
        have z4 := (B5.out.cell (p := ⟨w.heap.size, 4, none⟩) l0).trans q4
        have z5 := (B5.out.cell (p := ⟨w.heap.size, 5, none⟩) l0).trans q5
        have z6 := (B5.out.cell (p := ⟨w.heap.size, 6, none⟩) l0).trans q6
        go_wp2_with fail
        have C6 : Hid (Below w5.heap.size w5 (w5.alloc (.cells #[.int .u8 r.c.toNat, .int .i64 r.ar, .int .u8 r.l.toNat, .int .u8 r.r.toNat, .slice pg r.gs.length cg, .int .i64 r.wt, .slice po r.out.length co] 38))) := Lib.hid ((Below.refl _ _).alloc (Nat.le_refl _) _)
        have B6 := Lib.hid (B5.out.trans (C6.out.mono B5.out.size))
        refine (KZ.out _ _ (HOne.out _ B5.out) (H2.out.later B6.out)).mono ?_
        rintro e w7 ⟨zv, vs7, rfl, hb, hm⟩
        have B7 := Lib.hid (B6.out.trans (hb.mono B6.out.size))
        have C7 := Lib.hid (C6.out.trans (hb.mono C6.out.size))
        have M7 := Lib.hid hm
        clear hb hm
        go_wp2_with fail
        refine (KS.out _ _ _ ((M4.out.later C5.out).later C7.out).mods (M5.out.later C7.out).mods).mono ?_
        rintro e w8 ⟨rfl, hb⟩
        have B8 := Lib.hid (B7.out.trans (hb.mono B7.out.size))
        have C8 := Lib.hid hb
        clear hb
        go_wp2_with fail
        refine (KT.out _ _ (M7.out.later C8.out).mods (H2.out.later B8.out)).mono ?_
        rintro e w9 ⟨rfl, hb⟩
        have B9 := Lib.hid (B8.out.trans (hb.mono B8.out.size))
        clear hb
        go_wp2_with fail
        refine (KA.out _ (HE.out.later B9.out)).mono ?_
        rintro e w10 ⟨rfl, hb⟩
        have Bz := Lib.hid (B9.out.trans (hb.mono B9.out.size))
        clear hb
        go_wp2_with fail
        go_ret
        exact ⟨(by first | rfl | simp), HB.out.trans (Bz.out.mono HB.out.size)⟩
  · obtain ⟨rfl, -, -⟩ : p = some ad ∧ l.length = n ∧ cap = c := by simp only [Value.slice.injEq] at hv; exact hv
    clear hv
    obtain ⟨news, hn, hr⟩ := rws_news H1.out
    have HN := Lib.hid hn
    have HR := Lib.hid hr
    clear hn hr
    cases va : lawB (r :: l) a with
    | false =>
      rw [va] at K1
      clear va
      go_enter Tryz.func6, Tryz.ntmps6
      go_wp2_with (at_builtin; refine wpList_append_own_at _ rfl _ _ 22 rfl (w.heap.size + 1) 38 j0 (.agg #[.int .u8 0, .int .i64 0, .int .u8 0, .int .u8 0, .slice none 0 0, .int .i64 0, .slice none 0 0]) 7 80 Tryz.underlying22 hj hy0 hy1 hy2 rfl (by decide) (.slice (some ⟨w.heap.size + 1, 0, none⟩) 1 1) 1 [.int .u8 r.c.toNat, .int .i64 r.ar, .int .u8 r.l.toNat, .int .u8 r.r.toNat, .slice pg r.gs.length cg, .int .i64 r.wt, .slice po r.out.length co] rfl HOwn.out ad l.length cap news rfl HN.out.len (HR.out _ HBl.out) HN.out.ones (by rw [HM.out]; omega) (by omega) (by rw [← HS0.out]; exact HBl.out.size) ?_; intro v2 w2 ho2 hg2 hn2 hb2)
      have B2 : Hid (Below W0.heap.size W0 w2) := Lib.hid (HBl.out.grown hg2 HBl.out.size (fun j e => by rw [HS0.out]; exact (owns_lt HOwn.out j e).1))
      have R2 : Hid (Rws w2 v2 (r :: l)) := Lib.hid (by
        have ho3 := ho2
        rw [show 1 + l.length = (r :: l).length by rw [List.length_cons]; omega] at ho3
        exact rws_row ho3 (RowR.app (l := [r]) (RowR.one (H3.out.later B2.out) (H4.out.later B2.out)) (HN.out.later B2.out)))
      obtain ⟨p2, c2, rfl⟩ := R2.out.slice
      clear ho2 hg2 hn2 hb2
      go_wp2_with fail
      refine (K1.out _ _ R2.out (H2.out.later B2.out)).mono ?_
      rintro e w3 ⟨rfl, hb⟩
      have B3 := Lib.hid (B2.out.trans (hb.mono B2.out.size))
      have C3 := Lib.hid hb
      have y0 := (B3.out.cell (p := ⟨w.heap.size, 0, none⟩) l0).trans q0
      clear hb
      go_wp2_with fail
      refine (KA.out _ (HE.out.later B3.out)).mono ?_
      rintro e w4 ⟨rfl, hb⟩
      have Bz := Lib.hid (B3.out.trans (hb.mono B3.out.size))
      clear hb
      go_wp2_with fail
      go_ret
      exact ⟨(by first | rfl | simp), HB.out.trans (Bz.out.mono HB.out.size)⟩
    | true =>
      rw [va] at K1
      obtain ⟨g1, r1, g2, c1⟩ := lawB_iff.1 va
      obtain ⟨cn, hcn⟩ : ∃ cn : Int, ((cntB a r.c : Nat) : Int) = cn := ⟨_, rfl⟩
      rw [hcn] at KC
      clear va
      by_cases hc : 0 < cn
      · clear hcn g1 r1 g2 c1
        go_enter Tryz.func6, Tryz.ntmps6
        go_wp2_with (at_builtin; refine wpList_append_own_at _ rfl _ _ 22 rfl (w.heap.size + 1) 38 j0 (.agg #[.int .u8 0, .int .i64 0, .int .u8 0, .int .u8 0, .slice none 0 0, .int .i64 0, .slice none 0 0]) 7 80 Tryz.underlying22 hj hy0 hy1 hy2 rfl (by decide) (.slice (some ⟨w.heap.size + 1, 0, none⟩) 1 1) 1 [.int .u8 r.c.toNat, .int .i64 r.ar, .int .u8 r.l.toNat, .int .u8 r.r.toNat, .slice pg r.gs.length cg, .int .i64 r.wt, .slice po r.out.length co] rfl HOwn.out ad l.length cap news rfl HN.out.len (HR.out _ HBl.out) HN.out.ones (by rw [HM.out]; omega) (by omega) (by rw [← HS0.out]; exact HBl.out.size) ?_; intro v2 w2 ho2 hg2 hn2 hb2)
        have B2 : Hid (Below W0.heap.size W0 w2) := Lib.hid (HBl.out.grown hg2 HBl.out.size (fun j e => by rw [HS0.out]; exact (owns_lt HOwn.out j e).1))
        have R2 : Hid (Rws w2 v2 (r :: l)) := Lib.hid (by
          have ho3 := ho2
          rw [show 1 + l.length = (r :: l).length by rw [List.length_cons]; omega] at ho3
          exact rws_row ho3 (RowR.app (l := [r]) (RowR.one (H3.out.later B2.out) (H4.out.later B2.out)) (HN.out.later B2.out)))
        obtain ⟨p2, c2, rfl⟩ := R2.out.slice
        clear ho2 hg2 hn2 hb2
        go_wp2_with fail
        refine (K1.out _ _ R2.out (H2.out.later B2.out)).mono ?_
        rintro e w3 ⟨rfl, hb⟩
        have B3 := Lib.hid (B2.out.trans (hb.mono B2.out.size))
        have C3 := Lib.hid hb
        have y0 := (B3.out.cell (p := ⟨w.heap.size, 0, none⟩) l0).trans q0
        clear hb
        go_wp2_with fail
        refine (KC.out _ (H2.out.later B3.out)).mono ?_
        rintro e w4 ⟨rfl, rfl⟩
        go_wp2_with fail
        refine (KA.out _ (HE.out.later B3.out)).mono ?_
        rintro e w5 ⟨rfl, hb⟩
        have Bz := Lib.hid (B3.out.trans (hb.mono B3.out.size))
        clear hb
        go_wp2_with fail
        go_ret
        exact ⟨(by first | rfl | simp), HB.out.trans (Bz.out.mono HB.out.size)⟩
      · have hcz : ¬ 0 < cntB a r.c := by omega
        obtain ⟨s1, s2, s3, s4⟩ := still_st r1 c1 (cnt_zero hcz)
        have sm := (greatR_sm g1).2
        have KX := Lib.hid (fun w h h' => pstep1_any (.slice (some ad) l.length cap) l (by first | omega | simp) (fun x hx => sm x (by simp [hx])) (.slice pa a.length ca) a ha haa w h h' n1)
        have KY := Lib.hid (fun vv w h h' => pstep1_any vv (r :: l) (by simp only [List.length_cons, List.length_nil]; omega) sm (.slice pa a.length ca) a ha haa w h h' n1)
        have KZ := Lib.hid (fun vv w h h' => pstep1_any vv [r] (by simp) (fun x hx => sm x (by simp at hx; simp [hx])) (.slice pa a.length ca) a ha haa w h h' n1)
        unfold PtEnd at KX KY KZ
        rw [s1, s2] at KY
        rw [s3, s4] at KZ
        obtain ⟨_, r2⟩ := rchk_tail r1
        have cx := stL_chk (rchk_tail r1).1 c1
        have gx := chk_a cx
        have lx := chk_len cx
        have KS := Lib.hid (fun x y w h h' => same_yes x y (stL l a) (by omega) (fun m hm => by have := gx m hm; omega) w h h')
        have KT := Lib.hid (fun x w h h' => same_yes x (.slice pa a.length ca) a ha haa w h h')
        obtain ⟨e0, he0⟩ : ∃ e0, stC l a = e0 := ⟨_, rfl⟩
        rw [he0] at KX KY
        have t1 : (e0 == e0) = true := by simp
        clear hcn g1 r1 g2 c1 hcz s1 s2 s3 s4 sm r2 cx gx lx he0
        go_enter Tryz.func6, Tryz.ntmps6
        go_wp2_with (at_builtin; refine wpList_append_own_at _ rfl _ _ 22 rfl (w.heap.size + 1) 38 j0 (.agg #[.int .u8 0, .int .i64 0, .int .u8 0, .int .u8 0, .slice none 0 0, .int .i64 0, .slice none 0 0]) 7 80 Tryz.underlying22 hj hy0 hy1 hy2 rfl (by decide) (.slice (some ⟨w.heap.size + 1, 0, none⟩) 1 1) 1 [.int .u8 r.c.toNat, .int .i64 r.ar, .int .u8 r.l.toNat, .int .u8 r.r.toNat, .slice pg r.gs.length cg, .int .i64 r.wt, .slice po r.out.length co] rfl HOwn.out ad l.length cap news rfl HN.out.len (HR.out _ HBl.out) HN.out.ones (by rw [HM.out]; omega) (by omega) (by rw [← HS0.out]; exact HBl.out.size) ?_; intro v2 w2 ho2 hg2 hn2 hb2)
        have B2 : Hid (Below W0.heap.size W0 w2) := Lib.hid (HBl.out.grown hg2 HBl.out.size (fun j e => by rw [HS0.out]; exact (owns_lt HOwn.out j e).1))
        have R2 : Hid (Rws w2 v2 (r :: l)) := Lib.hid (by
          have ho3 := ho2
          rw [show 1 + l.length = (r :: l).length by rw [List.length_cons]; omega] at ho3
          exact rws_row ho3 (RowR.app (l := [r]) (RowR.one (H3.out.later B2.out) (H4.out.later B2.out)) (HN.out.later B2.out)))
        obtain ⟨p2, c2, rfl⟩ := R2.out.slice
        clear ho2 hg2 hn2 hb2
        go_wp2_with fail
        refine (K1.out _ _ R2.out (H2.out.later B2.out)).mono ?_
        rintro e w3 ⟨rfl, hb⟩
        have B3 := Lib.hid (B2.out.trans (hb.mono B2.out.size))
        have C3 := Lib.hid hb
        have y0 := (B3.out.cell (p := ⟨w.heap.size, 0, none⟩) l0).trans q0
        clear hb
        go_wp2_with fail
        refine (KC.out _ (H2.out.later B3.out)).mono ?_
        rintro e w4 ⟨rfl, rfl⟩
        go_wp2_with fail
        refine (KX.out _ (H1.out.later B3.out) (H2.out.later B3.out)).mono ?_
        rintro e w4 ⟨xv, vs4, rfl, hb, hm⟩
        have B4 := Lib.hid (B3.out.trans (hb.mono B3.out.size))
        have C4 := Lib.hid hb
        have M4 := Lib.hid hm
        clear hb hm
        go_wp2_with fail
        refine (KY.out _ _ ((R2.out.later C3.out).later C4.out) (H2.out.later B4.out)).mono ?_
        rintro e w5 ⟨yv, vs5, rfl, hb, hm⟩
        have B5 := Lib.hid (B4.out.trans (hb.mono B4.out.size))
        have C5 := Lib.hid hb
        have M5 := Lib.hid hm
        clear hb hm
        have z0 := (B5.out.cell (p := ⟨w.heap.size, 0, none⟩) l0).trans q0
        have z1 := (B5.out.cell (p := ⟨w.heap.size, 1, none⟩) l0).trans q1
        have z2 := (B5.out.cell (p := ⟨w.heap.size, 2, none⟩) l0).trans q2
        have z3 := (B5.out.cell (p := ⟨w.heap.size, 3, none⟩) l0).trans q3
        have z4 := (B5.out.cell (p := ⟨w.heap.size, 4, none⟩) l0).trans q4
        have z5 := (B5.out.cell (p := ⟨w.heap.size, 5, none⟩) l0).trans q5
        have z6 := (B5.out.cell (p := ⟨w.heap.size, 6, none⟩) l0).trans q6
        go_wp2_with fail
        have C6 : Hid (Below w5.heap.size w5 (w5.alloc (.cells #[.int .u8 r.c.toNat, .int .i64 r.ar, .int .u8 r.l.toNat, .int .u8 r.r.toNat, .slice pg r.gs.length cg, .int .i64 r.wt, .slice po r.out.length co] 38))) := Lib.hid ((Below.refl _ _).alloc (Nat.le_refl _) _)
        have B6 := Lib.hid (B5.out.trans (C6.out.mono B5.out.size))
        refine (KZ.out _ _ (HOne.out _ B5.out) (H2.out.later B6.out)).mono ?_
        rintro e w7 ⟨zv, vs7, rfl, hb, hm⟩
        have B7 := Lib.hid (B6.out.trans (hb.mono B6.out.size))
        have C7 := Lib.hid (C6.out.trans (hb.mono C6.out.size))
        have M7 := Lib.hid hm
        clear hb hm
        go_wp2_with fail
        refine (KS.out _ _ _ ((M4.out.later C5.out).later C7.out).mods (M5.out.later C7.out).mods).mono ?_
        rintro e w8 ⟨rfl, hb⟩
        have B8 := Lib.hid (B7.out.trans (hb.mono B7.out.size))
        have C8 := Lib.hid hb
        clear hb
        go_wp2_with fail
        refine (KT.out _ _ (M7.out.later C8.out).mods (H2.out.later B8.out)).mono ?_
        rintro e w9 ⟨rfl, hb⟩
        have B9 := Lib.hid (B8.out.trans (hb.mono B8.out.size))
        clear hb
        go_wp2_with fail
        refine (KA.out _ (HE.out.later B9.out)).mono ?_
        rintro e w10 ⟨rfl, hb⟩
        have Bz := Lib.hid (B9.out.trans (hb.mono B9.out.size))
        clear hb
        go_wp2_with fail
        go_ret
        exact ⟨(by first | rfl | simp), HB.out.trans (Bz.out.mono HB.out.size)⟩
end Go.Proofs.YtkjjehnfibfngaaGreatDoor
namespace Go.Proofs.YtkjjehnfibfngaaGreatDoor
open Go.ChangeShapes Go.WideShapes Go.ChangeAt Go.RowKit Go.Joins Go.Deep
open WM RM
set_option linter.unusedVariables false
set_option linter.unusedSimpArgs false
set_option maxRecDepth 100000
section
variable {H : Type} {enc : TypeId × Value → H} {W : World} {base : Nat} {spare : Nat → Bool} {held : Bool}
theorem bytes_rw : Tryz.prog.bytesOf 38 = 80 := by kernel_rfl
theorem rwsCap {ts : List TypeId} {ds : List (DataW H)} (hsz : (DataW.weightsEach Tryz.prog ts ds).all (· ≤ reachBytes) = true) {j : Nat} (ht : ts[j]? = some 22) {d : DataW H} (hd : ds[j]? = some d)
    {v : Value} {p : List MemPlace} {a0 : Option Addr} {len cap : Nat} (hv : v = .slice a0 len cap) (h : DataW.Trod enc Tryz.prog W base spare held 22 v d p) : len * 80 ≤ 140737488351232 ∧ NilOr v := by
  obtain ⟨fuel, hf⟩ := h
  subst hv
  have hf2 : DataW.trod enc Tryz.prog W base spare held fuel 22 [.slice a0 len cap] = some (d, p) := by simpa [Value.cells] using hf
  rcases DataW.trod_slice Tryz.underlying22 hf2 with ⟨hcs, -⟩ | ⟨ad, len', cap', elems, rest, n, _, hcs, hx, _, hlc, hcm, hel, -⟩
  · simp at hcs
    obtain ⟨rfl, rfl, rfl⟩ := hcs
    exact ⟨by omega, .inl rfl⟩
  · simp at hcs
    obtain ⟨rfl, rfl, rfl⟩ := hcs
    obtain ⟨rfl, -⟩ := Prod.mk.inj hx
    have := sized_slice hsz ht hd Tryz.underlying22
    rw [bytes_rw, List.length_map, hel] at this
    unfold reachBytes at this
    exact ⟨by omega, .inr ⟨_, _, _, rfl⟩⟩
end
end Go.Proofs.YtkjjehnfibfngaaGreatDoor
namespace Go.Proofs.YtkjjehnfibfngaaGreatDoor.RewCard
set_option maxRecDepth 100000
set_option linter.unusedVariables false
set_option linter.unusedSimpArgs false
open Go.ChangeShapes Go.WideShapes Go.ChangeAt Go.RowKit Go.Joins Go.Deep

theorem own : ownKnob Tryz.prog.godebug = none := by kernel_rfl
theorem laid : laidOutB Tryz.prog = true := by kernel_rfl
theorem u8_of {k : Int} (h : (Lit.int .u8 k).wf = true) : ∃ c : UInt8, k = c.toNat := by
  have e1 : IntKind.u8.min = 0 := by decide
  have e2 : IntKind.u8.max = 255 := by decide
  simp [Lit.wf, e1, e2] at h
  exact ⟨UInt8.ofNat k.toNat, by rw [UInt8.toNat_ofNat']; omega⟩
theorem gType : (Tryz.prog.globals[3]?).map (·.type) = some 144 := by kernel_rfl
theorem rType : (Tryz.prog.globals[2]?).map (·.type) = some 84 := by kernel_rfl
theorem sType : (Tryz.prog.globals[1]?).map (·.type) = some 84 := by kernel_rfl
theorem cellsTab : Tryz.prog.cellsOf 144 = 20 := by kernel_rfl
theorem cellsU : Tryz.prog.cellsOf 125 = 1 := by kernel_rfl
theorem cellsE : Tryz.prog.cellsOf 152 = 1 := by kernel_rfl
theorem cellsS : Tryz.prog.cellsOf 9 = 1 := by kernel_rfl
theorem star : "*" ++ "errors.errorString" = "*errors.errorString" := by decide
theorem rowE : ∀ u, Tryz.prog.typeName? 3 u = some "*errors.errorString" → u = 150 := fun u h =>
  typeName_ptr_named (P := Tryz.prog) (nm := "errors.errorString") (by rw [star]; kernel_rfl) (by kernel_rfl) (by decide) u (by rw [star]; exact h)
theorem env {W : World} (h : laidMetH Tryz.prog Rows.rewriteJoinsRow.laid W) (hsh : W.ShapedOpen Tryz.prog) : Env W where
  tab := Lib.tabIs_of_head (rest := _) tab_named gType Tryz.underlying144 Tryz.underlying125 cellsU cellsTab (laidMet.tail (laidMet.tail h))
  len := Tryz.laysM145.s1_3 W hsh
  rge := by
    have h4 : laidMet Tryz.prog (("strconv.ErrRange", Rows.laid_strconv_ErrRange) :: [("strconv.ErrSyntax", Rows.laid_strconv_ErrSyntax), ("unicode/utf8.first", Rows.laid_unicode_utf8_first)]) W := laidMet.tail (laidMet.tail (laidMet.tail (laidMet.tail h)))
    obtain ⟨a, s, h1, _⟩ := laid_sentinel h4 rge_named rType Tryz.underlying84 rowE Tryz.underlying150 Tryz.underlying152 rfl rfl Tryz.underlying9 cellsE cellsS
    exact ⟨_, _, h1⟩
  syn := by
    have h4 : laidMet Tryz.prog (("strconv.ErrSyntax", Rows.laid_strconv_ErrSyntax) :: [("unicode/utf8.first", Rows.laid_unicode_utf8_first)]) W := laidMet.tail (laidMet.tail (laidMet.tail (laidMet.tail (laidMet.tail h))))
    obtain ⟨a, s, h1, _⟩ := laid_sentinel h4 syn_named sType Tryz.underlying84 rowE Tryz.underlying150 Tryz.underlying152 rfl rfl Tryz.underlying9 cellsE cellsS
    exact ⟨_, _, h1⟩
noncomputable def low : Nat := (World.holding Tryz.prog default ⟨#[], #[], []⟩).heap.size
/-- A world for the witness: the settled one, the tables and sentinels holding what their initialisers lay. -/
noncomputable def laidWorld (os : Os) : World :=
  let w0 := World.holding Tryz.prog os ⟨#[.cells #[.string ⟨#[118, 97, 108, 117, 101, 32, 111, 117, 116, 32, 111, 102, 32, 114, 97, 110, 103, 101]⟩] 152, .cells #[.string ⟨#[105, 110, 118, 97, 108, 105, 100, 32, 115, 121, 110, 116, 97, 120]⟩] 152], #[], []⟩
  { w0 with heap := (((((((w0.heap.modify 6 (fun o => match o with | .cells _ t frozen => .cells #[.int .u8 0, .int .u8 1, .int .u8 28, .int .u8 2, .int .u8 29, .int .u8 14, .int .u8 24, .int .u8 3, .int .u8 30, .int .u8 22, .int .u8 20, .int .u8 15, .int .u8 25, .int .u8 17, .int .u8 4, .int .u8 8, .int .u8 31, .int .u8 27, .int .u8 13, .int .u8 23, .int .u8 21, .int .u8 19, .int .u8 16, .int .u8 7, .int .u8 26, .int .u8 12, .int .u8 18, .int .u8 6, .int .u8 11, .int .u8 5, .int .u8 10, .int .u8 9] t frozen | o => o)).modify 7 (fun o => match o with | .cells _ t frozen => .cells #[.int .u8 0, .int .u8 1, .int .u8 56, .int .u8 2, .int .u8 57, .int .u8 49, .int .u8 28, .int .u8 3, .int .u8 61, .int .u8 58, .int .u8 42, .int .u8 50, .int .u8 38, .int .u8 29, .int .u8 17, .int .u8 4, .int .u8 62, .int .u8 47, .int .u8 59, .int .u8 36, .int .u8 45, .int .u8 43, .int .u8 51, .int .u8 22, .int .u8 53, .int .u8 39, .int .u8 33, .int .u8 30, .int .u8 24, .int .u8 18, .int .u8 12, .int .u8 5, .int .u8 63, .int .u8 55, .int .u8 48, .int .u8 27, .int .u8 60, .int .u8 41, .int .u8 37, .int .u8 16, .int .u8 46, .int .u8 35, .int .u8 44, .int .u8 21, .int .u8 52, .int .u8 32, .int .u8 23, .int .u8 11, .int .u8 54, .int .u8 26, .int .u8 40, .int .u8 15, .int .u8 34, .int .u8 20, .int .u8 31, .int .u8 10, .int .u8 25, .int .u8 14, .int .u8 19, .int .u8 9, .int .u8 13, .int .u8 8, .int .u8 7, .int .u8 6] t frozen | o => o)).modify 3 (fun o => match o with | .cells _ t frozen => .cells #[.int .u64 1, .int .u64 10, .int .u64 100, .int .u64 1000, .int .u64 10000, .int .u64 100000, .int .u64 1000000, .int .u64 10000000, .int .u64 100000000, .int .u64 1000000000, .int .u64 10000000000, .int .u64 100000000000, .int .u64 1000000000000, .int .u64 10000000000000, .int .u64 100000000000000, .int .u64 1000000000000000, .int .u64 10000000000000000, .int .u64 100000000000000000, .int .u64 1000000000000000000, .int .u64 10000000000000000000] t frozen | o => o)).modify 5 (fun o => match o with | .cells _ t frozen => .cells #[.int .u8 128, .int .u8 191, .int .u8 160, .int .u8 191, .int .u8 128, .int .u8 159, .int .u8 144, .int .u8 191, .int .u8 128, .int .u8 143, .int .u8 0, .int .u8 0, .int .u8 0, .int .u8 0, .int .u8 0, .int .u8 0, .int .u8 0, .int .u8 0, .int .u8 0, .int .u8 0, .int .u8 0, .int .u8 0, .int .u8 0, .int .u8 0, .int .u8 0, .int .u8 0, .int .u8 0, .int .u8 0, .int .u8 0, .int .u8 0, .int .u8 0, .int .u8 0] t frozen | o => o)).modify 4 (fun o => match o with | .cells _ t frozen => .cells (Go.Pinned.utf8FirstZ.map fun (n : Nat) => Value.int .u8 (n : Int)).toArray t frozen | o => o)).modify 2 (fun o => match o with | .cells _ t frozen => .cells #[.iface 150 (.pointer (some ⟨low, 0, none⟩))] t frozen | o => o)).modify 1 (fun o => match o with | .cells _ t frozen => .cells #[.iface 150 (.pointer (some ⟨low + 1, 0, none⟩))] t frozen | o => o)) }
end Go.Proofs.YtkjjehnfibfngaaGreatDoor.RewCard
