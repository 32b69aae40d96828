/-
  Texts of the proof, merged: ZRewPrV, ZRewPrG, ZRewRefM, ZRewPrH.
-/
import Derived.Test.YtkjjehnfibfngaaGreatDoorZRewriteStillProofM7
import Derived.Test.YtkjjehnfibfngaaGreatDoorZRewriteStillProofM4
import Derived.Lib.BufferMore
import Derived.Laws.ResultCell
namespace Go.Proofs.YtkjjehnfibfngaaGreatDoor
open Go.RowKit
open WM RM
set_option linter.unusedVariables false
set_option linter.unusedSimpArgs false

theorem vb_let {r : Rw} (h : (letB r.c && !(braB r.c)) = false) : validB r = false := by unfold validB; rw [h]; simp
theorem vb_lo {r : Rw} (h : r.ar < 0) : validB r = false := by unfold validB; rw [decide_eq_false (by omega : ¬ 0 ≤ r.ar)]; simp
theorem vb_hi {r : Rw} (h : 4 < r.ar) : validB r = false := by unfold validB; rw [decide_eq_false (by omega : ¬ r.ar ≤ 4)]; simp
theorem vb_plain {r : Rw} (h : plainB r = false) : validB r = false := by unfold validB; rw [h]; simp
theorem vb_gs {r : Rw} (h : r.gs.all (formB · r.ar) = false) : validB r = false := by unfold validB; rw [h]; simp
theorem vb_chk {r : Rw} (h : chk (r.out.map blM) ≠ 0) : validB r = false := by unfold validB; rw [decide_eq_false h]; simp
theorem vb_out {r : Rw} {k : Nat} (hk : k < r.out.length) (h : r.out[k].a.all (formB · r.ar) = false) : validB r = false := by
  have : (r.out.all fun s => s.a.all (formB · r.ar)) = false := by
    rw [List.all_eq_false]; exact ⟨_, List.getElem_mem hk, by rw [h]; simp⟩
  unfold validB; rw [this]; simp
theorem vb_ok {r : Rw} (h1 : (letB r.c && !(braB r.c)) = true) (h2 : ¬ r.ar < 0) (h3 : ¬ 4 < r.ar) (h4 : plainB r = true) (h5 : r.gs.all (formB · r.ar) = true) (h6 : chk (r.out.map blM) = 0) (h7 : ∀ k, (hk : k < r.out.length) → r.out[k].a.all (formB · r.ar) = true) : validB r = true := by
  have : (r.out.all fun s => s.a.all (formB · r.ar)) = true := by
    rw [List.all_eq_true]
    intro x hx
    obtain ⟨j, hj, rfl⟩ := List.mem_iff_getElem.1 hx
    exact h7 j hj
  unfold validB
  rw [h1, h4, h5, this, decide_eq_true h6, decide_eq_true (by omega : 0 ≤ r.ar), decide_eq_true (by omega : r.ar ≤ 4)]
  rfl
set_option maxRecDepth 100000 in
set_option maxHeartbeats 6400000 in
theorem pvalid_any (r : Rw) (gv ov : Value) (hs : RwSm r) (w : World) (h1 : Fms w gv r.gs) (h2 : Shs w ov r.out) :
    Calls Tryz.prog 41 #[rwV r gv ov] w fun e w' => e = .returned (.bool (validB r)) ∧ Below w.heap.size w w' := by
  obtain ⟨pg, cg, rfl⟩ := h1.slice
  obtain ⟨po, co, rfl⟩ := h2.slice
  obtain ⟨s1, s2, s3, s4⟩ := hs
  unfold rwV
  obtain ⟨W0, hW0⟩ : ∃ W, W = w.alloc (.cells #[.int .u8 r.c.toNat, .int .i64 r.ar, .int .u8 r.l.toNat, .int .u8 r.r.toNat, .slice pg r.gs.length cg, .int .i64 r.wt, .slice po r.out.length co] 38) := ⟨_, rfl⟩
  have N1 : W0.heap[w.heap.size]? = some (.cells #[.int .u8 r.c.toNat, .int .i64 r.ar, .int .u8 r.l.toNat, .int .u8 r.r.toNat, .slice pg r.gs.length cg, .int .i64 r.wt, .slice po r.out.length co] 38 (0, 0)) := by rw [hW0]; exact heap_alloc_new _ _
  have B0 : Below w.heap.size w W0 := by rw [hW0]; exact (Below.refl _ _).alloc (Nat.le_refl _) _
  have HB := Lib.hid B0
  have HG := Lib.hid (h1.later B0)
  have HO := Lib.hid (h2.later B0)
  have q0 : W0.cell? ⟨w.heap.size, 0, none⟩ = some (.int .u8 r.c.toNat) := by simp [World.cell?, N1]
  have q1 : W0.cell? ⟨w.heap.size, 1, none⟩ = some (.int .i64 r.ar) := by simp [World.cell?, N1]
  have q2 : W0.cell? ⟨w.heap.size, 2, none⟩ = some (.int .u8 r.l.toNat) := by simp [World.cell?, N1]
  have q3 : W0.cell? ⟨w.heap.size, 3, none⟩ = some (.int .u8 r.r.toNat) := by simp [World.cell?, N1]
  have q4 : W0.cell? ⟨w.heap.size, 4, none⟩ = some (.slice pg r.gs.length cg) := by simp [World.cell?, N1]
  have q5 : W0.cell? ⟨w.heap.size, 5, none⟩ = some (.int .i64 r.wt) := by simp [World.cell?, N1]
  have q6 : W0.cell? ⟨w.heap.size, 6, none⟩ = some (.slice po r.out.length co) := by simp [World.cell?, N1]
  have l0 := lt_of_block N1
  have KL := Lib.hid (fun w => pletter_any r.c w)
  have KG := Lib.hid (fun (w : World) (h : Fms w (.slice pg r.gs.length cg) r.gs) => allformed_any r.gs (.slice pg r.gs.length cg) r.ar (by omega) (fun f hf => by have := s3 f hf; omega) w h)
  have KB := Lib.hid (fun (w : World) (h : Shs w (.slice po r.out.length co) r.out) => blank_any r.out (.slice po r.out.length co) (by omega) (fun s hs => by have := (s4 s hs).1; omega) w h)
  have KC := Lib.hid (fun (w : World) (v : Value) (h : Mods w v (r.out.map blM)) => pcheck_any v (r.out.map blM) (by rw [List.length_map]; omega) (fun m hm => by
    obtain ⟨s, _, rfl⟩ := List.mem_map.1 hm
    simp [blM, zerM]; omega) w h)
  have H4 := Lib.hid s4
  clear N1 B0 h1 h2
  cases hlt : (letB r.c && !(braB r.c)) with
  | false =>
    have HF := Lib.hid (vb_let hlt)
    rw [hlt] at KL
    clear hlt
    obtain ⟨cn, hcn⟩ : ∃ cn : Nat, r.c.toNat = cn := ⟨_, rfl⟩
    rw [hcn] at KL hW0 q0 ⊢
    clear hcn
    go_enter Tryz.func41, Tryz.ntmps41
    go_wp2_with fail
    rw [← hW0]
    clear hW0
    go_wp2_with fail
    refine (KL.out _).mono ?_
    rintro e w1 ⟨rfl, hb⟩
    have B1 := Lib.hid (HB.out.trans (hb.mono HB.out.size))
    have D1 := Lib.hid hb
    have y1 := (hb.cell (p := ⟨w.heap.size, 1, none⟩) l0).trans q1
    have y2 := (hb.cell (p := ⟨w.heap.size, 2, none⟩) l0).trans q2
    have y3 := (hb.cell (p := ⟨w.heap.size, 3, none⟩) l0).trans q3
    have y4 := (hb.cell (p := ⟨w.heap.size, 4, none⟩) l0).trans q4
    have y5 := (hb.cell (p := ⟨w.heap.size, 5, none⟩) l0).trans q5
    have y6 := (hb.cell (p := ⟨w.heap.size, 6, none⟩) l0).trans q6
    clear hb
    go_wp2_with fail
    go_ret
    exact ⟨ret_bool HF.out.symm, B1.out⟩
  | true =>
    have HL := Lib.hid hlt
    rw [hlt] at KL
    clear hlt
    obtain ⟨cn, hcn⟩ : ∃ cn : Nat, r.c.toNat = cn := ⟨_, rfl⟩
    rw [hcn] at KL hW0 q0 ⊢
    clear hcn
    by_cases a1 : r.ar < 0
    · have HF := Lib.hid (vb_lo a1)
      generalize r.ar = ar at a1 q1 hW0 KG ⊢
      go_enter Tryz.func41, Tryz.ntmps41
      go_wp2_with fail
      rw [← hW0]
      clear hW0
      go_wp2_with fail
      refine (KL.out _).mono ?_
      rintro e w1 ⟨rfl, hb⟩
      have B1 := Lib.hid (HB.out.trans (hb.mono HB.out.size))
      have D1 := Lib.hid hb
      have y1 := (hb.cell (p := ⟨w.heap.size, 1, none⟩) l0).trans q1
      have y2 := (hb.cell (p := ⟨w.heap.size, 2, none⟩) l0).trans q2
      have y3 := (hb.cell (p := ⟨w.heap.size, 3, none⟩) l0).trans q3
      have y4 := (hb.cell (p := ⟨w.heap.size, 4, none⟩) l0).trans q4
      have y5 := (hb.cell (p := ⟨w.heap.size, 5, none⟩) l0).trans q5
      have y6 := (hb.cell (p := ⟨w.heap.size, 6, none⟩) l0).trans q6
      clear hb
      go_wp2_with fail
      go_ret
      exact ⟨ret_bool HF.out.symm, B1.out⟩
    by_cases a2 : 4 < r.ar
    · have HF := Lib.hid (vb_hi a2)
      generalize r.ar = ar at a1 a2 q1 hW0 KG ⊢
      go_enter Tryz.func41, Tryz.ntmps41
      go_wp2_with fail
      rw [← hW0]
      clear hW0
      go_wp2_with fail
      refine (KL.out _).mono ?_
      rintro e w1 ⟨rfl, hb⟩
      have B1 := Lib.hid (HB.out.trans (hb.mono HB.out.size))
      have D1 := Lib.hid hb
      have y1 := (hb.cell (p := ⟨w.heap.size, 1, none⟩) l0).trans q1
      have y2 := (hb.cell (p := ⟨w.heap.size, 2, none⟩) l0).trans q2
      have y3 := (hb.cell (p := ⟨w.heap.size, 3, none⟩) l0).trans q3
      have y4 := (hb.cell (p := ⟨w.heap.size, 4, none⟩) l0).trans q4
      have y5 := (hb.cell (p := ⟨w.heap.size, 5, none⟩) l0).trans q5
      have y6 := (hb.cell (p := ⟨w.heap.size, 6, none⟩) l0).trans q6
      clear hb
      go_wp2_with fail
      go_ret
      exact ⟨ret_bool HF.out.symm, B1.out⟩
    by_cases a3 : r.l = 0
    rotate_left
    · have HF := Lib.hid (vb_plain (plain_l a3))
      have t3 := u8_nz a3
      clear a3
      generalize r.l.toNat = ln at q2 t3 hW0 ⊢
      go_enter Tryz.func41, Tryz.ntmps41
      go_wp2_with fail
      rw [← hW0]
      clear hW0
      go_wp2_with fail
      refine (KL.out _).mono ?_
      rintro e w1 ⟨rfl, hb⟩
      have B1 := Lib.hid (HB.out.trans (hb.mono HB.out.size))
      have D1 := Lib.hid hb
      have y1 := (hb.cell (p := ⟨w.heap.size, 1, none⟩) l0).trans q1
      have y2 := (hb.cell (p := ⟨w.heap.size, 2, none⟩) l0).trans q2
      have y3 := (hb.cell (p := ⟨w.heap.size, 3, none⟩) l0).trans q3
      have y4 := (hb.cell (p := ⟨w.heap.size, 4, none⟩) l0).trans q4
      have y5 := (hb.cell (p := ⟨w.heap.size, 5, none⟩) l0).trans q5
      have y6 := (hb.cell (p := ⟨w.heap.size, 6, none⟩) l0).trans q6
      clear hb
      go_wp2_with fail
      go_ret
      exact ⟨ret_bool HF.out.symm, B1.out⟩
    have t3 : ((r.l.toNat : Int) != 0) = false := by rw [a3]; rfl
    by_cases a4 : r.r = 0
    rotate_left
    · have HF := Lib.hid (vb_plain (plain_r a4))
      have t4 := u8_nz a4
      clear a4 a3
      generalize r.l.toNat = ln at q2 t3 hW0 ⊢
      generalize r.r.toNat = rn at q3 t4 hW0 ⊢
      go_enter Tryz.func41, Tryz.ntmps41
      go_wp2_with fail
      rw [← hW0]
      clear hW0
      go_wp2_with fail
      refine (KL.out _).mono ?_
      rintro e w1 ⟨rfl, hb⟩
      have B1 := Lib.hid (HB.out.trans (hb.mono HB.out.size))
      have D1 := Lib.hid hb
      have y1 := (hb.cell (p := ⟨w.heap.size, 1, none⟩) l0).trans q1
      have y2 := (hb.cell (p := ⟨w.heap.size, 2, none⟩) l0).trans q2
      have y3 := (hb.cell (p := ⟨w.heap.size, 3, none⟩) l0).trans q3
      have y4 := (hb.cell (p := ⟨w.heap.size, 4, none⟩) l0).trans q4
      have y5 := (hb.cell (p := ⟨w.heap.size, 5, none⟩) l0).trans q5
      have y6 := (hb.cell (p := ⟨w.heap.size, 6, none⟩) l0).trans q6
      clear hb
      go_wp2_with fail
      go_ret
      exact ⟨ret_bool HF.out.symm, B1.out⟩
    have t4 : ((r.r.toNat : Int) != 0) = false := by rw [a4]; rfl
    by_cases a5 : r.wt = 0
    rotate_left
    · have HF := Lib.hid (vb_plain (plain_w a5))
      have t5 : (r.wt != 0) = true := by rw [bne_iff_ne]; exact a5
      clear a5 a4 a3
      generalize r.l.toNat = ln at q2 t3 hW0 ⊢
      generalize r.r.toNat = rn at q3 t4 hW0 ⊢
      generalize r.wt = wt at q5 t5 hW0 ⊢
      go_enter Tryz.func41, Tryz.ntmps41
      go_wp2_with fail
      rw [← hW0]
      clear hW0
      go_wp2_with fail
      refine (KL.out _).mono ?_
      rintro e w1 ⟨rfl, hb⟩
      have B1 := Lib.hid (HB.out.trans (hb.mono HB.out.size))
      have D1 := Lib.hid hb
      have y1 := (hb.cell (p := ⟨w.heap.size, 1, none⟩) l0).trans q1
      have y2 := (hb.cell (p := ⟨w.heap.size, 2, none⟩) l0).trans q2
      have y3 := (hb.cell (p := ⟨w.heap.size, 3, none⟩) l0).trans q3
      have y4 := (hb.cell (p := ⟨w.heap.size, 4, none⟩) l0).trans q4
      have y5 := (hb.cell (p := ⟨w.heap.size, 5, none⟩) l0).trans q5
      have y6 := (hb.cell (p := ⟨w.heap.size, 6, none⟩) l0).trans q6
      clear hb
      go_wp2_with fail
      go_ret
      exact ⟨ret_bool HF.out.symm, B1.out⟩
    have t5 : (r.wt != 0) = false := by rw [a5]; rfl
    have HP := Lib.hid (plain_ok a3 a4 a5)
    clear a3 a4 a5
    generalize r.l.toNat = ln at q2 t3 hW0 ⊢
    generalize r.r.toNat = rn at q3 t4 hW0 ⊢
    generalize r.wt = wt at q5 t5 hW0 ⊢
    cases hgs : r.gs.all (formB · r.ar) with
    | false =>
      have HF := Lib.hid (vb_gs hgs)
      rw [hgs] at KG
      clear hgs
      go_enter Tryz.func41, Tryz.ntmps41
      go_wp2_with fail
      rw [← hW0]
      clear hW0
      go_wp2_with fail
      refine (KL.out _).mono ?_
      rintro e w1 ⟨rfl, hb⟩
      have B1 := Lib.hid (HB.out.trans (hb.mono HB.out.size))
      have D1 := Lib.hid hb
      have y1 := (hb.cell (p := ⟨w.heap.size, 1, none⟩) l0).trans q1
      have y2 := (hb.cell (p := ⟨w.heap.size, 2, none⟩) l0).trans q2
      have y3 := (hb.cell (p := ⟨w.heap.size, 3, none⟩) l0).trans q3
      have y4 := (hb.cell (p := ⟨w.heap.size, 4, none⟩) l0).trans q4
      have y5 := (hb.cell (p := ⟨w.heap.size, 5, none⟩) l0).trans q5
      have y6 := (hb.cell (p := ⟨w.heap.size, 6, none⟩) l0).trans q6
      clear hb
      go_wp2_with fail
      refine (KG.out _ (HG.out.later D1.out)).mono ?_
      rintro e w2 ⟨rfl, hb⟩
      have B2 := Lib.hid (B1.out.trans (hb.mono B1.out.size))
      have D2 := Lib.hid (D1.out.trans (hb.mono D1.out.size))
      have z1 := (D2.out.cell (p := ⟨w.heap.size, 1, none⟩) l0).trans q1
      have z6 := (D2.out.cell (p := ⟨w.heap.size, 6, none⟩) l0).trans q6
      clear hb
      go_wp2_with fail
      go_ret
      exact ⟨ret_bool HF.out.symm, B2.out⟩
    | true =>
      have HGs := Lib.hid hgs
      rw [hgs] at KG
      clear hgs
      by_cases hck : chk (r.out.map blM) = 0
      rotate_left
      · have HF := Lib.hid (vb_chk hck)
        obtain ⟨x, hx⟩ : ∃ x, chk (r.out.map blM) = x := ⟨_, rfl⟩
        rw [hx] at KC hck
        have t6 : (x != 0) = true := by rw [bne_iff_ne]; exact hck
        clear hx hck
        go_enter Tryz.func41, Tryz.ntmps41
        go_wp2_with fail
        rw [← hW0]
        clear hW0
        go_wp2_with fail
        refine (KL.out _).mono ?_
        rintro e w1 ⟨rfl, hb⟩
        have B1 := Lib.hid (HB.out.trans (hb.mono HB.out.size))
        have D1 := Lib.hid hb
        have y1 := (hb.cell (p := ⟨w.heap.size, 1, none⟩) l0).trans q1
        have y2 := (hb.cell (p := ⟨w.heap.size, 2, none⟩) l0).trans q2
        have y3 := (hb.cell (p := ⟨w.heap.size, 3, none⟩) l0).trans q3
        have y4 := (hb.cell (p := ⟨w.heap.size, 4, none⟩) l0).trans q4
        have y5 := (hb.cell (p := ⟨w.heap.size, 5, none⟩) l0).trans q5
        have y6 := (hb.cell (p := ⟨w.heap.size, 6, none⟩) l0).trans q6
        clear hb
        go_wp2_with fail
        refine (KG.out _ (HG.out.later D1.out)).mono ?_
        rintro e w2 ⟨rfl, hb⟩
        have B2 := Lib.hid (B1.out.trans (hb.mono B1.out.size))
        have D2 := Lib.hid (D1.out.trans (hb.mono D1.out.size))
        have z1 := (D2.out.cell (p := ⟨w.heap.size, 1, none⟩) l0).trans q1
        have z6 := (D2.out.cell (p := ⟨w.heap.size, 6, none⟩) l0).trans q6
        clear hb
        go_wp2_with fail
        refine (KB.out _ (HO.out.later D2.out)).mono ?_
        rintro e w3 ⟨bv, vs, rfl, hb, hmf⟩
        have B3 := Lib.hid (B2.out.trans (hb.mono B2.out.size))
        have D3 := Lib.hid (D2.out.trans (hb.mono D2.out.size))
        have M3 := Lib.hid hmf.mods
        clear hb hmf
        go_wp2_with fail
        refine (KC.out _ _ M3.out).mono ?_
        rintro e w4 ⟨rfl, hb⟩
        have B4 := Lib.hid (B3.out.trans (hb.mono B3.out.size))
        have D4 := Lib.hid (D3.out.trans (hb.mono D3.out.size))
        have u1 := (D4.out.cell (p := ⟨w.heap.size, 1, none⟩) l0).trans q1
        have u6 := (D4.out.cell (p := ⟨w.heap.size, 6, none⟩) l0).trans q6
        clear hb
        go_wp2_with fail
        go_ret
        exact ⟨ret_bool HF.out.symm, B4.out⟩
      have HCk := Lib.hid hck
      rw [hck] at KC
      clear hck
      go_enter Tryz.func41, Tryz.ntmps41
      go_wp2_with fail
      rw [← hW0]
      clear hW0
      go_wp2_with fail
      refine (KL.out _).mono ?_
      rintro e w1 ⟨rfl, hb⟩
      have B1 := Lib.hid (HB.out.trans (hb.mono HB.out.size))
      have D1 := Lib.hid hb
      have y1 := (hb.cell (p := ⟨w.heap.size, 1, none⟩) l0).trans q1
      have y2 := (hb.cell (p := ⟨w.heap.size, 2, none⟩) l0).trans q2
      have y3 := (hb.cell (p := ⟨w.heap.size, 3, none⟩) l0).trans q3
      have y4 := (hb.cell (p := ⟨w.heap.size, 4, none⟩) l0).trans q4
      have y5 := (hb.cell (p := ⟨w.heap.size, 5, none⟩) l0).trans q5
      have y6 := (hb.cell (p := ⟨w.heap.size, 6, none⟩) l0).trans q6
      clear hb
      go_wp2_with fail
      refine (KG.out _ (HG.out.later D1.out)).mono ?_
      rintro e w2 ⟨rfl, hb⟩
      have B2 := Lib.hid (B1.out.trans (hb.mono B1.out.size))
      have D2 := Lib.hid (D1.out.trans (hb.mono D1.out.size))
      have z1 := (D2.out.cell (p := ⟨w.heap.size, 1, none⟩) l0).trans q1
      have z6 := (D2.out.cell (p := ⟨w.heap.size, 6, none⟩) l0).trans q6
      clear hb
      go_wp2_with fail
      refine (KB.out _ (HO.out.later D2.out)).mono ?_
      rintro e w3 ⟨bv, vs, rfl, hb, hmf⟩
      have B3 := Lib.hid (B2.out.trans (hb.mono B2.out.size))
      have D3 := Lib.hid (D2.out.trans (hb.mono D2.out.size))
      have M3 := Lib.hid hmf.mods
      clear hb hmf
      go_wp2_with fail
      refine (KC.out _ _ M3.out).mono ?_
      rintro e w4 ⟨rfl, hb⟩
      have B4 := Lib.hid (B3.out.trans (hb.mono B3.out.size))
      have D4 := Lib.hid (D3.out.trans (hb.mono D3.out.size))
      have u1 := (D4.out.cell (p := ⟨w.heap.size, 1, none⟩) l0).trans q1
      have u6 := (D4.out.cell (p := ⟨w.heap.size, 6, none⟩) l0).trans q6
      clear hb
      go_wp2_with fail
      have b4z := B4.out.size
      have d4z := D4.out.size
      go_loopw [50] (fun i wr => ∃ k : Nat, k ≤ r.out.length ∧ i = .int .i64 k ∧ Below W0.heap.size W0 wr ∧ ∀ j, (h : j < r.out.length) → j < k → r.out[j].a.all (formB · r.ar) = true) (fun i _ => r.out.length - (intOf i).toNat)
      case atStart => exact ⟨0, Nat.zero_le _, rfl, D4.out, fun j _ h => by omega⟩
      case round =>
        rename World => wo
        obtain ⟨k, hk, rfl, hb, hok⟩ := hrel
        have HK := Lib.hid hok
        have HBr := Lib.hid hb
        have v1 := (hb.cell (p := ⟨w.heap.size, 1, none⟩) l0).trans q1
        have lo : w.heap.size < wo.heap.size := Nat.lt_of_lt_of_le l0 hb.size
        clear hok hb
        by_cases hlt : k < r.out.length
        · obtain ⟨b, off, cap', q, c, hp, e1, e2, hin, lb⟩ := (HO.out.later HBr.out).at hlt
          obtain rfl : po = some ⟨b, off, none⟩ := by cases hp; rfl
          have k1 : (k : Int) < (r.out.length : Int) := by omega
          have HI := Lib.hid hin
          have KF := Lib.hid (fun (w : World) (h : Fms w (.slice q r.out[k].a.length c) r.out[k].a) => allformed_any r.out[k].a (.slice q r.out[k].a.length c) r.ar (by have := (H4.out _ (List.getElem_mem hlt)).1; omega) (fun f hf => by have := (H4.out _ (List.getElem_mem hlt)).2 f hf; omega) w h)
          obtain ⟨t, ht⟩ : ∃ t, r.out[k].a.all (formB · r.ar) = t := ⟨_, rfl⟩
          have HT := Lib.hid ht
          rw [ht] at KF
          generalize r.out[k].c.toNat = ck at e1
          generalize r.out[k].a.length = fl at e2 KF HI
          obtain ⟨W1, hW1⟩ : ∃ W, W = wo.alloc (.cells #[.int .u8 ck, .slice q fl c] 45) := ⟨_, rfl⟩
          have N1 : W1.heap[wo.heap.size]? = some (.cells #[.int .u8 ck, .slice q fl c] 45 (0, 0)) := by rw [hW1]; exact heap_alloc_new _ _
          have b1 : Below wo.heap.size wo W1 := by rw [hW1]; exact (Below.refl _ _).alloc (Nat.le_refl _) _
          have E1 := Lib.hid b1
          have p0 := cell_two0 N1
          have p1 := cell_two1 N1
          have x1 := (b1.cell (p := ⟨w.heap.size, 1, none⟩) lo).trans v1
          clear hp hin ht N1 b1
          cases t with
          | false =>
            have HF := Lib.hid (vb_out hlt HT.out)
            go_wp2_with fail
            rw [← hW1]
            clear hW1
            go_wp2_with fail
            refine (KF.out _ (HI.out.later E1.out)).mono ?_
            rintro e w5 ⟨rfl, hb⟩
            have HB1 := Lib.hid (HB.out.trans ((HBr.out.trans ((E1.out.trans (hb.mono E1.out.size)).mono HBr.out.size)).mono HB.out.size))
            clear hb
            go_wp2_with fail
            go_ret
            exact ⟨ret_bool HF.out.symm, HB1.out⟩
          | true =>
            have HG2 : Hid (∀ j, (h : j < r.out.length) → j < k + 1 → r.out[j].a.all (formB · r.ar) = true) := Lib.hid (fun j h hj => by
              rcases Nat.lt_or_eq_of_le (Nat.le_of_lt_succ hj) with h1 | h1
              · exact HK.out j h h1
              · subst h1; exact HT.out)
            go_wp2_with fail
            rw [← hW1]
            clear hW1
            go_wp2_with fail
            refine (KF.out _ (HI.out.later E1.out)).mono ?_
            rintro e w5 ⟨rfl, hb⟩
            have HB1 := Lib.hid (HBr.out.trans ((E1.out.trans (hb.mono E1.out.size)).mono HBr.out.size))
            clear hb
            go_wp2_with fail
            go_roundw
            case rel => exact ⟨k + 1, by omega, by go_num, HB1.out, HG2.out⟩
            case measure => simp [intOf]; omega
        · obtain rfl : k = r.out.length := by omega
          have HF := Lib.hid (vb_ok HL.out (by omega) (by omega) HP.out HGs.out HCk.out (fun i hi => HK.out i hi hi))
          go_wp2_with fail
          go_ret
          exact ⟨ret_bool HF.out.symm, HB.out.trans (HBr.out.mono HB.out.size)⟩
theorem pr_no {l : List Rw} (h : manyB l = false) {k : Nat} (hk : k < l.length) (h2 : validB l[k] = false) : rchk l = 8 := by
  rw [rchk_valid h, if_neg]
  intro h3
  have := List.all_eq_true.1 h3 _ (List.getElem_mem hk)
  rw [h2] at this; exact absurd this (by decide)
theorem pr_ok {l : List Rw} (h : manyB l = false) (h2 : ∀ k, (hk : k < l.length) → validB l[k] = true) : rchk l = 0 := by
  rw [rchk_valid h, if_pos]
  rw [List.all_eq_true]
  intro x hx
  obtain ⟨j, hj, rfl⟩ := List.mem_iff_getElem.1 hx
  exact h2 j hj
set_option maxRecDepth 100000 in
set_option maxHeartbeats 3200000 in
theorem prcheck_any (v : Value) (l : List Rw) (hmax : l.length ≤ 9223372036854775807) (hs : ∀ r ∈ l, RwSm r) (w : World) (hv : Rws w v l) :
    Calls Tryz.prog 24 #[v] w fun e w' => e = .returned (.int .i64 (rchk l)) ∧ Below w.heap.size w w' := by
  obtain ⟨p, cap, rfl⟩ := hv.slice
  have HV := Lib.hid hv
  have HS := Lib.hid hs
  clear hv hs
  by_cases h40 : 40 < l.length
  · have HF := Lib.hid (rchk_many (many_len h40))
    have c1 : (40 : Int) < (l.length : Int) := by omega
    go_enter Tryz.func24, Tryz.ntmps24
    go_wp2_with fail
    go_ret
    exact ⟨ret_int HF.out.symm, Below.refl _ _⟩
  have c1 : ¬ (40 : Int) < (l.length : Int) := by omega
  go_enter Tryz.func24, Tryz.ntmps24
  go_wp2_with fail
  go_loopw [12] (fun i wr => ∃ k : Nat, k ≤ l.length ∧ i = .int .i64 k ∧ Below w.heap.size w wr ∧ ∀ j, (hj : j < l.length) → j < k → ¬ 4 < l[j].gs.length ∧ ¬ 20 < l[j].out.length) (fun i _ => l.length - (intOf i).toNat)
  case atStart => exact ⟨0, Nat.zero_le _, rfl, Below.refl _ _, fun j _ h => by omega⟩
  case round =>
    rename World => wo
    obtain ⟨k, hk, rfl, hb, hok⟩ := hrel
    have HK := Lib.hid hok
    have HB := Lib.hid hb
    have hbz := hb.size
    clear hok hb
    by_cases hlt : k < l.length
    · obtain ⟨b, off, cap', g, gc, o, oc, hp, lb, hat⟩ := (HV.out.later (HB.out.mono (Nat.le_refl _))).at hlt
      obtain rfl : p = some ⟨b, off, none⟩ := by cases hp; rfl
      have k1 : (k : Int) < (l.length : Int) := by omega
      obtain ⟨e0, e1, e2, e3, e4, e5, e6, _, _⟩ := hat
      have HN : Hid (∀ k', k' = l[k].gs.length → ∀ k'', k'' = l[k].out.length → (4 < k' ∨ 20 < k'' → rchk l = 4) ∧ (¬ 4 < k' → ¬ 20 < k'' → ∀ j, (hj : j < l.length) → j < k + 1 → ¬ 4 < l[j].gs.length ∧ ¬ 20 < l[j].out.length)) := Lib.hid (by
        rintro _ rfl _ rfl
        refine ⟨fun h => rchk_many (many_at hlt h), fun h4 h20 j hj h => ?_⟩
        rcases Nat.lt_or_eq_of_le (Nat.le_of_lt_succ h) with h1 | h1
        · exact HK.out j hj h1
        · subst h1; exact ⟨h4, h20⟩)
      have HN2 := Lib.hid (HN.out _ rfl _ rfl)
      generalize l[k].c.toNat = x0 at e0
      generalize l[k].ar = x1 at e1
      generalize l[k].l.toNat = x2 at e2
      generalize l[k].r.toNat = x3 at e3
      generalize l[k].gs.length = x4 at e4 HN2
      generalize l[k].wt = x5 at e5
      generalize l[k].out.length = x6 at e6 HN2
      obtain ⟨W1, hW1⟩ : ∃ W, W = wo.alloc (.cells #[.int .u8 x0, .int .i64 x1, .int .u8 x2, .int .u8 x3, .slice g x4 gc, .int .i64 x5, .slice o x6 oc] 38) := ⟨_, rfl⟩
      have N1 : W1.heap[wo.heap.size]? = some (.cells #[.int .u8 x0, .int .i64 x1, .int .u8 x2, .int .u8 x3, .slice g x4 gc, .int .i64 x5, .slice o x6 oc] 38 (0, 0)) := by rw [hW1]; exact heap_alloc_new _ _
      have b1 : Below w.heap.size w W1 := by rw [hW1]; exact HB.out.alloc hbz _
      have B1 := Lib.hid b1
      have y4 : W1.cell? ⟨wo.heap.size, 4, none⟩ = some (.slice g x4 gc) := by simp [World.cell?, N1]
      have y6 : W1.cell? ⟨wo.heap.size, 6, none⟩ = some (.slice o x6 oc) := by simp [World.cell?, N1]
      clear hp N1 b1
      by_cases h4 : 4 < x4
      · have HF := Lib.hid (HN2.out.1 (.inl h4))
        have c4 : (4 : Int) < (x4 : Int) := by omega
        go_wp2_with fail
        rw [← hW1]
        clear hW1
        go_wp2_with fail
        go_ret
        exact ⟨ret_int HF.out.symm, B1.out⟩
      · have c4 : ¬ (4 : Int) < (x4 : Int) := by omega
        by_cases h20 : 20 < x6
        · have HF := Lib.hid (HN2.out.1 (.inr h20))
          have c5 : (20 : Int) < (x6 : Int) := by omega
          go_wp2_with fail
          rw [← hW1]
          clear hW1
          go_wp2_with fail
          go_ret
          exact ⟨ret_int HF.out.symm, B1.out⟩
        · have c5 : ¬ (20 : Int) < (x6 : Int) := by omega
          have HG := Lib.hid (HN2.out.2 h4 h20)
          go_wp2_with fail
          rw [← hW1]
          clear hW1
          go_wp2_with fail
          go_roundw
          case rel => exact ⟨k + 1, by omega, by go_num, B1.out, HG.out⟩
          case measure => simp [intOf]; omega
    · obtain rfl : k = l.length := by omega
      have HM := Lib.hid (many_not h40 (fun i hi => HK.out i hi hi))
      clear HK
      go_wp2_with fail
      go_loopw [29] (fun i wr => ∃ k : Nat, k ≤ l.length ∧ i = .int .i64 k ∧ Below w.heap.size w wr ∧ ∀ j, (hj : j < l.length) → j < k → validB l[j] = true) (fun i _ => l.length - (intOf i).toNat)
      case atStart => exact ⟨0, Nat.zero_le _, rfl, HB.out, fun j _ h => by omega⟩
      case round =>
        rename World => wi
        obtain ⟨k, hk, rfl, hb, hok⟩ := hrel
        have HK := Lib.hid hok
        have HBi := Lib.hid hb
        have hbz2 := hb.size
        clear hok hb
        by_cases hlt : k < l.length
        · obtain ⟨b, off, cap', g, gc, o, oc, hp, lb, hat⟩ := (HV.out.later (HBi.out.mono (Nat.le_refl _))).at hlt
          obtain rfl : p = some ⟨b, off, none⟩ := by cases hp; rfl
          have k1 : (k : Int) < (l.length : Int) := by omega
          have HCw : Hid (∀ w', Below wi.heap.size wi w' → Calls Tryz.prog 41 #[.agg #[.int .u8 l[k].c.toNat, .int .i64 l[k].ar, .int .u8 l[k].l.toNat, .int .u8 l[k].r.toNat, .slice g l[k].gs.length gc, .int .i64 l[k].wt, .slice o l[k].out.length oc]] w' fun e w'' => e = .returned (.bool (validB l[k])) ∧ Below w'.heap.size w' w'') :=
            Lib.hid (fun w' hb => pvalid_any l[k] _ _ (HS.out _ (List.getElem_mem hlt)) w' (hat.gs.later hb) (hat.out.later hb))
          obtain ⟨t, ht⟩ : ∃ t, validB l[k] = t := ⟨_, rfl⟩
          have HT := Lib.hid ht
          rw [ht] at HCw
          obtain ⟨e0, e1, e2, e3, e4, e5, e6, _, _⟩ := hat
          generalize l[k].c.toNat = x0 at e0 HCw
          generalize l[k].ar = x1 at e1 HCw
          generalize l[k].l.toNat = x2 at e2 HCw
          generalize l[k].r.toNat = x3 at e3 HCw
          generalize l[k].gs.length = x4 at e4 HCw
          generalize l[k].wt = x5 at e5 HCw
          generalize l[k].out.length = x6 at e6 HCw
          obtain ⟨W1, hW1⟩ : ∃ W, W = wi.alloc (.cells #[.int .u8 x0, .int .i64 x1, .int .u8 x2, .int .u8 x3, .slice g x4 gc, .int .i64 x5, .slice o x6 oc] 38) := ⟨_, rfl⟩
          have N1 : W1.heap[wi.heap.size]? = some (.cells #[.int .u8 x0, .int .i64 x1, .int .u8 x2, .int .u8 x3, .slice g x4 gc, .int .i64 x5, .slice o x6 oc] 38 (0, 0)) := by rw [hW1]; exact heap_alloc_new _ _
          have b1 : Below wi.heap.size wi W1 := by rw [hW1]; exact (Below.refl _ _).alloc (Nat.le_refl _) _
          have E1 := Lib.hid b1
          have y0 : W1.cell? ⟨wi.heap.size, 0, none⟩ = some (.int .u8 x0) := by simp [World.cell?, N1]
          have y1 : W1.cell? ⟨wi.heap.size, 1, none⟩ = some (.int .i64 x1) := by simp [World.cell?, N1]
          have y2 : W1.cell? ⟨wi.heap.size, 2, none⟩ = some (.int .u8 x2) := by simp [World.cell?, N1]
          have y3 : W1.cell? ⟨wi.heap.size, 3, none⟩ = some (.int .u8 x3) := by simp [World.cell?, N1]
          have y4 : W1.cell? ⟨wi.heap.size, 4, none⟩ = some (.slice g x4 gc) := by simp [World.cell?, N1]
          have y5 : W1.cell? ⟨wi.heap.size, 5, none⟩ = some (.int .i64 x5) := by simp [World.cell?, N1]
          have y6 : W1.cell? ⟨wi.heap.size, 6, none⟩ = some (.slice o x6 oc) := by simp [World.cell?, N1]
          clear hp ht N1 b1
          cases t with
          | false =>
            have HF := Lib.hid (pr_no HM.out hlt HT.out)
            go_wp2_with fail
            rw [← hW1]
            clear hW1
            go_wp2_with fail
            refine (HCw.out _ E1.out).mono ?_
            rintro e w5 ⟨rfl, hb⟩
            have HB1 := Lib.hid (HBi.out.trans ((E1.out.trans (hb.mono E1.out.size)).mono HBi.out.size))
            clear hb
            go_wp2_with fail
            go_ret
            exact ⟨ret_int HF.out.symm, HB1.out⟩
          | true =>
            have HG2 : Hid (∀ j, (hj : j < l.length) → j < k + 1 → validB l[j] = true) := Lib.hid (fun j h hj => by
              rcases Nat.lt_or_eq_of_le (Nat.le_of_lt_succ hj) with h1 | h1
              · exact HK.out j h h1
              · subst h1; exact HT.out)
            go_wp2_with fail
            rw [← hW1]
            clear hW1
            go_wp2_with fail
            refine (HCw.out _ E1.out).mono ?_
            rintro e w5 ⟨rfl, hb⟩
            have HB1 := Lib.hid (HBi.out.trans ((E1.out.trans (hb.mono E1.out.size)).mono HBi.out.size))
            clear hb
            go_wp2_with fail
            go_roundw
            case rel => exact ⟨k + 1, by omega, by go_num, HB1.out, HG2.out⟩
            case measure => simp [intOf]; omega
        · obtain rfl : k = l.length := by omega
          have HF := Lib.hid (pr_ok HM.out (fun i hi => HK.out i hi hi))
          go_wp2_with fail
          go_ret
          exact ⟨ret_int HF.out.symm, HBi.out⟩
end Go.Proofs.YtkjjehnfibfngaaGreatDoor
namespace Go.Proofs.YtkjjehnfibfngaaGreatDoor
open Go.RowKit
open WM RM
set_option linter.unusedVariables false
set_option linter.unusedSimpArgs false

set_option maxRecDepth 100000 in
set_option maxHeartbeats 1600000 in
theorem prfind_any (v : Value) (l : List Rw) (m : Md) (mv : Value) (hmax : l.length ≤ 9223372036854775807) (hs : ∀ r ∈ l, RwSm r) (hml : m.a.length ≤ 9223372036854775807) (w : World) (hv : Rws w v l) (hmv : Ints w mv m.a) (hn : NilOr mv) :
    Calls Tryz.prog 14 #[v, .agg #[.int .u8 m.c.toNat, mv]] w fun e w' => e = .returned (.tuple #[.int .i64 (finV l m), .int .i64 (finC l m)]) ∧ Below w.heap.size w w' := by
  obtain ⟨p, cap, rfl⟩ := hv.slice
  obtain ⟨p2, cap2, rfl⟩ := hmv.slice
  obtain ⟨W0, hW0⟩ : ∃ W, W = w.alloc (.cells #[.int .u8 m.c.toNat, .slice p2 m.a.length cap2] 43) := ⟨_, rfl⟩
  have N0 : W0.heap[w.heap.size]? = some (.cells #[.int .u8 m.c.toNat, .slice p2 m.a.length cap2] 43 (0, 0)) := by rw [hW0]; exact heap_alloc_new _ _
  have B0 : Below w.heap.size w W0 := by rw [hW0]; exact (Below.refl _ _).alloc (Nat.le_refl _) _
  have HB := Lib.hid B0
  have HV := Lib.hid (hv.later B0)
  have HM := Lib.hid (hmv.later B0)
  have HN := Lib.hid hn
  have q0 := cell_two0 N0
  have q1 := cell_two1 N0
  have l1 := lt_of_block N0
  have KC := Lib.hid (fun w h => prcheck_any (.slice p l.length cap) l hmax hs w h)
  have KW := Lib.hid (fun (w : World) (h : Ints w (.slice p2 m.a.length cap2) m.a) => pcheck_any (.slice (some ⟨w.heap.size, 0, none⟩) 1 1) [m] (by simp) (by simpa using hml) (w.alloc (.cells #[.int .u8 m.c.toNat, .slice p2 m.a.length cap2] 43)) (mods_new w m _ h HN.out))
  clear N0 B0 hv hmv hn
  by_cases h0 : rchk l = 0
  · obtain ⟨r1, r2⟩ := rchk_zero h0
    rw [h0] at KC
    have hc8 := chk_one m
    obtain ⟨x, hx⟩ : ∃ x, chk [m] = x := ⟨_, rfl⟩
    rw [hx] at KW hc8
    cases hf : fineB m with
    | false =>
      have HF := Lib.hid (fin_bad h0 hf)
      rw [hf] at hc8
      have t8 : (x == 8) = true := hc8
      clear h0 hf r1 r2 hs hx hc8
      go_enter Tryz.func14, Tryz.ntmps14
      go_wp2_with fail
      rw [← hW0]
      clear hW0
      go_wp2_with fail
      refine (KC.out _ HV.out).mono ?_
      rintro e w1 ⟨rfl, hb⟩
      have D1 := Lib.hid hb
      have y0 := (hb.cell (p := ⟨w.heap.size, 0, none⟩) l1).trans q0
      have y1 := (hb.cell (p := ⟨w.heap.size, 1, none⟩) l1).trans q1
      clear hb
      go_wp2_with fail
      refine (KW.out _ (HM.out.later D1.out)).mono ?_
      rintro e w2 ⟨rfl, hb⟩
      have B2 := Lib.hid (HB.out.trans ((D1.out.trans (((Below.refl w1.heap.size w1).alloc (Nat.le_refl _) _).mono D1.out.size |>.trans (hb.mono (by have := D1.out.size; simp; omega)))).mono HB.out.size))
      clear hb
      go_wp2_with fail
      go_ret2
      exact ⟨rret_two HF.out.2.symm HF.out.1.symm, B2.out⟩
    | true =>
      have HF := Lib.hid (fin_ok h0 hf)
      rw [hf] at hc8
      have t8 : (x == 8) = false := hc8
      have KT := Lib.hid (fun w h h' => prfirst_any (.slice p l.length cap) l m (.slice p2 m.a.length cap2) hmax (fun r hr => ⟨rule_guards (r2 r hr).1, by have := (hs r hr).1; omega⟩) hf w h h')
      obtain ⟨z, hz⟩ : ∃ z, first l m = z := ⟨_, rfl⟩
      rw [hz] at KT HF
      clear h0 hf r1 r2 hs hz hx hc8
      go_enter Tryz.func14, Tryz.ntmps14
      go_wp2_with fail
      rw [← hW0]
      clear hW0
      go_wp2_with fail
      refine (KC.out _ HV.out).mono ?_
      rintro e w1 ⟨rfl, hb⟩
      have D1 := Lib.hid hb
      have y0 := (hb.cell (p := ⟨w.heap.size, 0, none⟩) l1).trans q0
      have y1 := (hb.cell (p := ⟨w.heap.size, 1, none⟩) l1).trans q1
      clear hb
      go_wp2_with fail
      refine (KW.out _ (HM.out.later D1.out)).mono ?_
      rintro e w2 ⟨rfl, hb⟩
      have D2 : Hid (Below W0.heap.size W0 w2) := Lib.hid (D1.out.trans (((Below.refl w1.heap.size w1).alloc (Nat.le_refl _) _).mono D1.out.size |>.trans (hb.mono (by have := D1.out.size; simp; omega))))
      have z0 := (D2.out.cell (p := ⟨w.heap.size, 0, none⟩) l1).trans q0
      have z1 := (D2.out.cell (p := ⟨w.heap.size, 1, none⟩) l1).trans q1
      clear hb
      go_wp2_with fail
      refine (KT.out _ (HV.out.later D2.out) (HM.out.later D2.out)).mono ?_
      rintro e w3 ⟨rfl, hb⟩
      have B3 := Lib.hid (HB.out.trans ((D2.out.trans (hb.mono D2.out.size)).mono HB.out.size))
      clear hb
      go_wp2_with fail
      go_ret2
      exact ⟨rret_two HF.out.2.symm HF.out.1.symm, B3.out⟩
  · have HF := Lib.hid (fin_rules (m := m) h0)
    obtain ⟨c, hc⟩ : ∃ c, rchk l = c := ⟨_, rfl⟩
    rw [hc] at KC HF h0
    have h1 : (c != 0) = true := by rw [bne_iff_ne]; exact h0
    clear h0 hc hs
    go_enter Tryz.func14, Tryz.ntmps14
    go_wp2_with fail
    rw [← hW0]
    clear hW0
    go_wp2_with fail
    refine (KC.out _ HV.out).mono ?_
    rintro e w1 ⟨rfl, hb⟩
    have B1 := Lib.hid (HB.out.trans (hb.mono HB.out.size))
    clear hb
    go_wp2_with fail
    go_ret2
    exact ⟨rret_two HF.out.2.symm HF.out.1.symm, B1.out⟩
end Go.Proofs.YtkjjehnfibfngaaGreatDoor
namespace Go.Proofs.YtkjjehnfibfngaaGreatDoor
open Go.RowKit
open WM RM
set_option linter.unusedVariables false
set_option linter.unusedSimpArgs false

theorem fr_slice {w : World} {base n size : Nat} {e : TypeId} {v : Value} {xs : List Value} (h : w.ownsRow base e size v n xs) : ∃ p c, v = .slice p n c := by
  rcases h.2 with ⟨h1, h2⟩ | ⟨g, cap, cur, h1, _⟩
  · exact ⟨none, 0, by rw [h1, h2]⟩
  · exact ⟨_, _, h1⟩
/-- The values of the first forms. -/
def wos (fs : List Fm) (x : List Int) (k : Nat) : List Int := (fs.take k).map (worth · x)
theorem wos_len {fs : List Fm} {x : List Int} {k : Nat} (h : k ≤ fs.length) : (wos fs x k).length = k := by unfold wos; rw [List.length_map, List.length_take]; omega
theorem wos_snoc {fs : List Fm} {x : List Int} {k : Nat} (h : k < fs.length) : wos fs x (k + 1) = wos fs x k ++ [worth fs[k] x] := by
  unfold wos; rw [List.take_succ_eq_append_getElem h, List.map_append]; rfl
theorem wos_all (fs : List Fm) (x : List Int) : wos fs x fs.length = fs.map (worth · x) := by unfold wos; rw [List.take_length]
/-- Where the loop over a shape's args stands. -/
structure InM (wo : World) (c : UInt8) (fs : List Fm) (x : List Int) (k : Nat) (va : Value) (wi : World) : Prop where
  below : Below wo.heap.size wo wi
  blk : wi.heap[wo.heap.size]? = some (.cells #[.int .u8 c.toNat, va] 43 (0, 0))
  own : wi.ownsRow (wo.heap.size + 1) 3 1 va k (valsL (wos fs x k))
  hi : k ≤ fs.length
  good : ∀ j, (h : j < fs.length) → j < k → argB (worth fs[j] x) = true
theorem inM_start (wo : World) (c : UInt8) (fs : List Fm) (x : List Int) : InM wo c fs x 0 (.slice none 0 0) (wo.alloc (.cells #[.int .u8 c.toNat, .slice none 0 0] 43)) :=
  ⟨(Below.refl _ _).alloc (Nat.le_refl _) _, heap_alloc_new _ _, by simpa [wos, valsL] using World.ownsRow_nil (wo.alloc (.cells #[.int .u8 c.toNat, .slice none 0 0] 43)) (wo.heap.size + 1) 3 1, Nat.zero_le _, fun j _ h => by omega⟩
theorem InM.later {wo wi w2 : World} {c : UInt8} {fs : List Fm} {x : List Int} {k : Nat} {va : Value} (h : InM wo c fs x k va wi) (hb : Below wi.heap.size wi w2) : InM wo c fs x k va w2 :=
  ⟨h.below.trans (hb.mono h.below.size), (hb.block _ (lt_of_block h.blk)).trans h.blk, l_own_later h.own hb, h.hi, h.good⟩
theorem inM_blk {wo wi w3 : World} {c : UInt8} {fs : List Fm} {x : List Int} {k : Nat} {va : Value} {tmp : Obj} (h : InM wo c fs x k va wi) (hg : (wi.alloc tmp).grownBy w3 va.ownBlock) : w3.heap[wo.heap.size]? = some (.cells #[.int .u8 c.toNat, va] 43 (0, 0)) := by
  have hlt2 := lt_of_block h.blk
  rw [hg.block wo.heap.size (by simp; omega) (fun e => by have := (owns_lt h.own _ e.symm).1; omega)]
  exact heap_alloc_old h.blk _
theorem inM_step {wo wi w3 : World} {c : UInt8} {fs : List Fm} {x : List Int} {k : Nat} {va v2 : Value} {tmp : Obj} (h : InM wo c fs x k va wi) (hk : k < fs.length) (ho : w3.ownsRow (wo.heap.size + 1) 3 1 v2 (k + 1) (valsL (wos fs x k) ++ [.int .i64 (worth fs[k] x)])) (hg : (wi.alloc tmp).grownBy w3 va.ownBlock)
    (hb : argB (worth fs[k] x) = true) : InM wo c fs x (k + 1) v2 (w3.setCell ⟨wo.heap.size, 1, none⟩ v2) := by
  have z := h.below.size
  have hv := owns_lt h.own
  have hb3 := inM_blk h hg
  have ho2 : w3.ownsRow (wo.heap.size + 1) 3 1 v2 (k + 1) (valsL (wos fs x (k + 1))) := by
    rw [wos_snoc hk, valsL_app]; exact ho
  refine ⟨((h.below.alloc z tmp).grown hg (by simp; omega) (fun j e => by have := (hv j e).1; omega)).setCell (Nat.le_refl _) _, ?_, ?_, hk, fun j hj h2 => ?_⟩
  · have := Lib.heap_setCell_same (i := 1) hb3 v2
    simpa using this
  · refine ownsRow_setCell_other ho2 ?_ _
    intro e
    have := (owns_lt ho2 _ e).1
    simp at this; omega
  · rcases Nat.lt_or_eq_of_le (Nat.le_of_lt_succ h2) with h3 | h3
    · exact h.good j hj h3
    · subst h3; exact hb
/-- Where the loop over the shapes stands. -/
structure OutM (w0 : World) (out : List Sh) (x : List Int) (k : Nat) (v : Value) (wr : World) : Prop where
  below : Below w0.heap.size w0 wr
  own : ∃ vs, ModFr wr w0.heap.size v ((out.take k).map (mkM · x)) vs
  hi : k ≤ out.length
  good : ∀ j, (h : j < out.length) → j < k → mkB out[j] x = true
theorem outM_start (w0 : World) (out : List Sh) (x : List Int) : OutM w0 out x 0 (.slice none 0 0) w0 :=
  ⟨Below.refl _ _, ⟨[], by simpa using modFr_nil w0 w0.heap.size⟩, Nat.zero_le _, fun j _ h => by omega⟩
/-- How Made ends. -/
def MdEnd (r : Rw) (m : Md) (w : World) (e : Ending) (w' : World) : Prop :=
  Below w.heap.size w w' ∧ ((made r m = none ∧ e = .returned (.tuple #[.slice none 0 0, .bool false])) ∨ ∃ v vs, made r m = some (r.out.map (mkM · m.a)) ∧ e = .returned (.tuple #[v, .bool true]) ∧ ModFr w' w.heap.size v (r.out.map (mkM · m.a)) vs)
theorem made_bad {r : Rw} {m : Md} {i k : Nat} (hi : i < r.out.length) (hk : k < r.out[i].a.length) (h : argB (worth r.out[i].a[k] m.a) = false) : made r m = none := by
  have h1 : mkB r.out[i] m.a = false := by
    unfold mkB
    rw [List.all_eq_false]
    exact ⟨_, List.getElem_mem hk, by rw [h]; simp⟩
  have h2 : r.out.all (mkB · m.a) = false := by
    rw [List.all_eq_false]
    exact ⟨_, List.getElem_mem hi, by rw [h1]; simp⟩
  unfold made; rw [if_neg (by rw [h2]; decide)]
theorem made_ok {r : Rw} {m : Md} (h : ∀ i, (hi : i < r.out.length) → mkB r.out[i] m.a = true) : made r m = some (r.out.map (mkM · m.a)) := by
  have h2 : r.out.all (mkB · m.a) = true := by
    rw [List.all_eq_true]
    intro s hs
    obtain ⟨j, hj, rfl⟩ := List.mem_iff_getElem.1 hs
    exact h j hj
  unfold made; rw [if_pos h2]
theorem mkB_ok {s : Sh} {x : List Int} (h : ∀ j, (hj : j < s.a.length) → argB (worth s.a[j] x) = true) : mkB s x = true := by
  unfold mkB
  rw [List.all_eq_true]
  intro f hf
  obtain ⟨j, hj, rfl⟩ := List.mem_iff_getElem.1 hf
  exact h j hj
theorem argB_lo {x : Int} (h : x < -1000000000) : argB x = false := by simp [argB]; omega
theorem argB_hi {x : Int} (h : 1000000000 < x) : argB x = false := by simp [argB]; omega
theorem argB_ok {x : Int} (h1 : ¬ x < -1000000000) (h2 : ¬ 1000000000 < x) : argB x = true := by simp [argB]; omega
end Go.Proofs.YtkjjehnfibfngaaGreatDoor
namespace Go.Proofs.YtkjjehnfibfngaaGreatDoor
open Go.RowKit
open WM RM
set_option linter.unusedVariables false
set_option linter.unusedSimpArgs false

theorem mkB_no {s : Sh} {x : List Int} {k : Nat} (hk : k < s.a.length) (h : argB (worth s.a[k] x) = false) : mkB s x = false := by
  unfold mkB
  rw [List.all_eq_false]
  exact ⟨_, List.getElem_mem hk, by rw [h]; simp⟩
theorem va_two {f : Fm} {x : List Int} (h1 : x.length ≤ 4) (h2 : formB f (x.length : Int) = true) (h3 : fineB ⟨70, x⟩ = true) : (argB (worth f x) = false → vaC f x = 16 ∧ vaV f x = 0) ∧ (argB (worth f x) = true → vaC f x = 0 ∧ vaV f x = worth f x) := by
  obtain ⟨a, b⟩ := va_good (by omega) h2 h3
  exact ⟨fun h => a (by rw [← argB_iff, h]; decide), fun h => b (argB_iff.1 h)⟩
theorem fine70_of {m : Md} (h : fineB m = true) : fineB ⟨70, m.a⟩ = true := by
  obtain ⟨h1, h2⟩ := fine_args4 h
  exact fine70_ok (by omega) fun k hk => argB_iff.2 (h2 _ (List.getElem_mem hk))
theorem two_set {w : World} {b : Nat} {x y : Value} {t : TypeId} (h : w.heap[b]? = some (.cells #[x, y] t (0, 0))) (x' y' : Value) : ((w.setCell ⟨b, 0, none⟩ x').setCell ⟨b, 1, none⟩ y').heap[b]? = some (.cells #[x', y'] t (0, 0)) := by
  have h1 := Lib.heap_setCell_same (i := 0) h x'
  have h2 := Lib.heap_setCell_same (i := 1) h1 y'
  simpa using h2
/-- How filled ends. -/
def FlEnd (s : Sh) (x : List Int) (w : World) (e : Ending) (w' : World) : Prop :=
  Below w.heap.size w w' ∧ ((mkB s x = false ∧ e = .returned (.tuple #[.agg #[.int .u8 0, .slice none 0 0], .int .i64 16])) ∨
    (mkB s x = true ∧ ∃ v, e = .returned (.tuple #[.agg #[.int .u8 s.c.toNat, v], .int .i64 0]) ∧ w'.ownsRow w.heap.size 3 1 v s.a.length (valsL (s.a.map (worth · x)))))
set_option maxRecDepth 100000 in
set_option maxHeartbeats 3200000 in
theorem filled_any (s : Sh) (x : List Int) (sv u : Value) (hs : s.a.length ≤ 10) (hf : ∀ f ∈ s.a, formB f (x.length : Int) = true) (hfi : fineB ⟨70, x⟩ = true) (w : World) (h1 : Fms w sv s.a) (h2 : Ints w u x) :
    Calls Tryz.prog 58 #[.agg #[.int .u8 s.c.toNat, sv], u] w (FlEnd s x w) := by
  obtain ⟨p, cap, rfl⟩ := h1.slice
  obtain ⟨p2, cap2, rfl⟩ := h2.slice
  have hx4 : x.length ≤ 4 := (fine_args4 hfi).1
  obtain ⟨WA, hWA⟩ : ∃ W, W = (w.alloc (.cells #[.int .u8 s.c.toNat, .slice p s.a.length cap] 45)).alloc (.cells #[.int .u8 0, .slice none 0 0] 43) := ⟨_, rfl⟩
  have hsz : WA.heap.size = w.heap.size + 1 + 1 := by rw [hWA]; simp
  obtain ⟨W0, hW0⟩ : ∃ W, W = WA.alloc (.cells #[.int .u8 s.c.toNat, .slice none 0 0] 43) := ⟨_, rfl⟩
  have N1 : WA.heap[w.heap.size]? = some (.cells #[.int .u8 s.c.toNat, .slice p s.a.length cap] 45 (0, 0)) := by rw [hWA]; exact heap_alloc_old (heap_alloc_new _ _) _
  have N2 : WA.heap[w.heap.size + 1]? = some (.cells #[.int .u8 0, .slice none 0 0] 43 (0, 0)) := by
    have := heap_alloc_new (w.alloc (.cells #[.int .u8 s.c.toNat, .slice p s.a.length cap] 45)) (.cells #[.int .u8 0, .slice none 0 0] 43)
    rw [hWA]; simpa using this
  have BA : Below w.heap.size w WA := by rw [hWA]; exact ((Below.refl _ _).alloc (Nat.le_refl _) _).alloc (by simp) _
  have I0 := inM_start WA s.c s.a x
  rw [← hW0] at I0
  rw [hWA] at hW0
  have HA := Lib.hid BA
  have HN2 := Lib.hid N2
  have H1 := Lib.hid (h1.later BA)
  have H2 := Lib.hid (h2.later BA)
  have q1 := cell_two1 N1
  have l1 := lt_of_block N1
  have l2 := lt_of_block N2
  have HF := Lib.hid hf
  have HFi := Lib.hid hfi
  have HI0 := Lib.hid I0
  have x1 := (I0.below.cell (p := ⟨w.heap.size, 1, none⟩) l1).trans q1
  obtain ⟨i0, hi, hz0, hz1, hz2⟩ := info_parts info_int
  have HM : Hid (maxLen = 9223372036854775807) := Lib.hid rfl
  have HE0 : Hid (∀ w', Below w.heap.size w w' → mkB s x = false → FlEnd s x w (.returned (.tuple #[.agg #[.int .u8 0, .slice none 0 0], .int .i64 16])) w') := Lib.hid (fun w' hb h => ⟨hb, .inl ⟨h, rfl⟩⟩)
  clear N1 N2 BA h1 h2 hf hfi I0
  go_enter Tryz.func58, Tryz.ntmps58
  go_wp2_with fail
  rw [← hW0]
  clear hW0 hWA
  go_wp2_with fail
  go_loopw [17] (fun i wr => ∃ (k : Nat) (va : Value), i = .int .i64 (k : Nat) ∧ InM WA s.c s.a x k va wr) (fun i _ => s.a.length - (intOf i).toNat)
  case atStart => exact ⟨0, _, rfl, HI0.out⟩
  case round =>
    obtain ⟨k, va, rfl, hI⟩ := hrel
    obtain ⟨pa, capa, rfl⟩ := fr_slice hI.own
    have HI := Lib.hid hI
    have hki := hI.hi
    have hbz := hI.below.size
    have HB : Hid (Below w.heap.size w wr) := Lib.hid (HA.out.trans (hI.below.mono HA.out.size))
    have u0 := cell_two0 hI.blk
    have u1 := cell_two1 hI.blk
    have lw := lt_of_block hI.blk
    rw [hsz] at u0 u1 lw
    have y1 := (hI.below.cell (p := ⟨w.heap.size, 1, none⟩) l1).trans q1
    have hb2 := Lib.hid ((hI.below.block _ l2).trans HN2.out)
    have lr := lt_of_block hb2.out
    clear hI
    by_cases hlk : k < s.a.length
    · obtain ⟨b, off, cap', pf, cf, hp, g0, g1, hin, lb⟩ := (H1.out.later HI.out.below).at hlk
      obtain rfl : p = some ⟨b, off, none⟩ := by cases hp; rfl
      have k2 : (k : Int) < (s.a.length : Int) := by omega
      have hff := HF.out _ (List.getElem_mem hlk)
      have hflen : s.a[k].cs.length ≤ 9223372036854775807 := by have := (form_iff hff).2.1; omega
      have HVa := Lib.hid (va_two hx4 hff HFi.out)
      have HBad : Hid (argB (worth s.a[k] x) = false → mkB s x = false) := Lib.hid (mkB_no hlk)
      have HStep : Hid (∀ (wi w3 : World) (v2 : Value) (tmp : Obj), InM WA s.c s.a x k (.slice pa k capa) wi → w3.ownsRow (WA.heap.size + 1) 3 1 v2 (k + 1) (valsL (wos s.a x k) ++ [.int .i64 (worth s.a[k] x)]) → (wi.alloc tmp).grownBy w3 (Value.slice pa k capa).ownBlock → argB (worth s.a[k] x) = true → InM WA s.c s.a x (k + 1) v2 (w3.setCell ⟨WA.heap.size, 1, none⟩ v2)) := Lib.hid (fun wi w3 v2 tmp h ho hg hb => inM_step h hlk ho hg hb)
      obtain ⟨W2, hW2⟩ : ∃ W, W = wr.alloc (.cells #[.int .i64 s.a[k].k, .slice pf s.a[k].cs.length cf] 48) := ⟨_, rfl⟩
      have bb2 : Below wr.heap.size wr W2 := by rw [hW2]; exact (Below.refl _ _).alloc (Nat.le_refl _) _
      have E2 := Lib.hid bb2
      have KV := Lib.hid (prvalue_any s.a[k] x _ _ hflen (by omega) W2 (hin.later bb2) ((H2.out.later HI.out.below).later bb2))
      obtain ⟨z, hz⟩ : ∃ z, worth s.a[k] x = z := ⟨_, rfl⟩
      obtain ⟨zc, hzc⟩ : ∃ z, vaC s.a[k] x = z := ⟨_, rfl⟩
      obtain ⟨zv, hzv⟩ : ∃ z, vaV s.a[k] x = z := ⟨_, rfl⟩
      rw [hz] at HVa HBad HStep
      rw [hzc, hzv] at HVa KV
      generalize s.a[k].k = fk at g0 hW2 KV
      generalize s.a[k].cs.length = fl at g1 hW2 KV
      clear hp hin hff hflen hz hzc hzv bb2
      cases hab : argB z with
      | false =>
        obtain ⟨rfl, rfl⟩ := HVa.out.1 hab
        have HBd := Lib.hid (HBad.out hab)
        clear hab
        go_wp2_with fail
        rw [← hW2]
        clear hW2
        go_wp2_with fail
        refine KV.out.mono ?_
        rintro e w3 ⟨rfl, hb⟩
        have E3 := Lib.hid (E2.out.trans (hb.mono E2.out.size))
        have HB3 := Lib.hid (HB.out.trans (E3.out.mono HB.out.size))
        have b3 := (E3.out.block _ lr).trans hb2.out
        have HBe : Hid (∀ v v', Below w.heap.size w ((w3.setCell ⟨w.heap.size + 1, 0, none⟩ v).setCell ⟨w.heap.size + 1, 1, none⟩ v')) := Lib.hid (fun v v' => (HB3.out.setCell (p := ⟨w.heap.size + 1, 0, none⟩) (Nat.le_succ _) _).setCell (p := ⟨w.heap.size + 1, 1, none⟩) (Nat.le_succ _) _)
        have s0 := cell_two0 b3
        have s1 := cell_two1 b3
        have f0 := free_two0 b3
        have f1 := free_two1 b3
        have l3 := lt_of_block b3
        have HB3b := Lib.hid b3
        clear hb b3
        go_wp2_with fail
        have e3 := two_set HB3b.out (.int .u8 0) (.slice none 0 0)
        have e0 := cell_two0 e3
        have e1 := cell_two1 e3
        exact bodyPost_ret (v := .tuple #[.agg #[.int .u8 0, .slice none 0 0], .int .i64 16]) (by simp [results, Tryz.results58, go_sem, e0, e1] <;> rfl) rfl (HE0.out _ (HBe.out _ _) HBd.out)
      | true =>
        obtain ⟨rfl, rfl⟩ := HVa.out.2 hab
        have HGd := Lib.hid hab
        clear hab
        go_wp2_with fail
        rw [← hW2]
        clear hW2
        go_wp2_with fail
        refine KV.out.mono ?_
        rintro e w3 ⟨rfl, hb⟩
        have E3 := Lib.hid (E2.out.trans (hb.mono E2.out.size))
        have HI3 := Lib.hid (HI.out.later E3.out)
        have m1 := (E3.out.cell (p := ⟨w.heap.size + 1 + 1, 1, none⟩) lw).trans u1
        have P6 : Hid ((w3.alloc (.cells #[.int .i64 zv] 3)).ownsRow (WA.heap.size + 1) 3 1 (.slice pa k capa) k (valsL (wos s.a x k))) := Lib.hid (HI3.out.own.alloc _)
        have hzq := HI3.out.below.size
        clear hb
        go_wp2_with (at_builtin; refine wpList_append_own _ rfl _ _ 41 rfl (WA.heap.size + 1) 3 i0 (.int .i64 0) 1 8 Tryz.underlying41 hi hz0 hz1 hz2 rfl (by decide) (.slice pa k capa) k (valsL (wos s.a x k)) rfl P6.out ⟨w3.heap.size, 0, none⟩ 1 1 [.int .i64 zv] rfl rfl (cell_one_new _ _ _) (by simp [Value.oneCell']) (by rw [HM.out]; omega) (by omega) (by simp; omega) ?_; intro v2 w4 ho2 hg2 hn2; have N3 := inM_blk HI3.out hg2; have I2 := Lib.hid (HStep.out _ _ _ _ HI3.out ho2 hg2 HGd.out); obtain ⟨p4, c4, rfl⟩ := fr_slice ho2; rw [hsz] at N3; rw [hsz] at I2; have q2 := cell_two0 N3; have q3 := cell_two1 N3; have fr1 : w4.frozen? ⟨w.heap.size + 1 + 1, 1, none⟩ = false := (by simp [World.frozen?, N3]); have l3 : w.heap.size + 1 + 1 < w4.heap.size := (lt_of_block N3); clear ho2 hg2 hn2 N3)
        go_wp2_with fail
        go_roundw
        case rel => exact ⟨k + 1, _, by go_num, I2.out⟩
        case measure => simp [intOf]; omega
    · obtain rfl : k = s.a.length := by omega
      have b3 := hb2.out
      have HBe : Hid (∀ v v', Below w.heap.size w ((wr.setCell ⟨w.heap.size + 1, 0, none⟩ v).setCell ⟨w.heap.size + 1, 1, none⟩ v')) := Lib.hid (fun v v' => (HB.out.setCell (p := ⟨w.heap.size + 1, 0, none⟩) (Nat.le_succ _) _).setCell (p := ⟨w.heap.size + 1, 1, none⟩) (Nat.le_succ _) _)
      have s0 := cell_two0 b3
      have s1 := cell_two1 b3
      have f0 := free_two0 b3
      have f1 := free_two1 b3
      have HE : Hid (∀ v v', FlEnd s x w (.returned (.tuple #[.agg #[.int .u8 s.c.toNat, .slice pa s.a.length capa], .int .i64 0])) ((wr.setCell ⟨w.heap.size + 1, 0, none⟩ v).setCell ⟨w.heap.size + 1, 1, none⟩ v')) := Lib.hid (fun v v' => by
        refine ⟨HBe.out v v', .inr ⟨mkB_ok (fun j hj => HI.out.good j hj hj), _, rfl, ?_⟩⟩
        have h := HI.out.own
        rw [wos_all] at h
        have h2 := ownsRow_setCell_other h (a := ⟨w.heap.size + 1, 0, none⟩) (by intro e; have h9 : WA.heap.size + 1 ≤ w.heap.size + 1 := (owns_lt h _ e).1; omega) v
        have h3 := ownsRow_setCell_other h2 (a := ⟨w.heap.size + 1, 1, none⟩) (by intro e; have h9 : WA.heap.size + 1 ≤ w.heap.size + 1 := (owns_lt h2 _ e).1; omega) v'
        exact owns_mono h3 (by omega))
      clear b3
      go_wp2_with fail
      have e3 := two_set hb2.out (.int .u8 s.c.toNat) (.slice pa s.a.length capa)
      have e0 := cell_two0 e3
      have e1 := cell_two1 e3
      exact bodyPost_ret (v := .tuple #[.agg #[.int .u8 s.c.toNat, .slice pa s.a.length capa], .int .i64 0]) (by simp [results, Tryz.results58, go_sem, e0, e1] <;> rfl) rfl (HE.out _ _)
end Go.Proofs.YtkjjehnfibfngaaGreatDoor
