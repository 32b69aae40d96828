/-
  Texts of the proof, merged: DRewRefE, DRewPrV, DRewRefM.
-/
import Derived.Test.YtepoaobjcpgilaaDoorDChanceCellsProofM6
import Derived.Test.YtepoaobjcpgilaaDoorDChanceCellsProofM3
import Derived.Lib.BufferMore
namespace Go.Proofs.YtepoaobjcpgilaaDoor
open Go.RowKit
open WM RM
set_option linter.unusedVariables false
set_option linter.unusedSimpArgs false

/-- Rules that are no greater than the statements look at. -/
def RwSm (r : Rw) : Prop := r.gs.length ≤ 10 ∧ r.out.length ≤ 30 ∧ (∀ f ∈ r.gs, f.cs.length ≤ 10) ∧ ∀ s ∈ r.out, s.a.length ≤ 10 ∧ ∀ f ∈ s.a, f.cs.length ≤ 10
/-- What rules' Fine is to hand back. -/
def FineR : Prop := ∀ (r : Rw) (gv ov : Value) (w : World), RwSm r → Fms w gv r.gs → Shs w ov r.out →
  Calls Tryd.prog 64 #[rwV r gv ov] w fun e w' => e = .returned (.bool (ruleB r)) ∧ Below w.heap.size w w'
theorem rchk_many {l : List Rw} (h : manyB l = true) : rchk l = 4 := by unfold rchk; rw [if_pos h]
theorem rchk_bad {l : List Rw} (h : manyB l = false) {k : Nat} (hk : k < l.length) (h2 : ruleB l[k] = false ∨ plainB l[k] = false) : rchk l = 8 := by
  have : (l.all fun r => ruleB r && plainB r) = false := by
    rw [List.all_eq_false]
    refine ⟨_, List.getElem_mem hk, ?_⟩
    rcases h2 with h | h <;> simp [h]
  unfold rchk; rw [if_neg (by rw [h]; decide), if_neg (by rw [this]; decide)]
theorem rchk_ok {l : List Rw} (h : manyB l = false) (h2 : ∀ k, (hk : k < l.length) → ruleB l[k] = true ∧ plainB l[k] = true) : rchk l = 0 := by
  have : (l.all fun r => ruleB r && plainB r) = true := by
    rw [List.all_eq_true]
    intro x hx
    obtain ⟨j, hj, rfl⟩ := List.mem_iff_getElem.1 hx
    obtain ⟨h3, h4⟩ := h2 j hj
    simp [h3, h4]
  unfold rchk; rw [if_neg (by rw [h]; decide), if_pos this]
theorem rchk_zero {l : List Rw} (h : rchk l = 0) : manyB l = false ∧ ∀ r ∈ l, ruleB r = true ∧ plainB r = true := by
  unfold rchk at h
  split at h
  · omega
  · rename_i h1
    split at h
    · rename_i h2
      refine ⟨by simpa using h1, fun r hr => ?_⟩
      have := List.all_eq_true.1 h2 r hr
      simpa using this
    · omega
theorem rule_guards {r : Rw} (h : ruleB r = true) : r.gs.all (formB · r.ar) = true := by
  unfold ruleB at h
  simp only [Bool.and_eq_true] at h
  exact h.1.1.2
theorem plain_l {r : Rw} (h : r.l ≠ 0) : plainB r = false := by simp [plainB, h]
theorem plain_r {r : Rw} (h : r.r ≠ 0) : plainB r = false := by simp [plainB, h]
theorem plain_w {r : Rw} (h : r.wt ≠ 0) : plainB r = false := by simp [plainB, h]
theorem plain_ok {r : Rw} (h1 : r.l = 0) (h2 : r.r = 0) (h3 : r.wt = 0) : plainB r = true := by simp [plainB, h1, h2, h3]
theorem u8_nz {c : UInt8} (h : c ≠ 0) : ((c.toNat : Int) != 0) = true := by
  rw [bne_iff_ne]; intro e
  exact h (UInt8.toNat_inj.1 (by show c.toNat = 0; omega))
/-! ### Find -/
theorem fin_rules {l : List Rw} {m : Md} (h : rchk l ≠ 0) : finC l m = rchk l ∧ finV l m = 0 := by
  have e : finC l m = rchk l := by unfold finC; rw [if_pos h]
  exact ⟨e, by unfold finV; rw [e, if_neg h]⟩
theorem fin_bad {l : List Rw} {m : Md} (h : rchk l = 0) (h2 : fineB m = false) : finC l m = 8 ∧ finV l m = 0 := by
  have e : finC l m = 8 := by unfold finC; rw [if_neg (by simp [h]), if_neg (by rw [h2]; decide)]
  exact ⟨e, by unfold finV; rw [e, if_neg (by decide)]⟩
theorem fin_ok {l : List Rw} {m : Md} (h : rchk l = 0) (h2 : fineB m = true) : finC l m = 0 ∧ finV l m = first l m := by
  have e : finC l m = 0 := by unfold finC; rw [if_neg (by simp [h]), if_pos h2]
  exact ⟨e, by unfold finV; rw [if_pos e]⟩
end Go.Proofs.YtepoaobjcpgilaaDoor
namespace Go.Proofs.YtepoaobjcpgilaaDoor
open Go.RowKit
open WM RM
set_option linter.unusedVariables false
set_option linter.unusedSimpArgs false

theorem vb_let {r : Rw} (h : (letB r.c && !(braB r.c)) = false) : validB r = false := by unfold validB; rw [h]; simp
theorem vb_lo {r : Rw} (h : r.ar < 0) : validB r = false := by unfold validB; rw [decide_eq_false (by omega : ¬ 0 ≤ r.ar)]; simp
theorem vb_hi {r : Rw} (h : 4 < r.ar) : validB r = false := by unfold validB; rw [decide_eq_false (by omega : ¬ r.ar ≤ 4)]; simp
theorem vb_plain {r : Rw} (h : plainB r = false) : validB r = false := by unfold validB; rw [h]; simp
theorem vb_gs {r : Rw} (h : r.gs.all (formB · r.ar) = false) : validB r = false := by unfold validB; rw [h]; simp
theorem vb_chk {r : Rw} (h : chk (r.out.map blM) ≠ 0) : validB r = false := by unfold validB; rw [decide_eq_false h]; simp
theorem vb_out {r : Rw} {k : Nat} (hk : k < r.out.length) (h : r.out[k].a.all (formB · r.ar) = false) : validB r = false := by
  have : (r.out.all fun s => s.a.all (formB · r.ar)) = false := by
    rw [List.all_eq_false]; exact ⟨_, List.getElem_mem hk, by rw [h]; simp⟩
  unfold validB; rw [this]; simp
theorem vb_ok {r : Rw} (h1 : (letB r.c && !(braB r.c)) = true) (h2 : ¬ r.ar < 0) (h3 : ¬ 4 < r.ar) (h4 : plainB r = true) (h5 : r.gs.all (formB · r.ar) = true) (h6 : chk (r.out.map blM) = 0) (h7 : ∀ k, (hk : k < r.out.length) → r.out[k].a.all (formB · r.ar) = true) : validB r = true := by
  have : (r.out.all fun s => s.a.all (formB · r.ar)) = true := by
    rw [List.all_eq_true]
    intro x hx
    obtain ⟨j, hj, rfl⟩ := List.mem_iff_getElem.1 hx
    exact h7 j hj
  unfold validB
  rw [h1, h4, h5, this, decide_eq_true h6, decide_eq_true (by omega : 0 ≤ r.ar), decide_eq_true (by omega : r.ar ≤ 4)]
  rfl
set_option maxRecDepth 100000 in
set_option maxHeartbeats 6400000 in
theorem pvalid_any (r : Rw) (gv ov : Value) (hs : RwSm r) (w : World) (h1 : Fms w gv r.gs) (h2 : Shs w ov r.out) :
    Calls Tryd.prog 44 #[rwV r gv ov] w fun e w' => e = .returned (.bool (validB r)) ∧ Below w.heap.size w w' := by
  obtain ⟨pg, cg, rfl⟩ := h1.slice
  obtain ⟨po, co, rfl⟩ := h2.slice
  obtain ⟨s1, s2, s3, s4⟩ := hs
  unfold rwV
  obtain ⟨W0, hW0⟩ : ∃ W, W = w.alloc (.cells #[.int .u8 r.c.toNat, .int .i64 r.ar, .int .u8 r.l.toNat, .int .u8 r.r.toNat, .slice pg r.gs.length cg, .int .i64 r.wt, .slice po r.out.length co] 31) := ⟨_, rfl⟩
  have N1 : W0.heap[w.heap.size]? = some (.cells #[.int .u8 r.c.toNat, .int .i64 r.ar, .int .u8 r.l.toNat, .int .u8 r.r.toNat, .slice pg r.gs.length cg, .int .i64 r.wt, .slice po r.out.length co] 31 (0, 0)) := by rw [hW0]; exact heap_alloc_new _ _
  have B0 : Below w.heap.size w W0 := by rw [hW0]; exact (Below.refl _ _).alloc (Nat.le_refl _) _
  have HB := Lib.hid B0
  have HG := Lib.hid (h1.later B0)
  have HO := Lib.hid (h2.later B0)
  have q0 : W0.cell? ⟨w.heap.size, 0, none⟩ = some (.int .u8 r.c.toNat) := by simp [World.cell?, N1]
  have q1 : W0.cell? ⟨w.heap.size, 1, none⟩ = some (.int .i64 r.ar) := by simp [World.cell?, N1]
  have q2 : W0.cell? ⟨w.heap.size, 2, none⟩ = some (.int .u8 r.l.toNat) := by simp [World.cell?, N1]
  have q3 : W0.cell? ⟨w.heap.size, 3, none⟩ = some (.int .u8 r.r.toNat) := by simp [World.cell?, N1]
  have q4 : W0.cell? ⟨w.heap.size, 4, none⟩ = some (.slice pg r.gs.length cg) := by simp [World.cell?, N1]
  have q5 : W0.cell? ⟨w.heap.size, 5, none⟩ = some (.int .i64 r.wt) := by simp [World.cell?, N1]
  have q6 : W0.cell? ⟨w.heap.size, 6, none⟩ = some (.slice po r.out.length co) := by simp [World.cell?, N1]
  have l0 := lt_of_block N1
  have KL := Lib.hid (fun w => pletter_any r.c w)
  have KG := Lib.hid (fun (w : World) (h : Fms w (.slice pg r.gs.length cg) r.gs) => allformed_any r.gs (.slice pg r.gs.length cg) r.ar (by omega) (fun f hf => by have := s3 f hf; omega) w h)
  have KB := Lib.hid (fun (w : World) (h : Shs w (.slice po r.out.length co) r.out) => blank_any r.out (.slice po r.out.length co) (by omega) (fun s hs => by have := (s4 s hs).1; omega) w h)
  have KC := Lib.hid (fun (w : World) (v : Value) (h : Mods w v (r.out.map blM)) => pcheck_any v (r.out.map blM) (by rw [List.length_map]; omega) (fun m hm => by
    obtain ⟨s, _, rfl⟩ := List.mem_map.1 hm
    simp [blM, zerM]; omega) w h)
  have H4 := Lib.hid s4
  clear N1 B0 h1 h2
  cases hlt : (letB r.c && !(braB r.c)) with
  | false =>
    have HF := Lib.hid (vb_let hlt)
    rw [hlt] at KL
    clear hlt
    obtain ⟨cn, hcn⟩ : ∃ cn : Nat, r.c.toNat = cn := ⟨_, rfl⟩
    rw [hcn] at KL hW0 q0 ⊢
    clear hcn
    go_enter Tryd.func44, Tryd.ntmps44
    go_wp2_with fail
    rw [← hW0]
    clear hW0
    go_wp2_with fail
    refine (KL.out _).mono ?_
    rintro e w1 ⟨rfl, hb⟩
    have B1 := Lib.hid (HB.out.trans (hb.mono HB.out.size))
    have D1 := Lib.hid hb
    have y1 := (hb.cell (p := ⟨w.heap.size, 1, none⟩) l0).trans q1
    have y2 := (hb.cell (p := ⟨w.heap.size, 2, none⟩) l0).trans q2
    have y3 := (hb.cell (p := ⟨w.heap.size, 3, none⟩) l0).trans q3
    have y4 := (hb.cell (p := ⟨w.heap.size, 4, none⟩) l0).trans q4
    have y5 := (hb.cell (p := ⟨w.heap.size, 5, none⟩) l0).trans q5
    have y6 := (hb.cell (p := ⟨w.heap.size, 6, none⟩) l0).trans q6
    clear hb
    go_wp2_with fail
    go_ret
    exact ⟨ret_bool HF.out.symm, B1.out⟩
  | true =>
    have HL := Lib.hid hlt
    rw [hlt] at KL
    clear hlt
    obtain ⟨cn, hcn⟩ : ∃ cn : Nat, r.c.toNat = cn := ⟨_, rfl⟩
    rw [hcn] at KL hW0 q0 ⊢
    clear hcn
    by_cases a1 : r.ar < 0
    · have HF := Lib.hid (vb_lo a1)
      generalize r.ar = ar at a1 q1 hW0 KG ⊢
      go_enter Tryd.func44, Tryd.ntmps44
      go_wp2_with fail
      rw [← hW0]
      clear hW0
      go_wp2_with fail
      refine (KL.out _).mono ?_
      rintro e w1 ⟨rfl, hb⟩
      have B1 := Lib.hid (HB.out.trans (hb.mono HB.out.size))
      have D1 := Lib.hid hb
      have y1 := (hb.cell (p := ⟨w.heap.size, 1, none⟩) l0).trans q1
      have y2 := (hb.cell (p := ⟨w.heap.size, 2, none⟩) l0).trans q2
      have y3 := (hb.cell (p := ⟨w.heap.size, 3, none⟩) l0).trans q3
      have y4 := (hb.cell (p := ⟨w.heap.size, 4, none⟩) l0).trans q4
      have y5 := (hb.cell (p := ⟨w.heap.size, 5, none⟩) l0).trans q5
      have y6 := (hb.cell (p := ⟨w.heap.size, 6, none⟩) l0).trans q6
      clear hb
      go_wp2_with fail
      go_ret
      exact ⟨ret_bool HF.out.symm, B1.out⟩
    by_cases a2 : 4 < r.ar
    · have HF := Lib.hid (vb_hi a2)
      generalize r.ar = ar at a1 a2 q1 hW0 KG ⊢
      go_enter Tryd.func44, Tryd.ntmps44
      go_wp2_with fail
      rw [← hW0]
      clear hW0
      go_wp2_with fail
      refine (KL.out _).mono ?_
      rintro e w1 ⟨rfl, hb⟩
      have B1 := Lib.hid (HB.out.trans (hb.mono HB.out.size))
      have D1 := Lib.hid hb
      have y1 := (hb.cell (p := ⟨w.heap.size, 1, none⟩) l0).trans q1
      have y2 := (hb.cell (p := ⟨w.heap.size, 2, none⟩) l0).trans q2
      have y3 := (hb.cell (p := ⟨w.heap.size, 3, none⟩) l0).trans q3
      have y4 := (hb.cell (p := ⟨w.heap.size, 4, none⟩) l0).trans q4
      have y5 := (hb.cell (p := ⟨w.heap.size, 5, none⟩) l0).trans q5
      have y6 := (hb.cell (p := ⟨w.heap.size, 6, none⟩) l0).trans q6
      clear hb
      go_wp2_with fail
      go_ret
      exact ⟨ret_bool HF.out.symm, B1.out⟩
    by_cases a3 : r.l = 0
    rotate_left
    · have HF := Lib.hid (vb_plain (plain_l a3))
      have t3 := u8_nz a3
      clear a3
      generalize r.l.toNat = ln at q2 t3 hW0 ⊢
      go_enter Tryd.func44, Tryd.ntmps44
      go_wp2_with fail
      rw [← hW0]
      clear hW0
      go_wp2_with fail
      refine (KL.out _).mono ?_
      rintro e w1 ⟨rfl, hb⟩
      have B1 := Lib.hid (HB.out.trans (hb.mono HB.out.size))
      have D1 := Lib.hid hb
      have y1 := (hb.cell (p := ⟨w.heap.size, 1, none⟩) l0).trans q1
      have y2 := (hb.cell (p := ⟨w.heap.size, 2, none⟩) l0).trans q2
      have y3 := (hb.cell (p := ⟨w.heap.size, 3, none⟩) l0).trans q3
      have y4 := (hb.cell (p := ⟨w.heap.size, 4, none⟩) l0).trans q4
      have y5 := (hb.cell (p := ⟨w.heap.size, 5, none⟩) l0).trans q5
      have y6 := (hb.cell (p := ⟨w.heap.size, 6, none⟩) l0).trans q6
      clear hb
      go_wp2_with fail
      go_ret
      exact ⟨ret_bool HF.out.symm, B1.out⟩
    have t3 : ((r.l.toNat : Int) != 0) = false := by rw [a3]; rfl
    by_cases a4 : r.r = 0
    rotate_left
    · have HF := Lib.hid (vb_plain (plain_r a4))
      have t4 := u8_nz a4
      clear a4 a3
      generalize r.l.toNat = ln at q2 t3 hW0 ⊢
      generalize r.r.toNat = rn at q3 t4 hW0 ⊢
      go_enter Tryd.func44, Tryd.ntmps44
      go_wp2_with fail
      rw [← hW0]
      clear hW0
      go_wp2_with fail
      refine (KL.out _).mono ?_
      rintro e w1 ⟨rfl, hb⟩
      have B1 := Lib.hid (HB.out.trans (hb.mono HB.out.size))
      have D1 := Lib.hid hb
      have y1 := (hb.cell (p := ⟨w.heap.size, 1, none⟩) l0).trans q1
      have y2 := (hb.cell (p := ⟨w.heap.size, 2, none⟩) l0).trans q2
      have y3 := (hb.cell (p := ⟨w.heap.size, 3, none⟩) l0).trans q3
      have y4 := (hb.cell (p := ⟨w.heap.size, 4, none⟩) l0).trans q4
      have y5 := (hb.cell (p := ⟨w.heap.size, 5, none⟩) l0).trans q5
      have y6 := (hb.cell (p := ⟨w.heap.size, 6, none⟩) l0).trans q6
      clear hb
      go_wp2_with fail
      go_ret
      exact ⟨ret_bool HF.out.symm, B1.out⟩
    have t4 : ((r.r.toNat : Int) != 0) = false := by rw [a4]; rfl
    by_cases a5 : r.wt = 0
    rotate_left
    · have HF := Lib.hid (vb_plain (plain_w a5))
      have t5 : (r.wt != 0) = true := by rw [bne_iff_ne]; exact a5
      clear a5 a4 a3
      generalize r.l.toNat = ln at q2 t3 hW0 ⊢
      generalize r.r.toNat = rn at q3 t4 hW0 ⊢
      generalize r.wt = wt at q5 t5 hW0 ⊢
      go_enter Tryd.func44, Tryd.ntmps44
      go_wp2_with fail
      rw [← hW0]
      clear hW0
      go_wp2_with fail
      refine (KL.out _).mono ?_
      rintro e w1 ⟨rfl, hb⟩
      have B1 := Lib.hid (HB.out.trans (hb.mono HB.out.size))
      have D1 := Lib.hid hb
      have y1 := (hb.cell (p := ⟨w.heap.size, 1, none⟩) l0).trans q1
      have y2 := (hb.cell (p := ⟨w.heap.size, 2, none⟩) l0).trans q2
      have y3 := (hb.cell (p := ⟨w.heap.size, 3, none⟩) l0).trans q3
      have y4 := (hb.cell (p := ⟨w.heap.size, 4, none⟩) l0).trans q4
      have y5 := (hb.cell (p := ⟨w.heap.size, 5, none⟩) l0).trans q5
      have y6 := (hb.cell (p := ⟨w.heap.size, 6, none⟩) l0).trans q6
      clear hb
      go_wp2_with fail
      go_ret
      exact ⟨ret_bool HF.out.symm, B1.out⟩
    have t5 : (r.wt != 0) = false := by rw [a5]; rfl
    have HP := Lib.hid (plain_ok a3 a4 a5)
    clear a3 a4 a5
    generalize r.l.toNat = ln at q2 t3 hW0 ⊢
    generalize r.r.toNat = rn at q3 t4 hW0 ⊢
    generalize r.wt = wt at q5 t5 hW0 ⊢
    cases hgs : r.gs.all (formB · r.ar) with
    | false =>
      have HF := Lib.hid (vb_gs hgs)
      rw [hgs] at KG
      clear hgs
      go_enter Tryd.func44, Tryd.ntmps44
      go_wp2_with fail
      rw [← hW0]
      clear hW0
      go_wp2_with fail
      refine (KL.out _).mono ?_
      rintro e w1 ⟨rfl, hb⟩
      have B1 := Lib.hid (HB.out.trans (hb.mono HB.out.size))
      have D1 := Lib.hid hb
      have y1 := (hb.cell (p := ⟨w.heap.size, 1, none⟩) l0).trans q1
      have y2 := (hb.cell (p := ⟨w.heap.size, 2, none⟩) l0).trans q2
      have y3 := (hb.cell (p := ⟨w.heap.size, 3, none⟩) l0).trans q3
      have y4 := (hb.cell (p := ⟨w.heap.size, 4, none⟩) l0).trans q4
      have y5 := (hb.cell (p := ⟨w.heap.size, 5, none⟩) l0).trans q5
      have y6 := (hb.cell (p := ⟨w.heap.size, 6, none⟩) l0).trans q6
      clear hb
      go_wp2_with fail
      refine (KG.out _ (HG.out.later D1.out)).mono ?_
      rintro e w2 ⟨rfl, hb⟩
      have B2 := Lib.hid (B1.out.trans (hb.mono B1.out.size))
      have D2 := Lib.hid (D1.out.trans (hb.mono D1.out.size))
      have z1 := (D2.out.cell (p := ⟨w.heap.size, 1, none⟩) l0).trans q1
      have z6 := (D2.out.cell (p := ⟨w.heap.size, 6, none⟩) l0).trans q6
      clear hb
      go_wp2_with fail
      go_ret
      exact ⟨ret_bool HF.out.symm, B2.out⟩
    | true =>
      have HGs := Lib.hid hgs
      rw [hgs] at KG
      clear hgs
      by_cases hck : chk (r.out.map blM) = 0
      rotate_left
      · have HF := Lib.hid (vb_chk hck)
        obtain ⟨x, hx⟩ : ∃ x, chk (r.out.map blM) = x := ⟨_, rfl⟩
        rw [hx] at KC hck
        have t6 : (x != 0) = true := by rw [bne_iff_ne]; exact hck
        clear hx hck
        go_enter Tryd.func44, Tryd.ntmps44
        go_wp2_with fail
        rw [← hW0]
        clear hW0
        go_wp2_with fail
        refine (KL.out _).mono ?_
        rintro e w1 ⟨rfl, hb⟩
        have B1 := Lib.hid (HB.out.trans (hb.mono HB.out.size))
        have D1 := Lib.hid hb
        have y1 := (hb.cell (p := ⟨w.heap.size, 1, none⟩) l0).trans q1
        have y2 := (hb.cell (p := ⟨w.heap.size, 2, none⟩) l0).trans q2
        have y3 := (hb.cell (p := ⟨w.heap.size, 3, none⟩) l0).trans q3
        have y4 := (hb.cell (p := ⟨w.heap.size, 4, none⟩) l0).trans q4
        have y5 := (hb.cell (p := ⟨w.heap.size, 5, none⟩) l0).trans q5
        have y6 := (hb.cell (p := ⟨w.heap.size, 6, none⟩) l0).trans q6
        clear hb
        go_wp2_with fail
        refine (KG.out _ (HG.out.later D1.out)).mono ?_
        rintro e w2 ⟨rfl, hb⟩
        have B2 := Lib.hid (B1.out.trans (hb.mono B1.out.size))
        have D2 := Lib.hid (D1.out.trans (hb.mono D1.out.size))
        have z1 := (D2.out.cell (p := ⟨w.heap.size, 1, none⟩) l0).trans q1
        have z6 := (D2.out.cell (p := ⟨w.heap.size, 6, none⟩) l0).trans q6
        clear hb
        go_wp2_with fail
        refine (KB.out _ (HO.out.later D2.out)).mono ?_
        rintro e w3 ⟨bv, vs, rfl, hb, hmf⟩
        have B3 := Lib.hid (B2.out.trans (hb.mono B2.out.size))
        have D3 := Lib.hid (D2.out.trans (hb.mono D2.out.size))
        have M3 := Lib.hid hmf.mods
        clear hb hmf
        go_wp2_with fail
        refine (KC.out _ _ M3.out).mono ?_
        rintro e w4 ⟨rfl, hb⟩
        have B4 := Lib.hid (B3.out.trans (hb.mono B3.out.size))
        have D4 := Lib.hid (D3.out.trans (hb.mono D3.out.size))
        have u1 := (D4.out.cell (p := ⟨w.heap.size, 1, none⟩) l0).trans q1
        have u6 := (D4.out.cell (p := ⟨w.heap.size, 6, none⟩) l0).trans q6
        clear hb
        go_wp2_with fail
        go_ret
        exact ⟨ret_bool HF.out.symm, B4.out⟩
      have HCk := Lib.hid hck
      rw [hck] at KC
      clear hck
      go_enter Tryd.func44, Tryd.ntmps44
      go_wp2_with fail
      rw [← hW0]
      clear hW0
      go_wp2_with fail
      refine (KL.out _).mono ?_
      rintro e w1 ⟨rfl, hb⟩
      have B1 := Lib.hid (HB.out.trans (hb.mono HB.out.size))
      have D1 := Lib.hid hb
      have y1 := (hb.cell (p := ⟨w.heap.size, 1, none⟩) l0).trans q1
      have y2 := (hb.cell (p := ⟨w.heap.size, 2, none⟩) l0).trans q2
      have y3 := (hb.cell (p := ⟨w.heap.size, 3, none⟩) l0).trans q3
      have y4 := (hb.cell (p := ⟨w.heap.size, 4, none⟩) l0).trans q4
      have y5 := (hb.cell (p := ⟨w.heap.size, 5, none⟩) l0).trans q5
      have y6 := (hb.cell (p := ⟨w.heap.size, 6, none⟩) l0).trans q6
      clear hb
      go_wp2_with fail
      refine (KG.out _ (HG.out.later D1.out)).mono ?_
      rintro e w2 ⟨rfl, hb⟩
      have B2 := Lib.hid (B1.out.trans (hb.mono B1.out.size))
      have D2 := Lib.hid (D1.out.trans (hb.mono D1.out.size))
      have z1 := (D2.out.cell (p := ⟨w.heap.size, 1, none⟩) l0).trans q1
      have z6 := (D2.out.cell (p := ⟨w.heap.size, 6, none⟩) l0).trans q6
      clear hb
      go_wp2_with fail
      refine (KB.out _ (HO.out.later D2.out)).mono ?_
      rintro e w3 ⟨bv, vs, rfl, hb, hmf⟩
      have B3 := Lib.hid (B2.out.trans (hb.mono B2.out.size))
      have D3 := Lib.hid (D2.out.trans (hb.mono D2.out.size))
      have M3 := Lib.hid hmf.mods
      clear hb hmf
      go_wp2_with fail
      refine (KC.out _ _ M3.out).mono ?_
      rintro e w4 ⟨rfl, hb⟩
      have B4 := Lib.hid (B3.out.trans (hb.mono B3.out.size))
      have D4 := Lib.hid (D3.out.trans (hb.mono D3.out.size))
      have u1 := (D4.out.cell (p := ⟨w.heap.size, 1, none⟩) l0).trans q1
      have u6 := (D4.out.cell (p := ⟨w.heap.size, 6, none⟩) l0).trans q6
      clear hb
      go_wp2_with fail
      have b4z := B4.out.size
      have d4z := D4.out.size
      go_loopw [50] (fun i wr => ∃ k : Nat, k ≤ r.out.length ∧ i = .int .i64 k ∧ Below W0.heap.size W0 wr ∧ ∀ j, (h : j < r.out.length) → j < k → r.out[j].a.all (formB · r.ar) = true) (fun i _ => r.out.length - (intOf i).toNat)
      case atStart => exact ⟨0, Nat.zero_le _, rfl, D4.out, fun j _ h => by omega⟩
      case round =>
        rename World => wo
        obtain ⟨k, hk, rfl, hb, hok⟩ := hrel
        have HK := Lib.hid hok
        have HBr := Lib.hid hb
        have v1 := (hb.cell (p := ⟨w.heap.size, 1, none⟩) l0).trans q1
        have lo : w.heap.size < wo.heap.size := Nat.lt_of_lt_of_le l0 hb.size
        clear hok hb
        by_cases hlt : k < r.out.length
        · obtain ⟨b, off, cap', q, c, hp, e1, e2, hin, lb⟩ := (HO.out.later HBr.out).at hlt
          obtain rfl : po = some ⟨b, off, none⟩ := by cases hp; rfl
          have k1 : (k : Int) < (r.out.length : Int) := by omega
          have HI := Lib.hid hin
          have KF := Lib.hid (fun (w : World) (h : Fms w (.slice q r.out[k].a.length c) r.out[k].a) => allformed_any r.out[k].a (.slice q r.out[k].a.length c) r.ar (by have := (H4.out _ (List.getElem_mem hlt)).1; omega) (fun f hf => by have := (H4.out _ (List.getElem_mem hlt)).2 f hf; omega) w h)
          obtain ⟨t, ht⟩ : ∃ t, r.out[k].a.all (formB · r.ar) = t := ⟨_, rfl⟩
          have HT := Lib.hid ht
          rw [ht] at KF
          generalize r.out[k].c.toNat = ck at e1
          generalize r.out[k].a.length = fl at e2 KF HI
          obtain ⟨W1, hW1⟩ : ∃ W, W = wo.alloc (.cells #[.int .u8 ck, .slice q fl c] 33) := ⟨_, rfl⟩
          have N1 : W1.heap[wo.heap.size]? = some (.cells #[.int .u8 ck, .slice q fl c] 33 (0, 0)) := by rw [hW1]; exact heap_alloc_new _ _
          have b1 : Below wo.heap.size wo W1 := by rw [hW1]; exact (Below.refl _ _).alloc (Nat.le_refl _) _
          have E1 := Lib.hid b1
          have p0 := cell_two0 N1
          have p1 := cell_two1 N1
          have x1 := (b1.cell (p := ⟨w.heap.size, 1, none⟩) lo).trans v1
          clear hp hin ht N1 b1
          cases t with
          | false =>
            have HF := Lib.hid (vb_out hlt HT.out)
            go_wp2_with fail
            rw [← hW1]
            clear hW1
            go_wp2_with fail
            refine (KF.out _ (HI.out.later E1.out)).mono ?_
            rintro e w5 ⟨rfl, hb⟩
            have HB1 := Lib.hid (HB.out.trans ((HBr.out.trans ((E1.out.trans (hb.mono E1.out.size)).mono HBr.out.size)).mono HB.out.size))
            clear hb
            go_wp2_with fail
            go_ret
            exact ⟨ret_bool HF.out.symm, HB1.out⟩
          | true =>
            have HG2 : Hid (∀ j, (h : j < r.out.length) → j < k + 1 → r.out[j].a.all (formB · r.ar) = true) := Lib.hid (fun j h hj => by
              rcases Nat.lt_or_eq_of_le (Nat.le_of_lt_succ hj) with h1 | h1
              · exact HK.out j h h1
              · subst h1; exact HT.out)
            go_wp2_with fail
            rw [← hW1]
            clear hW1
            go_wp2_with fail
            refine (KF.out _ (HI.out.later E1.out)).mono ?_
            rintro e w5 ⟨rfl, hb⟩
            have HB1 := Lib.hid (HBr.out.trans ((E1.out.trans (hb.mono E1.out.size)).mono HBr.out.size))
            clear hb
            go_wp2_with fail
            go_roundw
            case rel => exact ⟨k + 1, by omega, by go_num, HB1.out, HG2.out⟩
            case measure => simp [intOf]; omega
        · obtain rfl : k = r.out.length := by omega
          have HF := Lib.hid (vb_ok HL.out (by omega) (by omega) HP.out HGs.out HCk.out (fun i hi => HK.out i hi hi))
          go_wp2_with fail
          go_ret
          exact ⟨ret_bool HF.out.symm, HB.out.trans (HBr.out.mono HB.out.size)⟩
theorem pr_no {l : List Rw} (h : manyB l = false) {k : Nat} (hk : k < l.length) (h2 : validB l[k] = false) : rchk l = 8 := by
  rw [rchk_valid h, if_neg]
  intro h3
  have := List.all_eq_true.1 h3 _ (List.getElem_mem hk)
  rw [h2] at this; exact absurd this (by decide)
theorem pr_ok {l : List Rw} (h : manyB l = false) (h2 : ∀ k, (hk : k < l.length) → validB l[k] = true) : rchk l = 0 := by
  rw [rchk_valid h, if_pos]
  rw [List.all_eq_true]
  intro x hx
  obtain ⟨j, hj, rfl⟩ := List.mem_iff_getElem.1 hx
  exact h2 j hj
set_option maxRecDepth 100000 in
set_option maxHeartbeats 3200000 in
theorem prcheck_any (v : Value) (l : List Rw) (hmax : l.length ≤ 9223372036854775807) (hs : ∀ r ∈ l, RwSm r) (w : World) (hv : Rws w v l) :
    Calls Tryd.prog 12 #[v] w fun e w' => e = .returned (.int .i64 (rchk l)) ∧ Below w.heap.size w w' := by
  obtain ⟨p, cap, rfl⟩ := hv.slice
  have HV := Lib.hid hv
  have HS := Lib.hid hs
  clear hv hs
  by_cases h40 : 40 < l.length
  · have HF := Lib.hid (rchk_many (many_len h40))
    have c1 : (40 : Int) < (l.length : Int) := by omega
    go_enter Tryd.func12, Tryd.ntmps12
    go_wp2_with fail
    go_ret
    exact ⟨ret_int HF.out.symm, Below.refl _ _⟩
  have c1 : ¬ (40 : Int) < (l.length : Int) := by omega
  go_enter Tryd.func12, Tryd.ntmps12
  go_wp2_with fail
  go_loopw [12] (fun i wr => ∃ k : Nat, k ≤ l.length ∧ i = .int .i64 k ∧ Below w.heap.size w wr ∧ ∀ j, (hj : j < l.length) → j < k → ¬ 4 < l[j].gs.length ∧ ¬ 20 < l[j].out.length) (fun i _ => l.length - (intOf i).toNat)
  case atStart => exact ⟨0, Nat.zero_le _, rfl, Below.refl _ _, fun j _ h => by omega⟩
  case round =>
    rename World => wo
    obtain ⟨k, hk, rfl, hb, hok⟩ := hrel
    have HK := Lib.hid hok
    have HB := Lib.hid hb
    have hbz := hb.size
    clear hok hb
    by_cases hlt : k < l.length
    · obtain ⟨b, off, cap', g, gc, o, oc, hp, lb, hat⟩ := (HV.out.later (HB.out.mono (Nat.le_refl _))).at hlt
      obtain rfl : p = some ⟨b, off, none⟩ := by cases hp; rfl
      have k1 : (k : Int) < (l.length : Int) := by omega
      obtain ⟨e0, e1, e2, e3, e4, e5, e6, _, _⟩ := hat
      have HN : Hid (∀ k', k' = l[k].gs.length → ∀ k'', k'' = l[k].out.length → (4 < k' ∨ 20 < k'' → rchk l = 4) ∧ (¬ 4 < k' → ¬ 20 < k'' → ∀ j, (hj : j < l.length) → j < k + 1 → ¬ 4 < l[j].gs.length ∧ ¬ 20 < l[j].out.length)) := Lib.hid (by
        rintro _ rfl _ rfl
        refine ⟨fun h => rchk_many (many_at hlt h), fun h4 h20 j hj h => ?_⟩
        rcases Nat.lt_or_eq_of_le (Nat.le_of_lt_succ h) with h1 | h1
        · exact HK.out j hj h1
        · subst h1; exact ⟨h4, h20⟩)
      have HN2 := Lib.hid (HN.out _ rfl _ rfl)
      generalize l[k].c.toNat = x0 at e0
      generalize l[k].ar = x1 at e1
      generalize l[k].l.toNat = x2 at e2
      generalize l[k].r.toNat = x3 at e3
      generalize l[k].gs.length = x4 at e4 HN2
      generalize l[k].wt = x5 at e5
      generalize l[k].out.length = x6 at e6 HN2
      obtain ⟨W1, hW1⟩ : ∃ W, W = wo.alloc (.cells #[.int .u8 x0, .int .i64 x1, .int .u8 x2, .int .u8 x3, .slice g x4 gc, .int .i64 x5, .slice o x6 oc] 31) := ⟨_, rfl⟩
      have N1 : W1.heap[wo.heap.size]? = some (.cells #[.int .u8 x0, .int .i64 x1, .int .u8 x2, .int .u8 x3, .slice g x4 gc, .int .i64 x5, .slice o x6 oc] 31 (0, 0)) := by rw [hW1]; exact heap_alloc_new _ _
      have b1 : Below w.heap.size w W1 := by rw [hW1]; exact HB.out.alloc hbz _
      have B1 := Lib.hid b1
      have y4 : W1.cell? ⟨wo.heap.size, 4, none⟩ = some (.slice g x4 gc) := by simp [World.cell?, N1]
      have y6 : W1.cell? ⟨wo.heap.size, 6, none⟩ = some (.slice o x6 oc) := by simp [World.cell?, N1]
      clear hp N1 b1
      by_cases h4 : 4 < x4
      · have HF := Lib.hid (HN2.out.1 (.inl h4))
        have c4 : (4 : Int) < (x4 : Int) := by omega
        go_wp2_with fail
        rw [← hW1]
        clear hW1
        go_wp2_with fail
        go_ret
        exact ⟨ret_int HF.out.symm, B1.out⟩
      · have c4 : ¬ (4 : Int) < (x4 : Int) := by omega
        by_cases h20 : 20 < x6
        · have HF := Lib.hid (HN2.out.1 (.inr h20))
          have c5 : (20 : Int) < (x6 : Int) := by omega
          go_wp2_with fail
          rw [← hW1]
          clear hW1
          go_wp2_with fail
          go_ret
          exact ⟨ret_int HF.out.symm, B1.out⟩
        · have c5 : ¬ (20 : Int) < (x6 : Int) := by omega
          have HG := Lib.hid (HN2.out.2 h4 h20)
          go_wp2_with fail
          rw [← hW1]
          clear hW1
          go_wp2_with fail
          go_roundw
          case rel => exact ⟨k + 1, by omega, by go_num, B1.out, HG.out⟩
          case measure => simp [intOf]; omega
    · obtain rfl : k = l.length := by omega
      have HM := Lib.hid (many_not h40 (fun i hi => HK.out i hi hi))
      clear HK
      go_wp2_with fail
      go_loopw [29] (fun i wr => ∃ k : Nat, k ≤ l.length ∧ i = .int .i64 k ∧ Below w.heap.size w wr ∧ ∀ j, (hj : j < l.length) → j < k → validB l[j] = true) (fun i _ => l.length - (intOf i).toNat)
      case atStart => exact ⟨0, Nat.zero_le _, rfl, HB.out, fun j _ h => by omega⟩
      case round =>
        rename World => wi
        obtain ⟨k, hk, rfl, hb, hok⟩ := hrel
        have HK := Lib.hid hok
        have HBi := Lib.hid hb
        have hbz2 := hb.size
        clear hok hb
        by_cases hlt : k < l.length
        · obtain ⟨b, off, cap', g, gc, o, oc, hp, lb, hat⟩ := (HV.out.later (HBi.out.mono (Nat.le_refl _))).at hlt
          obtain rfl : p = some ⟨b, off, none⟩ := by cases hp; rfl
          have k1 : (k : Int) < (l.length : Int) := by omega
          have HCw : Hid (∀ w', Below wi.heap.size wi w' → Calls Tryd.prog 44 #[.agg #[.int .u8 l[k].c.toNat, .int .i64 l[k].ar, .int .u8 l[k].l.toNat, .int .u8 l[k].r.toNat, .slice g l[k].gs.length gc, .int .i64 l[k].wt, .slice o l[k].out.length oc]] w' fun e w'' => e = .returned (.bool (validB l[k])) ∧ Below w'.heap.size w' w'') :=
            Lib.hid (fun w' hb => pvalid_any l[k] _ _ (HS.out _ (List.getElem_mem hlt)) w' (hat.gs.later hb) (hat.out.later hb))
          obtain ⟨t, ht⟩ : ∃ t, validB l[k] = t := ⟨_, rfl⟩
          have HT := Lib.hid ht
          rw [ht] at HCw
          obtain ⟨e0, e1, e2, e3, e4, e5, e6, _, _⟩ := hat
          generalize l[k].c.toNat = x0 at e0 HCw
          generalize l[k].ar = x1 at e1 HCw
          generalize l[k].l.toNat = x2 at e2 HCw
          generalize l[k].r.toNat = x3 at e3 HCw
          generalize l[k].gs.length = x4 at e4 HCw
          generalize l[k].wt = x5 at e5 HCw
          generalize l[k].out.length = x6 at e6 HCw
          obtain ⟨W1, hW1⟩ : ∃ W, W = wi.alloc (.cells #[.int .u8 x0, .int .i64 x1, .int .u8 x2, .int .u8 x3, .slice g x4 gc, .int .i64 x5, .slice o x6 oc] 31) := ⟨_, rfl⟩
          have N1 : W1.heap[wi.heap.size]? = some (.cells #[.int .u8 x0, .int .i64 x1, .int .u8 x2, .int .u8 x3, .slice g x4 gc, .int .i64 x5, .slice o x6 oc] 31 (0, 0)) := by rw [hW1]; exact heap_alloc_new _ _
          have b1 : Below wi.heap.size wi W1 := by rw [hW1]; exact (Below.refl _ _).alloc (Nat.le_refl _) _
          have E1 := Lib.hid b1
          have y0 : W1.cell? ⟨wi.heap.size, 0, none⟩ = some (.int .u8 x0) := by simp [World.cell?, N1]
          have y1 : W1.cell? ⟨wi.heap.size, 1, none⟩ = some (.int .i64 x1) := by simp [World.cell?, N1]
          have y2 : W1.cell? ⟨wi.heap.size, 2, none⟩ = some (.int .u8 x2) := by simp [World.cell?, N1]
          have y3 : W1.cell? ⟨wi.heap.size, 3, none⟩ = some (.int .u8 x3) := by simp [World.cell?, N1]
          have y4 : W1.cell? ⟨wi.heap.size, 4, none⟩ = some (.slice g x4 gc) := by simp [World.cell?, N1]
          have y5 : W1.cell? ⟨wi.heap.size, 5, none⟩ = some (.int .i64 x5) := by simp [World.cell?, N1]
          have y6 : W1.cell? ⟨wi.heap.size, 6, none⟩ = some (.slice o x6 oc) := by simp [World.cell?, N1]
          clear hp ht N1 b1
          cases t with
          | false =>
            have HF := Lib.hid (pr_no HM.out hlt HT.out)
            go_wp2_with fail
            rw [← hW1]
            clear hW1
            go_wp2_with fail
            refine (HCw.out _ E1.out).mono ?_
            rintro e w5 ⟨rfl, hb⟩
            have HB1 := Lib.hid (HBi.out.trans ((E1.out.trans (hb.mono E1.out.size)).mono HBi.out.size))
            clear hb
            go_wp2_with fail
            go_ret
            exact ⟨ret_int HF.out.symm, HB1.out⟩
          | true =>
            have HG2 : Hid (∀ j, (hj : j < l.length) → j < k + 1 → validB l[j] = true) := Lib.hid (fun j h hj => by
              rcases Nat.lt_or_eq_of_le (Nat.le_of_lt_succ hj) with h1 | h1
              · exact HK.out j h h1
              · subst h1; exact HT.out)
            go_wp2_with fail
            rw [← hW1]
            clear hW1
            go_wp2_with fail
            refine (HCw.out _ E1.out).mono ?_
            rintro e w5 ⟨rfl, hb⟩
            have HB1 := Lib.hid (HBi.out.trans ((E1.out.trans (hb.mono E1.out.size)).mono HBi.out.size))
            clear hb
            go_wp2_with fail
            go_roundw
            case rel => exact ⟨k + 1, by omega, by go_num, HB1.out, HG2.out⟩
            case measure => simp [intOf]; omega
        · obtain rfl : k = l.length := by omega
          have HF := Lib.hid (pr_ok HM.out (fun i hi => HK.out i hi hi))
          go_wp2_with fail
          go_ret
          exact ⟨ret_int HF.out.symm, HBi.out⟩
end Go.Proofs.YtepoaobjcpgilaaDoor
namespace Go.Proofs.YtepoaobjcpgilaaDoor
open Go.RowKit
open WM RM
set_option linter.unusedVariables false
set_option linter.unusedSimpArgs false

theorem fr_slice {w : World} {base n size : Nat} {e : TypeId} {v : Value} {xs : List Value} (h : w.ownsRow base e size v n xs) : ∃ p c, v = .slice p n c := by
  rcases h.2 with ⟨h1, h2⟩ | ⟨g, cap, cur, h1, _⟩
  · exact ⟨none, 0, by rw [h1, h2]⟩
  · exact ⟨_, _, h1⟩
/-- The values of the first forms. -/
def wos (fs : List Fm) (x : List Int) (k : Nat) : List Int := (fs.take k).map (worth · x)
theorem wos_len {fs : List Fm} {x : List Int} {k : Nat} (h : k ≤ fs.length) : (wos fs x k).length = k := by unfold wos; rw [List.length_map, List.length_take]; omega
theorem wos_snoc {fs : List Fm} {x : List Int} {k : Nat} (h : k < fs.length) : wos fs x (k + 1) = wos fs x k ++ [worth fs[k] x] := by
  unfold wos; rw [List.take_succ_eq_append_getElem h, List.map_append]; rfl
theorem wos_all (fs : List Fm) (x : List Int) : wos fs x fs.length = fs.map (worth · x) := by unfold wos; rw [List.take_length]
/-- Where the loop over a shape's args stands. -/
structure InM (wo : World) (c : UInt8) (fs : List Fm) (x : List Int) (k : Nat) (va : Value) (wi : World) : Prop where
  below : Below wo.heap.size wo wi
  blk : wi.heap[wo.heap.size]? = some (.cells #[.int .u8 c.toNat, va] 25 (0, 0))
  own : wi.ownsRow (wo.heap.size + 1) 3 1 va k (valsL (wos fs x k))
  hi : k ≤ fs.length
  good : ∀ j, (h : j < fs.length) → j < k → argB (worth fs[j] x) = true
theorem inM_start (wo : World) (c : UInt8) (fs : List Fm) (x : List Int) : InM wo c fs x 0 (.slice none 0 0) (wo.alloc (.cells #[.int .u8 c.toNat, .slice none 0 0] 25)) :=
  ⟨(Below.refl _ _).alloc (Nat.le_refl _) _, heap_alloc_new _ _, by simpa [wos, valsL] using World.ownsRow_nil (wo.alloc (.cells #[.int .u8 c.toNat, .slice none 0 0] 25)) (wo.heap.size + 1) 3 1, Nat.zero_le _, fun j _ h => by omega⟩
theorem InM.later {wo wi w2 : World} {c : UInt8} {fs : List Fm} {x : List Int} {k : Nat} {va : Value} (h : InM wo c fs x k va wi) (hb : Below wi.heap.size wi w2) : InM wo c fs x k va w2 :=
  ⟨h.below.trans (hb.mono h.below.size), (hb.block _ (lt_of_block h.blk)).trans h.blk, l_own_later h.own hb, h.hi, h.good⟩
theorem inM_blk {wo wi w3 : World} {c : UInt8} {fs : List Fm} {x : List Int} {k : Nat} {va : Value} {tmp : Obj} (h : InM wo c fs x k va wi) (hg : (wi.alloc tmp).grownBy w3 va.ownBlock) : w3.heap[wo.heap.size]? = some (.cells #[.int .u8 c.toNat, va] 25 (0, 0)) := by
  have hlt2 := lt_of_block h.blk
  rw [hg.block wo.heap.size (by simp; omega) (fun e => by have := (owns_lt h.own _ e.symm).1; omega)]
  exact heap_alloc_old h.blk _
theorem inM_step {wo wi w3 : World} {c : UInt8} {fs : List Fm} {x : List Int} {k : Nat} {va v2 : Value} {tmp : Obj} (h : InM wo c fs x k va wi) (hk : k < fs.length) (ho : w3.ownsRow (wo.heap.size + 1) 3 1 v2 (k + 1) (valsL (wos fs x k) ++ [.int .i64 (worth fs[k] x)])) (hg : (wi.alloc tmp).grownBy w3 va.ownBlock)
    (hb : argB (worth fs[k] x) = true) : InM wo c fs x (k + 1) v2 (w3.setCell ⟨wo.heap.size, 1, none⟩ v2) := by
  have z := h.below.size
  have hv := owns_lt h.own
  have hb3 := inM_blk h hg
  have ho2 : w3.ownsRow (wo.heap.size + 1) 3 1 v2 (k + 1) (valsL (wos fs x (k + 1))) := by
    rw [wos_snoc hk, valsL_app]; exact ho
  refine ⟨((h.below.alloc z tmp).grown hg (by simp; omega) (fun j e => by have := (hv j e).1; omega)).setCell (Nat.le_refl _) _, ?_, ?_, hk, fun j hj h2 => ?_⟩
  · have := Lib.heap_setCell_same (i := 1) hb3 v2
    simpa using this
  · refine ownsRow_setCell_other ho2 ?_ _
    intro e
    have := (owns_lt ho2 _ e).1
    simp at this; omega
  · rcases Nat.lt_or_eq_of_le (Nat.le_of_lt_succ h2) with h3 | h3
    · exact h.good j hj h3
    · subst h3; exact hb
/-- Where the loop over the shapes stands. -/
structure OutM (w0 : World) (out : List Sh) (x : List Int) (k : Nat) (v : Value) (wr : World) : Prop where
  below : Below w0.heap.size w0 wr
  own : ∃ vs, ModFr wr w0.heap.size v ((out.take k).map (mkM · x)) vs
  hi : k ≤ out.length
  good : ∀ j, (h : j < out.length) → j < k → mkB out[j] x = true
theorem outM_start (w0 : World) (out : List Sh) (x : List Int) : OutM w0 out x 0 (.slice none 0 0) w0 :=
  ⟨Below.refl _ _, ⟨[], by simpa using modFr_nil w0 w0.heap.size⟩, Nat.zero_le _, fun j _ h => by omega⟩
/-- How Made ends. -/
def MdEnd (r : Rw) (m : Md) (w : World) (e : Ending) (w' : World) : Prop :=
  Below w.heap.size w w' ∧ ((made r m = none ∧ e = .returned (.tuple #[.slice none 0 0, .bool false])) ∨ ∃ v vs, made r m = some (r.out.map (mkM · m.a)) ∧ e = .returned (.tuple #[v, .bool true]) ∧ ModFr w' w.heap.size v (r.out.map (mkM · m.a)) vs)
theorem made_bad {r : Rw} {m : Md} {i k : Nat} (hi : i < r.out.length) (hk : k < r.out[i].a.length) (h : argB (worth r.out[i].a[k] m.a) = false) : made r m = none := by
  have h1 : mkB r.out[i] m.a = false := by
    unfold mkB
    rw [List.all_eq_false]
    exact ⟨_, List.getElem_mem hk, by rw [h]; simp⟩
  have h2 : r.out.all (mkB · m.a) = false := by
    rw [List.all_eq_false]
    exact ⟨_, List.getElem_mem hi, by rw [h1]; simp⟩
  unfold made; rw [if_neg (by rw [h2]; decide)]
theorem made_ok {r : Rw} {m : Md} (h : ∀ i, (hi : i < r.out.length) → mkB r.out[i] m.a = true) : made r m = some (r.out.map (mkM · m.a)) := by
  have h2 : r.out.all (mkB · m.a) = true := by
    rw [List.all_eq_true]
    intro s hs
    obtain ⟨j, hj, rfl⟩ := List.mem_iff_getElem.1 hs
    exact h j hj
  unfold made; rw [if_pos h2]
theorem mkB_ok {s : Sh} {x : List Int} (h : ∀ j, (hj : j < s.a.length) → argB (worth s.a[j] x) = true) : mkB s x = true := by
  unfold mkB
  rw [List.all_eq_true]
  intro f hf
  obtain ⟨j, hj, rfl⟩ := List.mem_iff_getElem.1 hf
  exact h j hj
theorem argB_lo {x : Int} (h : x < -1000000000) : argB x = false := by simp [argB]; omega
theorem argB_hi {x : Int} (h : 1000000000 < x) : argB x = false := by simp [argB]; omega
theorem argB_ok {x : Int} (h1 : ¬ x < -1000000000) (h2 : ¬ 1000000000 < x) : argB x = true := by simp [argB]; omega
set_option maxRecDepth 100000 in
set_option maxHeartbeats 6400000 in
theorem refmade_any (r : Rw) (m : Md) (gv ov mv : Value) (hs : RwSm r) (hf : ∀ s ∈ r.out, ∀ f ∈ s.a, formB f (m.a.length : Int) = true) (hm : fineB m = true) (w : World) (h1 : Fms w gv r.gs) (h2 : Shs w ov r.out) (h3 : Ints w mv m.a) :
    Calls Tryd.prog 108 #[rwV r gv ov, .agg #[.int .u8 m.c.toNat, mv]] w (MdEnd r m w) := by
  obtain ⟨p, cap, rfl⟩ := h2.slice
  obtain ⟨p2, cap2, rfl⟩ := h3.slice
  obtain ⟨pg, capg, rfl⟩ := h1.slice
  obtain ⟨m4, mr⟩ := fine_args4 hm
  obtain ⟨-, ho30, -, hsz⟩ := hs
  unfold rwV
  obtain ⟨W0, hW0⟩ : ∃ W, W = (w.alloc (.cells #[.int .u8 r.c.toNat, .int .i64 r.ar, .int .u8 r.l.toNat, .int .u8 r.r.toNat, .slice pg r.gs.length capg, .int .i64 r.wt, .slice p r.out.length cap] 31)).alloc (.cells #[.int .u8 m.c.toNat, .slice p2 m.a.length cap2] 25) := ⟨_, rfl⟩
  have N1 : W0.heap[w.heap.size]? = some (.cells #[.int .u8 r.c.toNat, .int .i64 r.ar, .int .u8 r.l.toNat, .int .u8 r.r.toNat, .slice pg r.gs.length capg, .int .i64 r.wt, .slice p r.out.length cap] 31 (0, 0)) := by rw [hW0]; exact heap_alloc_old (heap_alloc_new _ _) _
  have N2 : W0.heap[w.heap.size + 1]? = some (.cells #[.int .u8 m.c.toNat, .slice p2 m.a.length cap2] 25 (0, 0)) := by
    have := heap_alloc_new (w.alloc (.cells #[.int .u8 r.c.toNat, .int .i64 r.ar, .int .u8 r.l.toNat, .int .u8 r.r.toNat, .slice pg r.gs.length capg, .int .i64 r.wt, .slice p r.out.length cap] 31)) (.cells #[.int .u8 m.c.toNat, .slice p2 m.a.length cap2] 25)
    rw [hW0]; simpa using this
  have B0 : Below w.heap.size w W0 := by rw [hW0]; exact ((Below.refl _ _).alloc (Nat.le_refl _) _).alloc (by simp) _
  have HB := Lib.hid B0
  have H2 := Lib.hid (h2.later B0)
  have H3 := Lib.hid (h3.later B0)
  have q6 : W0.cell? ⟨w.heap.size, 6, none⟩ = some (.slice p r.out.length cap) := by simp [World.cell?, N1]
  have s1 := cell_two1 N2
  have l1 := lt_of_block N1
  have l2 := lt_of_block N2
  have HFo := Lib.hid hf
  have HSz := Lib.hid hsz
  have HMR := Lib.hid mr
  have S0 := Lib.hid (outM_start W0 r.out m.a)
  obtain ⟨j0, hj, hy0, hy1, hy2⟩ := info_parts info_mod
  obtain ⟨i0, hi, hz0, hz1, hz2⟩ := info_parts info_int
  have HM : Hid (maxLen = 9223372036854775807) := Lib.hid rfl
  have HE0 : Hid (∀ w', Below W0.heap.size W0 w' → made r m = none → MdEnd r m w (.returned (.tuple #[.slice none 0 0, .bool false])) w') := Lib.hid (fun w' hb h => ⟨B0.trans (hb.mono B0.size), .inl ⟨h, rfl⟩⟩)
  clear N1 N2 B0 h1 h2 h3 hf hsz hm mr
  go_enter Tryd.func108, Tryd.ntmps108
  go_wp2_with fail
  rw [← hW0]
  clear hW0
  go_wp2_with fail
  go_loopw [6, 7] (fun v i wr => ∃ k, i = .int .i64 (k : Nat) ∧ OutM W0 r.out m.a k v wr) (fun _ i _ => r.out.length - (intOf i).toNat)
  case atStart => exact ⟨0, rfl, S0.out⟩
  case round =>
    rename World => wo
    obtain ⟨i, rfl, hS⟩ := hrel
    have HS := Lib.hid hS
    have hsz := hS.below.size
    have hio := hS.hi
    have y6 := (hS.below.cell (p := ⟨w.heap.size, 6, none⟩) l1).trans q6
    clear hS
    by_cases hlt : i < r.out.length
    · obtain ⟨b, off, cap', q, d, hp, e0, e1, hin, lb⟩ := (H2.out.later HS.out.below).at hlt
      obtain rfl : p = some ⟨b, off, none⟩ := by cases hp; rfl
      have k1 : (i : Int) < (r.out.length : Int) := by omega
      obtain ⟨vs, hM⟩ := HS.out.own
      have HMF := Lib.hid hM
      have HIn := Lib.hid hin
      obtain ⟨sa10, -⟩ := HSz.out _ (List.getElem_mem hlt)
      have HFi := Lib.hid (HFo.out _ (List.getElem_mem hlt))
      have I0 := Lib.hid (inM_start wo r.out[i].c r.out[i].a m.a)
      clear hp hin hM
      go_wp2_with fail
      go_loopw [9] (fun i' wr => ∃ k va, i' = .int .i64 (k : Nat) ∧ InM wo r.out[i].c r.out[i].a m.a k va wr) (fun i' _ => r.out[i].a.length - (intOf i').toNat)
      case atStart => exact ⟨0, _, rfl, I0.out⟩
      case round =>
        obtain ⟨k, va, rfl, hI⟩ := hrel
        obtain ⟨pa, capa, rfl⟩ := fr_slice hI.own
        have HI := Lib.hid hI
        have hbw := HS.out.below.trans (hI.below.mono hsz)
        have HBW := Lib.hid hbw
        have u0 := cell_two0 hI.blk
        have u1 := cell_two1 hI.blk
        have lw := lt_of_block hI.blk
        have x6 := (hbw.cell (p := ⟨w.heap.size, 6, none⟩) l1).trans q6
        have x1 := (hbw.cell (p := ⟨w.heap.size + 1, 1, none⟩) l2).trans s1
        have f0 := (hI.below.cell (p := ⟨b, off + i * 2, none⟩) lb).trans e0
        have f1 := (hI.below.cell (p := ⟨b, off + i * 2 + 1, none⟩) lb).trans e1
        have hki := hI.hi
        clear hI hbw
        by_cases hlk : k < r.out[i].a.length
        · obtain ⟨b2, off2, cap3, pf, cf, hp2, g0, g1, hin2, lb2⟩ := (HIn.out.later HI.out.below).at hlk
          obtain rfl : q = some ⟨b2, off2, none⟩ := by cases hp2; rfl
          have k2 : (k : Int) < (r.out[i].a.length : Int) := by omega
          have HX := Lib.hid (H3.out.later HBW.out)
          have hff := HFi.out _ (List.getElem_mem hlk)
          have HCw : Hid (∀ (d' : Nat) (os : Array Obj), Calls Tryd.prog 70 #[.agg #[.int .i64 r.out[i].a[k].k, .slice pf r.out[i].a[k].cs.length cf], .slice p2 m.a.length cap2] («Sort».grow (redrawn wr d') os) fun e w' =>
              e = .returned (.int .i64 (worth r.out[i].a[k] m.a)) ∧ Below («Sort».grow (redrawn wr d') os).heap.size («Sort».grow (redrawn wr d') os) w') :=
            Lib.hid (fun d' os => refworth_any r.out[i].a[k] m.a _ _ hff m4 HMR.out _ (hin2.later (below_regrown wr d' os)) (HX.out.later (below_regrown wr d' os)))
          have HBad : Hid (argB (worth r.out[i].a[k] m.a) = false → made r m = none) := Lib.hid (made_bad hlt hlk)
          have HStep : Hid (∀ (wi w3 : World) (v2 : Value) (tmp : Obj), InM wo r.out[i].c r.out[i].a m.a k (.slice pa k capa) wi → w3.ownsRow (wo.heap.size + 1) 3 1 v2 (k + 1) (valsL (wos r.out[i].a m.a k) ++ [.int .i64 (worth r.out[i].a[k] m.a)]) → (wi.alloc tmp).grownBy w3 (Value.slice pa k capa).ownBlock → argB (worth r.out[i].a[k] m.a) = true → InM wo r.out[i].c r.out[i].a m.a (k + 1) v2 (w3.setCell ⟨wo.heap.size, 1, none⟩ v2)) := Lib.hid (fun wi w3 v2 tmp h ho hg hb => inM_step h hlk ho hg hb)
          obtain ⟨z, hz⟩ : ∃ z, worth r.out[i].a[k] m.a = z := ⟨_, rfl⟩
          rw [hz] at HCw HBad HStep
          obtain ⟨fk, hfk⟩ : ∃ fk, r.out[i].a[k].k = fk := ⟨_, rfl⟩
          obtain ⟨fl, hfl⟩ : ∃ fl, r.out[i].a[k].cs.length = fl := ⟨_, rfl⟩
          rw [hfk] at g0 HCw
          rw [hfl] at g1 HCw
          clear hp2 hin2 hff hz hfk hfl
          have r1 := fun d os => cell_regrown g0 d os
          have r2 := fun d os => cell_regrown g1 d os
          have r3 := fun d os => cell_regrown x6 d os
          have r4 := fun d os => cell_regrown x1 d os
          have r5 := fun d os => cell_regrown f1 d os
          go_wp2_with fail
          refine wp_region_quiet_below (by kernel_rfl) (by kernel_rfl) ?_
          repeat (any_goals (first | go_big_quiet_step ((go_at_call 70; exact Calls.regrown_of (HCw.out _ _))) | quiet_step ((go_at_call 70; exact Calls.regrown_of (HCw.out _ _)))))
          refine wpQuiet_nil ?_
          intro wq hw'
          obtain ⟨⟨dq, osq⟩, hw''⟩ := hw'
          have HBq : Hid (Below wr.heap.size wr («Sort».grow (redrawn wr dq) osq)) := Lib.hid (below_regrown wr dq osq)
          generalize «Sort».grow (redrawn wr dq) osq = wz at hw'' HBq
          subst hw''
          have HIq := Lib.hid (HI.out.later HBq.out)
          have HBWq := Lib.hid (HBW.out.trans (HBq.out.mono HBW.out.size))
          have p0 := cell_two0 HIq.out.blk
          have p1 := cell_two1 HIq.out.blk
          have lq := lt_of_block HIq.out.blk
          by_cases z1 : z < -1000000000
          · have HEr := Lib.hid (HE0.out _ HBWq.out (HBad.out (argB_lo z1)))
            go_wp2_with fail
            go_ret2
            exact HEr.out
          · by_cases z2 : 1000000000 < z
            · have HEr := Lib.hid (HE0.out _ HBWq.out (HBad.out (argB_hi z2)))
              go_wp2_with fail
              go_ret2
              exact HEr.out
            · have HGd := Lib.hid (argB_ok z1 z2)
              have P6 : Hid ((wq.alloc (.cells #[.int .i64 z] 3)).ownsRow (wo.heap.size + 1) 3 1 (.slice pa k capa) k (valsL (wos r.out[i].a m.a k))) := Lib.hid (HIq.out.own.alloc _)
              have hzq := HIq.out.below.size
              go_wp2_with (at_builtin; refine wpList_append_own _ rfl _ _ 23 rfl (wo.heap.size + 1) 3 i0 (.int .i64 0) 1 8 Tryd.underlying23 hi hz0 hz1 hz2 rfl (by decide) (.slice pa k capa) k (valsL (wos r.out[i].a m.a k)) rfl P6.out ⟨wq.heap.size, 0, none⟩ 1 1 [.int .i64 z] rfl rfl (cell_one_new _ _ _) (by simp [Value.oneCell']) (by rw [HM.out]; omega) (by omega) (by simp; omega) ?_; intro v2 w3 ho2 hg2 hn2; have N3 := inM_blk HIq.out hg2; have I2 := Lib.hid (HStep.out _ _ _ _ HIq.out ho2 hg2 HGd.out); obtain ⟨p4, c4, rfl⟩ := fr_slice ho2; have q2 := cell_two0 N3; have q3 := cell_two1 N3; have fr1 : w3.frozen? ⟨wo.heap.size, 1, none⟩ = false := (by simp [World.frozen?, N3]); have l3 : wo.heap.size < w3.heap.size := (lt_of_block N3); clear ho2 hg2 hn2 N3)
              go_wp2_with fail
              go_roundw
              case rel => exact ⟨k + 1, _, by go_num, I2.out⟩
              case measure => simp [intOf]; omega
        · obtain rfl : k = r.out[i].a.length := by omega
          have k2 : ¬ (r.out[i].a.length : Int) < (r.out[i].a.length : Int) := by omega
          have hdl : ((r.out.take i).map (mkM · m.a)).length = i := by rw [List.length_map, List.length_take]; omega
          have HD := Lib.hid hdl
          have BX : Hid (Below wo.heap.size wo (wr.alloc (.cells #[.int .u8 r.out[i].c.toNat, .slice pa r.out[i].a.length capa] 25))) := Lib.hid (HI.out.below.alloc HI.out.below.size _)
          have P5 := Lib.hid (l_own_later HMF.out.row BX.out)
          rw [hdl] at P5
          have A5 : Hid ((wr.alloc (.cells #[.int .u8 r.out[i].c.toNat, .slice pa r.out[i].a.length capa] 25)).ownsRow wo.heap.size 3 1 (.slice pa r.out[i].a.length capa) (mkM r.out[i] m.a).a.length (valsL (mkM r.out[i] m.a).a)) := Lib.hid (by
            have h := (owns_mono HI.out.own (show wo.heap.size ≤ wo.heap.size + 1 by omega)).alloc (.cells #[.int .u8 r.out[i].c.toNat, .slice pa r.out[i].a.length capa] 25)
            rw [wos_all] at h
            have e : (mkM r.out[i] m.a).a.length = r.out[i].a.length := by simp [mkM]
            rw [e]; exact h)
          have HSn : Hid ((r.out.take (i + 1)).map (mkM · m.a) = (r.out.take i).map (mkM · m.a) ++ [mkM r.out[i] m.a]) := Lib.hid (by rw [List.take_succ_eq_append_getElem hlt, List.map_append]; rfl)
          have HGo : Hid (∀ j, (h : j < r.out.length) → j < i + 1 → mkB r.out[j] m.a = true) := Lib.hid (fun j hj h => by
            rcases Nat.lt_or_eq_of_le (Nat.le_of_lt_succ h) with h3 | h3
            · exact HS.out.good j hj h3
            · subst h3; exact mkB_ok (fun n hn => HI.out.good n hn hn))
          clear hdl
          obtain ⟨ds, hds⟩ : ∃ ds, (r.out.take i).map (mkM · m.a) = ds := ⟨_, rfl⟩
          rw [hds] at HMF HD P5 HSn
          clear hds
          go_wp2_with (at_builtin; refine wpList_append_own_at _ rfl _ _ 41 rfl W0.heap.size 25 j0 (.agg #[.int .u8 0, .slice none 0 0]) 2 32 Tryd.underlying41 hj hy0 hy1 hy2 rfl (by decide) u6 i (modC ds vs) rfl P5.out ⟨wr.heap.size, 0, none⟩ 1 1 [.int .u8 r.out[i].c.toNat, .slice pa r.out[i].a.length capa] rfl rfl (two_new _ _ _ _) (by simp [Value.oneCell']) (by rw [HM.out]; omega) (by omega) (by simp; omega) ?_; intro v2 w5 ho2 hg2 hn2 hb2)
          have M5 := Lib.hid (modFr_snoc (m := mkM r.out[i] m.a) HMF.out hsz BX.out A5.out (by rw [HD.out]; exact ho2) hg2 hb2)
          have BW : Hid (Below W0.heap.size W0 w5) := Lib.hid ((HS.out.below.trans (BX.out.mono hsz)).grown hg2 (by have := BX.out.size; omega) (fun j e => (owns_lt HMF.out.row j e).1))
          have HT : Hid (OutM W0 r.out m.a (i + 1) v2 w5) := Lib.hid ⟨BW.out, ⟨_, by rw [HSn.out]; exact M5.out⟩, by omega, HGo.out⟩
          clear ho2 hg2 hn2 hb2
          go_wp2_with fail
          go_roundw
          case rel => exact ⟨i + 1, by go_num, HT.out⟩
          case measure => simp [intOf]; omega
    · obtain rfl : i = r.out.length := by omega
      obtain ⟨vs, hM⟩ := HS.out.own
      rw [List.take_length] at hM
      have HF : Hid (MdEnd r m w (.returned (.tuple #[u6, .bool true])) wo) := Lib.hid ⟨HB.out.trans (HS.out.below.mono HB.out.size), .inr ⟨_, vs, made_ok (fun i hi => HS.out.good i hi hi), rfl, hM.mono HB.out.size⟩⟩
      clear hM
      go_wp2_with fail
      go_ret2
      exact HF.out
end Go.Proofs.YtepoaobjcpgilaaDoor
