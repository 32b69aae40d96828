/-
  What the laws' given, refused and alive hand back.
-/
import Derived.Test.YtjjjopopalcokaaDoorWordPs
import Derived.Test.YtjjjopopalcokaaDoorWordUni
namespace Go.Proofs.YtjjjopopalcokaaDoor
open Go.RowKit
open WM
set_option linter.unusedVariables false
set_option linter.unusedSimpArgs false

def giv : List Md := [⟨70, [1, -2]⟩, ⟨91, []⟩, ⟨43, []⟩, ⟨70, []⟩, ⟨93, []⟩, ⟨70, []⟩]
def exS : Bs := [70, 40, 49, 44, 45, 50, 41, 91, 43, 70, 93, 70]
def stL : List Md := [⟨70, [1, -2]⟩, ⟨70, []⟩]
def stS : Bs := [70, 40, 49, 44, 45, 50, 41, 70]
theorem giv_prs : prs exS = some giv := by decide +kernel
theorem st_prs : prs stS = some stL := by decide +kernel
theorem giv_t : tC giv = 0 ∧ tS giv = exS := by
  obtain ⟨h1, h2⟩ := prs_iff.1 giv_prs
  have := tC_yes h1 (by rw [h2]; decide)
  rwa [h2] at this
theorem st_t : tC stL = 0 ∧ tS stL = stS := by
  obtain ⟨h1, h2⟩ := prs_iff.1 st_prs
  have := tC_yes h1 (by rw [h2]; decide)
  rwa [h2] at this
theorem giv_chk : chk giv = 0 := (prs_iff.1 giv_prs).1
theorem giv_sL : sL giv = stL := by
  unfold sL; rw [if_pos giv_chk]
  decide +kernel
theorem giv_dp : dpI giv = 1 := by
  unfold dpI; rw [if_pos giv_chk]
  decide +kernel
theorem giv_p : pC exS = 0 ∧ pL exS = giv := pC_some (by decide) giv_prs
theorem cl_val {l : List Md} {j k : Nat} (h0 : chk l = 0) (h : IsCl l j k) : clV l (j : Int) = (k : Int) ∧ clC l (j : Int) = 0 := by
  have hw : World := Classical.choice ⟨{ (default : World) with heap := #[] }⟩
  have := (cl_u (l := l) (i := (j : Int)) (w := hw) (w' := hw) (e := .returned (.tuple #[.int .i64 (k : Int), .int .i64 0])) ⟨Below.refl _ _, .inr (.inr ⟨h0, j, k, rfl, h, rfl⟩)⟩).1
  simp only [Ending.returned.injEq, Value.tuple.injEq, Array.mk.injEq, List.cons.injEq, Value.int.injEq, true_and, and_true] at this
  exact ⟨this.1.symm, this.2.symm⟩
theorem giv_cl : IsCl giv 1 4 := by
  refine ⟨by decide, by decide, .inl ⟨rfl, by decide, by decide +kernel, fun j h1 h2 => ?_⟩⟩
  have : j = 2 ∨ j = 3 := by omega
  rcases this with rfl | rfl <;> decide +kernel
theorem giv_args : ∀ m ∈ giv, m.a.length ≤ 9223372036854775807 := by
  intro m hm
  have : ∀ m ∈ giv, m.a.length ≤ 2 := by decide
  have := this m hm; omega
theorem stl_args : ∀ m ∈ stL, m.a.length ≤ 9223372036854775807 := by
  intro m hm
  have : ∀ m ∈ stL, m.a.length ≤ 2 := by decide
  have := this m hm; omega
/-- How given ends. -/
def GvEnd (w : World) (e : Ending) (w' : World) : Prop := ∃ v, e = .returned v ∧ NilOr v ∧ Below w.heap.size w w' ∧ Mods w' v giv
theorem given_any (w : World) : Calls Tryd.prog 11 #[] w (GvEnd w) := by
  have HF : Hid (GvEnd w (.returned (.slice (some ⟨w.heap.size + 1, 0, none⟩) 6 6)) ((w.alloc (.cells #[.int .i64 1, .int .i64 (-2)] 3)).alloc (.cells #[.int .u8 70, .slice (some ⟨w.heap.size, 0, none⟩) 2 2, .int .u8 91, .slice none 0 0, .int .u8 43, .slice none 0 0, .int .u8 70, .slice none 0 0, .int .u8 93, .slice none 0 0, .int .u8 70, .slice none 0 0] 27))) := Lib.hid (by
    refine ⟨_, rfl, .inr ⟨_, _, _, rfl⟩, ((Below.refl _ _).alloc (Nat.le_refl _) _).alloc (by simp) _, ?_⟩
    generalize hW : (w.alloc (.cells #[.int .i64 1, .int .i64 (-2)] 3)).alloc (.cells #[.int .u8 70, .slice (some ⟨w.heap.size, 0, none⟩) 2 2, .int .u8 91, .slice none 0 0, .int .u8 43, .slice none 0 0, .int .u8 70, .slice none 0 0, .int .u8 93, .slice none 0 0, .int .u8 70, .slice none 0 0] 27) = W
    have N1 : W.heap[w.heap.size]? = some (.cells #[.int .i64 1, .int .i64 (-2)] 3 (0, 0)) := by rw [← hW]; exact heap_alloc_old (heap_alloc_new _ _) _
    have N2 : W.heap[w.heap.size + 1]? = some (.cells #[.int .u8 70, .slice (some ⟨w.heap.size, 0, none⟩) 2 2, .int .u8 91, .slice none 0 0, .int .u8 43, .slice none 0 0, .int .u8 70, .slice none 0 0, .int .u8 93, .slice none 0 0, .int .u8 70, .slice none 0 0] 27 (0, 0)) := by
      have := heap_alloc_new (w.alloc (.cells #[.int .i64 1, .int .i64 (-2)] 3)) (.cells #[.int .u8 70, .slice (some ⟨w.heap.size, 0, none⟩) 2 2, .int .u8 91, .slice none 0 0, .int .u8 43, .slice none 0 0, .int .u8 70, .slice none 0 0, .int .u8 93, .slice none 0 0, .int .u8 70, .slice none 0 0] 27)
      rw [← hW]; simpa using this
    have hi0 : Ints W (.slice (some ⟨w.heap.size, 0, none⟩) 2 2) [1, -2] := by
      refine .some w.heap.size 0 2 [1, -2] (by decide) (lt_of_block N1) fun i hi => ?_
      have : i = 0 ∨ i = 1 := by simp at hi; omega
      rcases this with rfl | rfl <;> simp [World.cell?, N1]
    refine .some (w.heap.size + 1) 0 6 giv (by decide) (lt_of_block N2) fun i hi => ?_
    have : i = 0 ∨ i = 1 ∨ i = 2 ∨ i = 3 ∨ i = 4 ∨ i = 5 := by
      have : i < 6 := hi
      omega
    rcases this with rfl | rfl | rfl | rfl | rfl | rfl
    · exact ⟨by simp [World.cell?, N2, giv], _, by simp [World.cell?, N2], hi0, .inr ⟨_, _, _, rfl⟩⟩
    all_goals exact ⟨by simp [World.cell?, N2, giv], _, by simp [World.cell?, N2], .none _ _, .inl rfl⟩)
  go_enter Tryd.func11, Tryd.ntmps11
  go_wp2_with fail
  go_ret
  exact HF.out
theorem refused_any (s : ByteArray) (hs : s.size ≤ 9223372036854775807) (hp : pC (lA s) = 12) (w : World) (he : Env w) :
    Calls Tryd.prog 8 #[.string s] w fun e w' => e = .returned (.bool true) ∧ Below w.heap.size w w' := by
  have KP := Lib.hid (pparse_any s hs w he)
  have hl : pL (lA s) = [] := by
    unfold pC at hp; unfold pL
    by_cases h : 50000 < (lA s).length
    · rw [if_pos h]
    · rw [if_neg h] at hp ⊢
      cases h2 : prs (lA s) with
      | none => rfl
      | some x => rw [h2] at hp; simp at hp
  clear he
  go_enter Tryd.func8, Tryd.ntmps8
  go_wp2_with fail
  refine KP.out.mono ?_
  rintro e w1 ⟨v, vs, rfl, hb, hm⟩
  rw [hp]
  rw [hl] at hm
  obtain ⟨p, cap, rfl⟩ := hm.mods.slice
  have B1 := Lib.hid hb
  clear hb hm hp hl
  go_wp2_with fail
  go_ret
  exact ⟨rfl, B1.out⟩
set_option maxRecDepth 100000 in
set_option maxHeartbeats 3200000 in
theorem alive_any (w : World) (he : Env w) :
    Calls Tryd.prog 17 #[] w fun e w' => e = .returned (.bool true) ∧ Below w.heap.size w w' := by
  have HE := Lib.hid he
  have KG := Lib.hid given_any
  have KT := Lib.hid (fun v w hv he => ptext_any v giv (by decide) giv_args w hv he)
  rw [giv_t.1, giv_t.2] at KT
  have KP := Lib.hid (fun w he => pparse_any ⟨#[70, 40, 49, 44, 45, 50, 41, 91, 43, 70, 93, 70]⟩ (by decide) w he)
  have eP : lA ⟨#[70, 40, 49, 44, 45, 50, 41, 91, 43, 70, 93, 70]⟩ = exS := rfl
  unfold PsEnd at KP
  rw [eP, giv_p.1, giv_p.2] at KP
  have KC := Lib.hid (fun v w hv => uclose_any v giv (by decide) giv_args (1 : Nat) w hv)
  rw [(cl_val giv_chk giv_cl).1, (cl_val giv_chk giv_cl).2] at KC
  have KD := Lib.hid (fun v w hv => pdepth_any v giv (by decide) giv_args w hv)
  rw [giv_dp, giv_chk] at KD
  have KS := Lib.hid (fun v w hv => ustrip_any v giv (by decide) giv_args w hv)
  unfold UStEnd at KS
  rw [giv_sL, giv_chk] at KS
  have KU := Lib.hid (fun v w hv he => ptext_any v stL (by decide) stl_args w hv he)
  rw [st_t.1, st_t.2] at KU
  have KM := Lib.hid (fun x y w h h' => same_any x y giv giv (by decide) (by decide) giv_args giv_args w h h')
  rw [decide_eq_true (rfl : giv = giv)] at KM
  have R1 := Lib.hid (fun w he => refused_any ⟨#[70, 40, 48, 49, 41]⟩ (by decide) (by decide +kernel) w he)
  have R2 := Lib.hid (fun w he => refused_any ⟨#[70, 40, 41]⟩ (by decide) (by decide +kernel) w he)
  have R3 := Lib.hid (fun w he => refused_any ⟨#[91, 70]⟩ (by decide) (by decide +kernel) w he)
  have eT : bA exS = ⟨#[70, 40, 49, 44, 45, 50, 41, 91, 43, 70, 93, 70]⟩ := rfl
  have eU : bA stS = ⟨#[70, 40, 49, 44, 45, 50, 41, 70]⟩ := rfl
  rw [eT] at KT
  rw [eU] at KU
  clear he eP eT eU
  go_enter Tryd.func17, Tryd.ntmps17
  go_wp2_with fail
  refine (KG.out _).mono ?_
  rintro e w1 ⟨v1, rfl, _, hb, hm⟩
  have B1 := Lib.hid hb
  have M1 := Lib.hid hm
  clear hb hm
  go_wp2_with fail
  refine (KT.out _ _ M1.out (HE.out.later B1.out)).mono ?_
  rintro e w2 ⟨rfl, hb⟩
  have B2 := Lib.hid (B1.out.trans (hb.mono B1.out.size))
  clear hb
  go_wp2_with fail
  refine (KP.out _ (HE.out.later B2.out)).mono ?_
  rintro e w3 ⟨v3, vs3, rfl, hb, hm⟩
  have B3 := Lib.hid (B2.out.trans (hb.mono B2.out.size))
  have M3 := Lib.hid hm.mods
  clear hb hm
  go_wp2_with fail
  refine (KG.out _).mono ?_
  rintro e w4 ⟨v4, rfl, _, hb, hm⟩
  have B4 := Lib.hid (B3.out.trans (hb.mono B3.out.size))
  have C4 := Lib.hid hb
  have M4 := Lib.hid hm
  clear hb hm
  go_wp2_with fail
  refine (KC.out _ _ M4.out).mono ?_
  rintro e w5 ⟨rfl, hb⟩
  have B5 := Lib.hid (B4.out.trans (hb.mono B4.out.size))
  have C5 := Lib.hid (C4.out.trans (hb.mono C4.out.size))
  clear hb
  go_wp2_with fail
  refine (KG.out _).mono ?_
  rintro e w6 ⟨v6, rfl, _, hb, hm⟩
  have B6 := Lib.hid (B5.out.trans (hb.mono B5.out.size))
  have C6 := Lib.hid (C5.out.trans (hb.mono C5.out.size))
  have M6 := Lib.hid hm
  clear hb hm
  go_wp2_with fail
  refine (KD.out _ _ M6.out).mono ?_
  rintro e w7 ⟨rfl, hb⟩
  have B7 := Lib.hid (B6.out.trans (hb.mono B6.out.size))
  have C7 := Lib.hid (C6.out.trans (hb.mono C6.out.size))
  clear hb
  go_wp2_with fail
  refine (KG.out _).mono ?_
  rintro e w8 ⟨v8, rfl, _, hb, hm⟩
  have B8 := Lib.hid (B7.out.trans (hb.mono B7.out.size))
  have C8 := Lib.hid (C7.out.trans (hb.mono C7.out.size))
  have M8 := Lib.hid hm
  clear hb hm
  go_wp2_with fail
  refine (KS.out _ _ M8.out).mono ?_
  rintro e w9 ⟨v9, vs9, rfl, hb, hm⟩
  have B9 := Lib.hid (B8.out.trans (hb.mono B8.out.size))
  have C9 := Lib.hid (C8.out.trans (hb.mono C8.out.size))
  have M9 := Lib.hid hm.mods
  clear hb hm
  go_wp2_with fail
  refine (KU.out _ _ M9.out (HE.out.later B9.out)).mono ?_
  rintro e w10 ⟨rfl, hb⟩
  have B10 := Lib.hid (B9.out.trans (hb.mono B9.out.size))
  have C10 := Lib.hid (C9.out.trans (hb.mono C9.out.size))
  clear hb
  go_wp2_with fail
  refine (KG.out _).mono ?_
  rintro e w11 ⟨v11, rfl, _, hb, hm⟩
  have B11 := Lib.hid (B10.out.trans (hb.mono B10.out.size))
  have C11 := Lib.hid (C10.out.trans (hb.mono C10.out.size))
  have M11 := Lib.hid hm
  clear hb hm
  go_wp2_with fail
  refine (KM.out _ _ _ (M3.out.later C11.out) M11.out).mono ?_
  rintro e w12 ⟨rfl, hb⟩
  have B12 := Lib.hid (B11.out.trans (hb.mono B11.out.size))
  clear hb
  go_wp2_with fail
  refine (R1.out _ (HE.out.later B12.out)).mono ?_
  rintro e w13 ⟨rfl, hb⟩
  have B13 := Lib.hid (B12.out.trans (hb.mono B12.out.size))
  clear hb
  go_wp2_with fail
  refine (R2.out _ (HE.out.later B13.out)).mono ?_
  rintro e w14 ⟨rfl, hb⟩
  have B14 := Lib.hid (B13.out.trans (hb.mono B13.out.size))
  clear hb
  go_wp2_with fail
  refine (R3.out _ (HE.out.later B14.out)).mono ?_
  rintro e w15 ⟨rfl, hb⟩
  have B15 := Lib.hid (B14.out.trans (hb.mono B14.out.size))
  clear hb
  go_wp2_with fail
  go_ret
  exact ⟨rfl, B15.out⟩
end Go.Proofs.YtjjjopopalcokaaDoor
