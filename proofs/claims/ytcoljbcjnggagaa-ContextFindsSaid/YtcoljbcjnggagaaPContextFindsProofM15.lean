/-
  Texts of the proof, merged: PConPrH, PConPrI, PConPrJ.
-/
import Derived.Test.YtcoljbcjnggagaaPContextFindsProofM14
import Derived.Test.YtcoljbcjnggagaaPContextFindsProofM5
namespace Go.Proofs.Ytcoljbcjnggagaa
open Go.RowKit
open WM RM CM
set_option linter.unusedVariables false
set_option linter.unusedSimpArgs false

theorem fit_c {r : Rw} {m : Md} (h : r.c ≠ m.c) : fitB r m = false := by
  unfold fitB; rw [beq_eq_false_iff_ne.2 h]; rfl
theorem rws_lit {w0 w : World} (r : Rw) (g o : Value) (h1 : Fms w0 g r.gs) (h2 : Shs w0 o r.out) (hb : Below w0.heap.size w0 w) :
    Rws (w.alloc (.cells #[.int .u8 r.c.toNat, .int .i64 r.ar, .int .u8 r.l.toNat, .int .u8 r.r.toNat, g, .int .i64 r.wt, o] 48)) (.slice (some ⟨w.heap.size, 0, none⟩) 1 1) [r] := by
  have hb2 : Below w0.heap.size w0 (w.alloc (.cells #[.int .u8 r.c.toNat, .int .i64 r.ar, .int .u8 r.l.toNat, .int .u8 r.r.toNat, g, .int .i64 r.wt, o] 48)) := hb.trans ((Below.refl _ _).alloc hb.size _)
  exact rws_row (base := 0) (l := [r]) (World.ownsRow_lit (base := 0) (e := 48) (size := 7) w #[.int .u8 r.c.toNat, .int .i64 r.ar, .int .u8 r.l.toNat, .int .u8 r.r.toNat, g, .int .i64 r.wt, o] 1 (Nat.zero_le _) (by show 1 ≤ 9223372036854775807; omega) rfl) (RowR.one (h1.later hb2) (h2.later hb2))
set_option maxRecDepth 100000 in
set_option maxHeartbeats 3200000 in
theorem pfits_any (r : Rw) (m : Md) (pg : Option Addr) (cg : Nat) (po : Option Addr) (co : Nat) (pm : Option Addr) (cm : Nat) (hr : ruleB r = true) (hsm : RwSm r) (hg4 : r.gs.length ≤ 4) (hm : fineB m = true) (hnil : NilOr (.slice pm m.a.length cm)) (w : World) (h1 : Fms w (.slice pg r.gs.length cg) r.gs) (h3 : Ints w (.slice pm m.a.length cm) m.a) :
    Calls Try.prog 52 #[.agg #[.int .u8 r.c.toNat, .int .i64 r.ar, .int .u8 r.l.toNat, .int .u8 r.r.toNat, .slice pg r.gs.length cg, .int .i64 r.wt, .slice po r.out.length co], .agg #[.int .u8 m.c.toNat, .slice pm m.a.length cm]] w fun e w' => e = .returned (.bool (fitB r m)) ∧ Below w.heap.size w w' := by
  obtain ⟨W0, hW0⟩ : ∃ W, W = (w.alloc (.cells #[.int .u8 r.c.toNat, .int .i64 r.ar, .int .u8 r.l.toNat, .int .u8 r.r.toNat, .slice pg r.gs.length cg, .int .i64 r.wt, .slice po r.out.length co] 48)).alloc (.cells #[.int .u8 m.c.toNat, .slice pm m.a.length cm] 55) := ⟨_, rfl⟩
  have N1 : W0.heap[w.heap.size]? = some (.cells #[.int .u8 r.c.toNat, .int .i64 r.ar, .int .u8 r.l.toNat, .int .u8 r.r.toNat, .slice pg r.gs.length cg, .int .i64 r.wt, .slice po r.out.length co] 48 (0, 0)) := by rw [hW0]; exact heap_alloc_old (heap_alloc_new _ _) _
  have N2 : W0.heap[w.heap.size + 1]? = some (.cells #[.int .u8 m.c.toNat, .slice pm m.a.length cm] 55 (0, 0)) := by
    have := heap_alloc_new (w.alloc (.cells #[.int .u8 r.c.toNat, .int .i64 r.ar, .int .u8 r.l.toNat, .int .u8 r.r.toNat, .slice pg r.gs.length cg, .int .i64 r.wt, .slice po r.out.length co] 48)) (.cells #[.int .u8 m.c.toNat, .slice pm m.a.length cm] 55)
    rw [hW0]; simpa using this
  have B0 : Below w.heap.size w W0 := by rw [hW0]; exact ((Below.refl _ _).alloc (Nat.le_refl _) _).alloc (by simp) _
  have HB := Lib.hid B0
  have H1 := Lib.hid (h1.later B0)
  have H3 := Lib.hid (h3.later B0)
  have q0 : W0.cell? ⟨w.heap.size, 0, none⟩ = some (.int .u8 r.c.toNat) := by simp [World.cell?, N1]
  have q1 : W0.cell? ⟨w.heap.size, 1, none⟩ = some (.int .i64 r.ar) := by simp [World.cell?, N1]
  have q4 : W0.cell? ⟨w.heap.size, 4, none⟩ = some (.slice pg r.gs.length cg) := by simp [World.cell?, N1]
  have m0 := cell_two0 N2
  have m1 := cell_two1 N2
  have l1 := lt_of_block N1
  have l2 := lt_of_block N2
  by_cases hc : r.c = m.c
  · have t0 : ((r.c.toNat : Int) != (m.c.toNat : Int)) = false := by rw [hc]; simp
    have HF := Lib.hid (ask_fin hr hg4 hm)
    have hs0 : W0.heap.size = w.heap.size + 1 + 1 := by rw [hW0]; simp
    have KF : Hid (Calls Try.prog 68 #[.slice (some ⟨w.heap.size + 1 + 1 + 1, 0, none⟩) 1 1, .agg #[.int .u8 m.c.toNat, .slice pm m.a.length cm]] ((W0.alloc (.cells #[.int .u8 r.c.toNat, .int .i64 r.ar, .int .u8 0, .int .u8 0, .slice pg r.gs.length cg, .int .i64 0, .slice none 0 0] 48)).alloc (.cells #[.int .u8 r.c.toNat, .int .i64 r.ar, .int .u8 0, .int .u8 0, .slice pg r.gs.length cg, .int .i64 0, .slice none 0 0] 48)) fun e w' => e = .returned (.tuple #[.int .i64 (finV [askR r] m), .int .i64 (finC [askR r] m)]) ∧ Below w.heap.size w w') := Lib.hid (by
      have hb1 : Below W0.heap.size W0 (W0.alloc (.cells #[.int .u8 r.c.toNat, .int .i64 r.ar, .int .u8 0, .int .u8 0, .slice pg r.gs.length cg, .int .i64 0, .slice none 0 0] 48)) := (Below.refl _ _).alloc (Nat.le_refl _) _
      have hb2 : Below W0.heap.size W0 ((W0.alloc (.cells #[.int .u8 r.c.toNat, .int .i64 r.ar, .int .u8 0, .int .u8 0, .slice pg r.gs.length cg, .int .i64 0, .slice none 0 0] 48)).alloc (.cells #[.int .u8 r.c.toNat, .int .i64 r.ar, .int .u8 0, .int .u8 0, .slice pg r.gs.length cg, .int .i64 0, .slice none 0 0] 48)) := hb1.alloc hb1.size _
      have hrw := rws_lit (w0 := W0) (w := W0.alloc (.cells #[.int .u8 r.c.toNat, .int .i64 r.ar, .int .u8 0, .int .u8 0, .slice pg r.gs.length cg, .int .i64 0, .slice none 0 0] 48)) (askR r) (.slice pg r.gs.length cg) (.slice none 0 0) H1.out (.none _ _) hb1
      have hsz : (W0.alloc (.cells #[.int .u8 r.c.toNat, .int .i64 r.ar, .int .u8 0, .int .u8 0, .slice pg r.gs.length cg, .int .i64 0, .slice none 0 0] 48)).heap.size = w.heap.size + 1 + 1 + 1 := by simp [hs0]
      rw [hsz] at hrw
      have K := prfind_any (.slice (some ⟨w.heap.size + 1 + 1 + 1, 0, none⟩) 1 1) [askR r] m (.slice pm m.a.length cm) (by simp) (by intro x hx; simp at hx; subst hx; exact ⟨hsm.1, by simp [askR], hsm.2.2.1, by simp [askR]⟩) (by have := (fine_args4 hm).1; omega) _ hrw (H3.out.later hb2) hnil
      refine K.mono ?_
      rintro e w' ⟨he, hb⟩
      exact ⟨he, HB.out.trans ((hb2.trans (hb.mono hb2.size)).mono HB.out.size)⟩)
    rw [HF.out.1, HF.out.2] at KF
    obtain ⟨tf, htf⟩ : ∃ t, fitB r m = t := ⟨_, rfl⟩
    rw [htf] at KF ⊢
    clear N1 N2 B0 h1 h3 hc htf HF q0 q1 q4 m0 m1 l1 l2 hs0
    cases tf with
    | true =>
      rw [if_pos rfl] at KF
      go_enter Try.func52, Try.ntmps52
      go_wp2_with fail
      rw [← hW0]
      refine KF.out.mono ?_
      rintro e w1 ⟨rfl, hb⟩
      have B1 := Lib.hid hb
      clear hb
      go_wp2_with fail
      go_ret
      exact ⟨rfl, B1.out⟩
    | false =>
      rw [if_neg (by decide)] at KF
      go_enter Try.func52, Try.ntmps52
      go_wp2_with fail
      rw [← hW0]
      refine KF.out.mono ?_
      rintro e w1 ⟨rfl, hb⟩
      have B1 := Lib.hid hb
      clear hb
      go_wp2_with fail
      go_ret
      exact ⟨rfl, B1.out⟩
  · have t0 : ((r.c.toNat : Int) != (m.c.toNat : Int)) = true := nn_tst hc
    have HF : Hid (fitB r m = false) := Lib.hid (fit_c hc)
    clear N1 N2 B0 h1 h3
    go_enter Try.func52, Try.ntmps52
    go_wp2_with fail
    rw [← hW0]
    clear hW0
    go_wp2_with fail
    go_ret
    exact ⟨ret_bool HF.out.symm, HB.out⟩
/-- How successor ends. -/
def ScEnd (r : Rw) (m : Md) (w : World) (e : Ending) (w' : World) : Prop := Below w.heap.size w w' ∧ ((made r m = none ∧ ∃ p n c, e = .returned (.tuple #[.slice p n c, .int .i64 16])) ∨ ∃ d v vs, made r m = some d ∧ e = .returned (.tuple #[v, .int .i64 0]) ∧ ModFr w' w.heap.size v d vs)
set_option maxRecDepth 100000 in
set_option maxHeartbeats 3200000 in
theorem psucc_any (r : Rw) (m : Md) (pg : Option Addr) (cg : Nat) (po : Option Addr) (co : Nat) (pm : Option Addr) (cm : Nat) (hr : ruleB r = true) (hsm : RwSm r) (ho : r.out.length ≤ 20) (hm : fineB m = true) (hf : fitB r m = true) (hnil : NilOr (.slice pm m.a.length cm)) (w : World) (h2 : Shs w (.slice po r.out.length co) r.out) (h3 : Ints w (.slice pm m.a.length cm) m.a) :
    Calls Try.prog 64 #[.agg #[.int .u8 r.c.toNat, .int .i64 r.ar, .int .u8 r.l.toNat, .int .u8 r.r.toNat, .slice pg r.gs.length cg, .int .i64 r.wt, .slice po r.out.length co], .agg #[.int .u8 m.c.toNat, .slice pm m.a.length cm]] w (ScEnd r m w) := by
  obtain ⟨W0, hW0⟩ : ∃ W, W = (w.alloc (.cells #[.int .u8 r.c.toNat, .int .i64 r.ar, .int .u8 r.l.toNat, .int .u8 r.r.toNat, .slice pg r.gs.length cg, .int .i64 r.wt, .slice po r.out.length co] 48)).alloc (.cells #[.int .u8 m.c.toNat, .slice pm m.a.length cm] 55) := ⟨_, rfl⟩
  have B0 : Below w.heap.size w W0 := by rw [hW0]; exact ((Below.refl _ _).alloc (Nat.le_refl _) _).alloc (by simp) _
  have HB := Lib.hid B0
  have H2 := Lib.hid (h2.later B0)
  have H3 := Lib.hid (h3.later B0)
  have hs0 : W0.heap.size = w.heap.size + 1 + 1 := by rw [hW0]; simp
  have HR := Lib.hid (rep_st hr ho hm hf)
  have KF : Hid (Calls Try.prog 73 #[.slice (some ⟨w.heap.size + 1 + 1 + 1, 0, none⟩) 1 1, .slice (some ⟨w.heap.size + 1 + 1 + 1 + 1, 0, none⟩) 1 1] (((W0.alloc (.cells #[.int .u8 r.c.toNat, .int .i64 r.ar, .int .u8 0, .int .u8 0, .slice none 0 0, .int .i64 0, .slice po r.out.length co] 48)).alloc (.cells #[.int .u8 r.c.toNat, .int .i64 r.ar, .int .u8 0, .int .u8 0, .slice none 0 0, .int .i64 0, .slice po r.out.length co] 48)).alloc (.cells #[.int .u8 m.c.toNat, .slice pm m.a.length cm] 55)) fun e w' => (∃ v vs, e = .returned (.tuple #[v, .int .i64 (stC [repR r] [m])]) ∧ Below w.heap.size w w' ∧ ModFr w' w.heap.size v (stL [repR r] [m]) vs)) := Lib.hid (by
    have hb1 : Below W0.heap.size W0 (W0.alloc (.cells #[.int .u8 r.c.toNat, .int .i64 r.ar, .int .u8 0, .int .u8 0, .slice none 0 0, .int .i64 0, .slice po r.out.length co] 48)) := (Below.refl _ _).alloc (Nat.le_refl _) _
    have hb2 : Below W0.heap.size W0 ((W0.alloc (.cells #[.int .u8 r.c.toNat, .int .i64 r.ar, .int .u8 0, .int .u8 0, .slice none 0 0, .int .i64 0, .slice po r.out.length co] 48)).alloc (.cells #[.int .u8 r.c.toNat, .int .i64 r.ar, .int .u8 0, .int .u8 0, .slice none 0 0, .int .i64 0, .slice po r.out.length co] 48)) := hb1.alloc hb1.size _
    have hrw := rws_lit (w0 := W0) (w := W0.alloc (.cells #[.int .u8 r.c.toNat, .int .i64 r.ar, .int .u8 0, .int .u8 0, .slice none 0 0, .int .i64 0, .slice po r.out.length co] 48)) (repR r) (.slice none 0 0) (.slice po r.out.length co) (.none _ _) H2.out hb1
    have hsz : (W0.alloc (.cells #[.int .u8 r.c.toNat, .int .i64 r.ar, .int .u8 0, .int .u8 0, .slice none 0 0, .int .i64 0, .slice po r.out.length co] 48)).heap.size = w.heap.size + 1 + 1 + 1 := by simp [hs0]
    have hsz2 : ((W0.alloc (.cells #[.int .u8 r.c.toNat, .int .i64 r.ar, .int .u8 0, .int .u8 0, .slice none 0 0, .int .i64 0, .slice po r.out.length co] 48)).alloc (.cells #[.int .u8 r.c.toNat, .int .i64 r.ar, .int .u8 0, .int .u8 0, .slice none 0 0, .int .i64 0, .slice po r.out.length co] 48)).heap.size = w.heap.size + 1 + 1 + 1 + 1 := by simp [hs0]
    rw [hsz] at hrw
    change Rws ((W0.alloc (.cells #[.int .u8 r.c.toNat, .int .i64 r.ar, .int .u8 0, .int .u8 0, .slice none 0 0, .int .i64 0, .slice po r.out.length co] 48)).alloc (.cells #[.int .u8 r.c.toNat, .int .i64 r.ar, .int .u8 0, .int .u8 0, .slice none 0 0, .int .i64 0, .slice po r.out.length co] 48)) _ _ at hrw
    have hmd := mods_new ((W0.alloc (.cells #[.int .u8 r.c.toNat, .int .i64 r.ar, .int .u8 0, .int .u8 0, .slice none 0 0, .int .i64 0, .slice po r.out.length co] 48)).alloc (.cells #[.int .u8 r.c.toNat, .int .i64 r.ar, .int .u8 0, .int .u8 0, .slice none 0 0, .int .i64 0, .slice po r.out.length co] 48)) m (.slice pm m.a.length cm) (H3.out.later hb2) hnil
    rw [hsz2] at hmd
    have hb3 : Below W0.heap.size W0 (((W0.alloc (.cells #[.int .u8 r.c.toNat, .int .i64 r.ar, .int .u8 0, .int .u8 0, .slice none 0 0, .int .i64 0, .slice po r.out.length co] 48)).alloc (.cells #[.int .u8 r.c.toNat, .int .i64 r.ar, .int .u8 0, .int .u8 0, .slice none 0 0, .int .i64 0, .slice po r.out.length co] 48)).alloc (.cells #[.int .u8 m.c.toNat, .slice pm m.a.length cm] 55)) := hb2.alloc hb2.size _
    have K := pstep1_any (.slice (some ⟨w.heap.size + 1 + 1 + 1, 0, none⟩) 1 1) [repR r] (by simp) (by intro x hx; simp at hx; subst hx; exact ⟨by simp [repR], hsm.2.1, by simp [repR], hsm.2.2.2⟩) (.slice (some ⟨w.heap.size + 1 + 1 + 1 + 1, 0, none⟩) 1 1) [m] (by simp) (by have := (fine_args4 hm).1; intro x hx; simp at hx; subst hx; omega) _ (hrw.later ((Below.refl _ _).alloc (Nat.le_refl _) _)) hmd (.inr ⟨_, _, _, rfl⟩)
    refine K.mono ?_
    rintro e w' ⟨v, vs, he, hb, hmo⟩
    have hBB := HB.out.trans ((hb3.trans (hb.mono hb3.size)).mono HB.out.size)
    exact ⟨v, vs, he, hBB, hmo.mono (by have := hb3.size; omega)⟩)
  clear B0 h2 h3 hs0
  cases hmd : made r m with
  | none =>
    obtain ⟨e1, e2⟩ := HR.out.1 hmd
    rw [e1, e2] at KF
    have HE : Hid (∀ w' p n c, Below w.heap.size w w' → ScEnd r m w (.returned (.tuple #[.slice p n c, .int .i64 16])) w') := Lib.hid (fun w' p n c hb => ⟨hb, .inl ⟨hmd, p, n, c, rfl⟩⟩)
    clear hmd HR e1 e2
    go_enter Try.func64, Try.ntmps64
    go_wp2_with fail
    rw [← hW0]
    refine KF.out.mono ?_
    rintro e w1 ⟨v, vs, rfl, hb, hmo⟩
    obtain ⟨p, c, rfl⟩ := own_sl hmo.row
    have HF := Lib.hid (HE.out w1 p ([] : List Md).length c hb)
    clear hb hmo
    go_wp2_with fail
    go_ret2
    exact HF.out
  | some d =>
    obtain ⟨e1, e2⟩ := HR.out.2 d hmd
    rw [e1, e2] at KF
    have HE : Hid (∀ w' v vs, Below w.heap.size w w' → ModFr w' w.heap.size v d vs → ScEnd r m w (.returned (.tuple #[v, .int .i64 0])) w') := Lib.hid (fun w' v vs hb hmo => ⟨hb, .inr ⟨d, v, vs, hmd, rfl, hmo⟩⟩)
    clear hmd HR e1 e2
    go_enter Try.func64, Try.ntmps64
    go_wp2_with fail
    rw [← hW0]
    refine KF.out.mono ?_
    rintro e w1 ⟨v, vs, rfl, hb, hmo⟩
    have HF := Lib.hid (HE.out _ _ _ hb hmo)
    obtain ⟨p, c, rfl⟩ := own_sl hmo.row
    clear hb hmo
    go_wp2_with fail
    go_ret2
    exact HF.out
end Go.Proofs.Ytcoljbcjnggagaa
namespace Go.Proofs.Ytcoljbcjnggagaa
open Go.RowKit
open WM RM CM
set_option linter.unusedVariables false
set_option linter.unusedSimpArgs false

theorem mods_nil {w : World} {b off len cap : Nat} {l : List Md} (h : Mods w (.slice (some ⟨b, off, none⟩) len cap) l) {k : Nat} (hk : k < l.length) : ∃ q qc, w.cell? ⟨b, off + k * 2, none⟩ = some (.int .u8 l[k].c.toNat) ∧ w.cell? ⟨b, off + k * 2 + 1, none⟩ = some (.slice q l[k].a.length qc) ∧ Ints w (.slice q l[k].a.length qc) l[k].a ∧ b < w.heap.size ∧ NilOr (.slice q l[k].a.length qc) := by
  cases h with
  | none _ _ => simp at hk
  | some _ _ _ _ hpos hb hx =>
    obtain ⟨h1, v, h2, h3, h4⟩ := hx k hk
    obtain ⟨q, qc, rfl⟩ := h3.slice
    exact ⟨q, qc, h1, h2, h3, hb, h4⟩
set_option maxRecDepth 100000 in
set_option maxHeartbeats 6400000 in
theorem pvfirst_any (v : Value) (l : List Rw) (hmax : l.length ≤ 50) (hs : ∀ r ∈ l, RwSm r) (hru : ∀ r ∈ l, ruleB r = true ∧ r.gs.length ≤ 4) (s : ByteArray)
    (p2 : Option Addr) (cap2 : Nat) (u : List Md) (hu : u.length ≤ 2000) (huf : ∀ m ∈ u, fineB m = true) (i : Nat) (hi : i < u.length) (g1 g2 : Nat) (w : World) (hv : Rws w v l) (hw : Mods w (.slice p2 u.length cap2) u) (hg1 : RowI w g1 (lfL (lA s) u u.length)) (hg2 : RowI w g2 (rgL (lA s) u u.length)) :
    Calls Try.prog 30 #[.agg #[.slice p2 u.length cap2, .slice (some ⟨g1, 0, none⟩) u.length u.length, .slice (some ⟨g2, 0, none⟩) u.length u.length], v, .int .i64 (i : Int)] w fun e w' => e = .returned (.int .i64 (cfirst (lA s) l u i)) ∧ Below w.heap.size w w' := by
  obtain ⟨p, cap, rfl⟩ := hv.slice
  obtain ⟨W0, hW0⟩ : ∃ W, W = w.alloc (.cells #[.slice p2 u.length cap2, .slice (some ⟨g1, 0, none⟩) u.length u.length, .slice (some ⟨g2, 0, none⟩) u.length u.length] 61) := ⟨_, rfl⟩
  have N0 : W0.heap[w.heap.size]? = some (.cells #[.slice p2 u.length cap2, .slice (some ⟨g1, 0, none⟩) u.length u.length, .slice (some ⟨g2, 0, none⟩) u.length u.length] 61 (0, 0)) := by rw [hW0]; exact heap_alloc_new _ _
  have B0 : Below w.heap.size w W0 := by rw [hW0]; exact (Below.refl _ _).alloc (Nat.le_refl _) _
  have HB0 := Lib.hid B0
  have HV := Lib.hid (hv.later B0)
  have HW := Lib.hid (hw.later B0)
  have q0 : W0.cell? ⟨w.heap.size, 0, none⟩ = some (.slice p2 u.length cap2) := by simp [World.cell?, N0]
  have q1 : W0.cell? ⟨w.heap.size, 1, none⟩ = some (.slice (some ⟨g1, 0, none⟩) u.length u.length) := by simp [World.cell?, N0]
  have q2 : W0.cell? ⟨w.heap.size, 2, none⟩ = some (.slice (some ⟨g2, 0, none⟩) u.length u.length) := by simp [World.cell?, N0]
  have l0 := lt_of_block N0
  have hr1 := hg1.later B0
  have hr2 := hg2.later B0
  have lg1 := hr1.lt
  have lg2 := hr2.lt
  have q3 := hr1.cell (i := i) (by rw [lfL_length]; exact hi)
  rw [lfL_get hi, if_pos hi] at q3
  have q4 := hr2.cell (i := i) (by rw [rgL_length]; exact hi)
  rw [rgL_get hi, if_pos (by omega)] at q4
  have KN := Lib.hid (fun (k : Int) hk c w h => phas_any (.slice p2 u.length cap2) (some ⟨g1, 0, none⟩) u.length u.length (some ⟨g2, 0, none⟩) u.length u.length u (by omega) k hk c w h)
  have HS := Lib.hid hs
  have HRu := Lib.hid hru
  have HFi := Lib.hid (huf _ (List.getElem_mem hi))
  generalize lA s = g at q3 q4 ⊢
  have i1 : (i : Int) < (u.length : Int) := by omega
  have hmd := md_get hi
  have HBl := Lib.hid (bef_rng (g := g) hi)
  have HBr0 := Lib.hid (beh_rng (g := g) hi)
  have HQ : Hid (∀ r, cfitB g u i r = (nbB u (bef g u i) r.l && nbB u (beh g u i) r.r && fitB r u[i])) := Lib.hid (fun r => by
    unfold cfitB; rw [hmd]
    cases fitB r u[i] <;> simp)
  obtain ⟨bw, ow, cw, _, _, hp2, _, _, _, lbw0⟩ := HW.out.at hi
  obtain rfl : p2 = some ⟨bw, ow, none⟩ := by cases hp2; rfl
  obtain ⟨q, qc, y0, y1, hin, lbw, hnq⟩ := mods_nil HW.out hi
  have HIn := Lib.hid hin
  have HNq := Lib.hid hnq
  clear N0 B0 hv hw hs hru huf hg1 hg2 hr1 hr2 hmd hp2 hin hnq
  go_enter Try.func30, Try.ntmps30
  go_wp2_with fail
  rw [← hW0]
  clear hW0
  go_wp2_with fail
  go_loopw [11] (fun k wr => ∃ k' : Nat, k' ≤ l.length ∧ k = .int .i64 k' ∧ Below W0.heap.size W0 wr ∧ CFAt g l u i k') (fun k _ => l.length - (intOf k).toNat)
  case atStart => exact ⟨0, Nat.zero_le _, rfl, Below.refl _ _, cfAt_start _ _ _ _⟩
  case round =>
    rename World => wo
    obtain ⟨k, hk, rfl, hb, hok⟩ := hrel
    have HK := Lib.hid hok
    have HBr := Lib.hid hb
    have hbz := hb.size
    clear hok hb
    by_cases hlt : k < l.length
    · have k1 : (k : Int) < (l.length : Int) := by omega
      obtain ⟨b, off, cap', gg, gc, o, oc, hp, lb, hat⟩ := (HV.out.later HBr.out).at hlt
      obtain rfl : p = some ⟨b, off, none⟩ := by cases hp; rfl
      obtain ⟨W1, hW1⟩ : ∃ W, W = wo.alloc (.cells #[.int .u8 l[k].c.toNat, .int .i64 l[k].ar, .int .u8 l[k].l.toNat, .int .u8 l[k].r.toNat, .slice gg l[k].gs.length gc, .int .i64 l[k].wt, .slice o l[k].out.length oc] 48) := ⟨_, rfl⟩
      have N1 : W1.heap[wo.heap.size]? = some (.cells #[.int .u8 l[k].c.toNat, .int .i64 l[k].ar, .int .u8 l[k].l.toNat, .int .u8 l[k].r.toNat, .slice gg l[k].gs.length gc, .int .i64 l[k].wt, .slice o l[k].out.length oc] 48 (0, 0)) := by rw [hW1]; exact heap_alloc_new _ _
      have b1 : Below wo.heap.size wo W1 := by rw [hW1]; exact (Below.refl _ _).alloc (Nat.le_refl _) _
      have E1 := Lib.hid b1
      have D1 := Lib.hid (HBr.out.trans (b1.mono hbz))
      have z0 := (D1.out.cell (p := ⟨w.heap.size, 0, none⟩) l0).trans q0
      have z1 := (D1.out.cell (p := ⟨w.heap.size, 1, none⟩) l0).trans q1
      have z2 := (D1.out.cell (p := ⟨w.heap.size, 2, none⟩) l0).trans q2
      have z3 := (D1.out.cell (p := ⟨g1, i, none⟩) lg1).trans q3
      have z4 := (D1.out.cell (p := ⟨g2, i, none⟩) lg2).trans q4
      have z5 := (D1.out.cell (p := ⟨bw, ow + i * 2, none⟩) lbw).trans y0
      have z6 := (D1.out.cell (p := ⟨bw, ow + i * 2 + 1, none⟩) lbw).trans y1
      have x0 : W1.cell? ⟨wo.heap.size, 0, none⟩ = some (.int .u8 l[k].c.toNat) := by simp [World.cell?, N1]
      have x1 : W1.cell? ⟨wo.heap.size, 1, none⟩ = some (.int .i64 l[k].ar) := by simp [World.cell?, N1]
      have x2 : W1.cell? ⟨wo.heap.size, 2, none⟩ = some (.int .u8 l[k].l.toNat) := by simp [World.cell?, N1]
      have x3 : W1.cell? ⟨wo.heap.size, 3, none⟩ = some (.int .u8 l[k].r.toNat) := by simp [World.cell?, N1]
      have x4 : W1.cell? ⟨wo.heap.size, 4, none⟩ = some (.slice gg l[k].gs.length gc) := by simp [World.cell?, N1]
      have x5 : W1.cell? ⟨wo.heap.size, 5, none⟩ = some (.int .i64 l[k].wt) := by simp [World.cell?, N1]
      have x6 : W1.cell? ⟨wo.heap.size, 6, none⟩ = some (.slice o l[k].out.length oc) := by simp [World.cell?, N1]
      obtain ⟨hr1, hr2⟩ := HRu.out _ (List.getElem_mem hlt)
      have hsm := HS.out _ (List.getElem_mem hlt)
      have HCw : Hid (∀ (d' : Nat) (os : Array Obj), Calls Try.prog 52 #[.agg #[.int .u8 l[k].c.toNat, .int .i64 l[k].ar, .int .u8 l[k].l.toNat, .int .u8 l[k].r.toNat, .slice gg l[k].gs.length gc, .int .i64 l[k].wt, .slice o l[k].out.length oc], .agg #[.int .u8 u[i].c.toNat, .slice q u[i].a.length qc]] («Sort».grow (redrawn W1 d') os) fun e w' => e = .returned (.bool (fitB l[k] u[i])) ∧ Below («Sort».grow (redrawn W1 d') os).heap.size («Sort».grow (redrawn W1 d') os) w') :=
        Lib.hid (fun d' os => pfits_any l[k] u[i] gg gc o oc q qc hr1 hsm hr2 HFi.out HNq.out _ ((hat.gs.later E1.out).later (below_regrown W1 d' os)) ((HIn.out.later D1.out).later (below_regrown W1 d' os)))
      have KL : Hid (∀ (d' : Nat) (os : Array Obj), Calls Try.prog 51 #[.agg #[.slice (some ⟨bw, ow, none⟩) u.length cap2, .slice (some ⟨g1, 0, none⟩) u.length u.length, .slice (some ⟨g2, 0, none⟩) u.length u.length], .int .i64 (bef g u i), .int .u8 l[k].l.toNat] («Sort».grow (redrawn W1 d') os) fun e w' => e = .returned (.bool (nbB u (bef g u i) l[k].l)) ∧ Below («Sort».grow (redrawn W1 d') os).heap.size («Sort».grow (redrawn W1 d') os) w') :=
        Lib.hid (fun d' os => KN.out _ HBl.out l[k].l _ ((HW.out.later D1.out).later (below_regrown W1 d' os)))
      have KR : Hid (∀ (d' : Nat) (os : Array Obj), Calls Try.prog 51 #[.agg #[.slice (some ⟨bw, ow, none⟩) u.length cap2, .slice (some ⟨g1, 0, none⟩) u.length u.length, .slice (some ⟨g2, 0, none⟩) u.length u.length], .int .i64 (beh g u i), .int .u8 l[k].r.toNat] («Sort».grow (redrawn W1 d') os) fun e w' => e = .returned (.bool (nbB u (beh g u i) l[k].r)) ∧ Below («Sort».grow (redrawn W1 d') os).heap.size («Sort».grow (redrawn W1 d') os) w') :=
        Lib.hid (fun d' os => KN.out _ HBr0.out l[k].r _ ((HW.out.later D1.out).later (below_regrown W1 d' os)))
      have HQk := Lib.hid (HQ.out l[k])
      have HYes := Lib.hid (cfAt_yes hlt HK.out)
      have HNo := Lib.hid (cfAt_no hlt HK.out)
      obtain ⟨e0, e1, e2, e3, e4, e5, e6, _, _⟩ := hat
      generalize cfitB g u i l[k] = tq at HQk HYes HNo
      generalize fitB l[k] u[i] = t1 at HCw HQk
      generalize nbB u (bef g u i) l[k].l = t2 at KL HQk
      generalize nbB u (beh g u i) l[k].r = t3 at KR HQk
      generalize bef g u i = zb at z3 KL
      generalize beh g u i = zf at z4 KR
      generalize u[i].c.toNat = xc at z5 HCw
      generalize u[i].a.length = xl at z6 HCw
      generalize l[k].c.toNat = v0 at e0 x0 HCw hW1
      generalize l[k].ar = v1 at e1 x1 HCw hW1
      generalize l[k].l.toNat = v2 at e2 x2 HCw KL hW1
      generalize l[k].r.toNat = v3 at e3 x3 HCw KR hW1
      generalize l[k].gs.length = v4 at e4 x4 HCw hW1
      generalize l[k].wt = v5 at e5 x5 HCw hW1
      generalize l[k].out.length = v6 at e6 x6 HCw hW1
      clear hp hr1 hr2 hsm N1 b1
      have r0 := fun d os => cell_regrown x0 d os
      have r1 := fun d os => cell_regrown x1 d os
      have r2 := fun d os => cell_regrown x2 d os
      have r3 := fun d os => cell_regrown x3 d os
      have r4 := fun d os => cell_regrown x4 d os
      have r5 := fun d os => cell_regrown x5 d os
      have r6 := fun d os => cell_regrown x6 d os
      have s0 := fun d os => cell_regrown z0 d os
      have s1 := fun d os => cell_regrown z1 d os
      have s2 := fun d os => cell_regrown z2 d os
      have s3 := fun d os => cell_regrown z3 d os
      have s4 := fun d os => cell_regrown z4 d os
      have s5 := fun d os => cell_regrown z5 d os
      have s6 := fun d os => cell_regrown z6 d os
      cases t2 with
      | false =>
        obtain rfl : tq = false := HQk.out
        have HN := Lib.hid (HNo.out rfl)
        go_wp2_with fail
        rw [← hW1]
        clear hW1
        go_wp2_with fail
        (refine wp_region_quiet_below (by kernel_rfl) (by kernel_rfl) ?_; repeat (any_goals (first | go_big_quiet_step ((first | (go_at_call 52; with_reducible refine Calls.regrown_of (HCw.out _ _)) | (go_at_call 51; first | (with_reducible refine Calls.regrown_of (KL.out _ _)) | (with_reducible refine Calls.regrown_of (KR.out _ _))))) | quiet_step ((first | (go_at_call 52; with_reducible refine Calls.regrown_of (HCw.out _ _)) | (go_at_call 51; first | (with_reducible refine Calls.regrown_of (KL.out _ _)) | (with_reducible refine Calls.regrown_of (KR.out _ _))))))))
        (refine wpQuiet_nil ?_; intro _ hw'; obtain ⟨⟨dq, osq⟩, hw''⟩ := hw'; subst hw''; have HB2 : Hid (Below W0.heap.size W0 («Sort».grow (redrawn W1 dq) osq)) := Lib.hid (D1.out.trans ((below_regrown W1 dq osq).mono D1.out.size)))
        go_wp2_with fail
        go_roundw
        case rel => exact ⟨k + 1, by omega, by go_num, HB2.out, HN.out⟩
        case measure => first | (simp [intOf]; done) | (simp [intOf]; omega)
      | true =>
        cases t3 with
        | false =>
          obtain rfl : tq = false := HQk.out
          have HN := Lib.hid (HNo.out rfl)
          go_wp2_with fail
          rw [← hW1]
          clear hW1
          go_wp2_with fail
          (refine wp_region_quiet_below (by kernel_rfl) (by kernel_rfl) ?_; repeat (any_goals (first | go_big_quiet_step ((first | (go_at_call 52; with_reducible refine Calls.regrown_of (HCw.out _ _)) | (go_at_call 51; first | (with_reducible refine Calls.regrown_of (KL.out _ _)) | (with_reducible refine Calls.regrown_of (KR.out _ _))))) | quiet_step ((first | (go_at_call 52; with_reducible refine Calls.regrown_of (HCw.out _ _)) | (go_at_call 51; first | (with_reducible refine Calls.regrown_of (KL.out _ _)) | (with_reducible refine Calls.regrown_of (KR.out _ _))))))))
          (refine wpQuiet_nil ?_; intro _ hw'; obtain ⟨⟨dq, osq⟩, hw''⟩ := hw'; subst hw''; have HB2 : Hid (Below W0.heap.size W0 («Sort».grow (redrawn W1 dq) osq)) := Lib.hid (D1.out.trans ((below_regrown W1 dq osq).mono D1.out.size)))
          go_wp2_with fail
          go_roundw
          case rel => exact ⟨k + 1, by omega, by go_num, HB2.out, HN.out⟩
          case measure => first | (simp [intOf]; done) | (simp [intOf]; omega)
        | true =>
          cases t1 with
          | false =>
            obtain rfl : tq = false := HQk.out
            have HN := Lib.hid (HNo.out rfl)
            go_wp2_with fail
            rw [← hW1]
            clear hW1
            go_wp2_with fail
            (refine wp_region_quiet_below (by kernel_rfl) (by kernel_rfl) ?_; repeat (any_goals (first | go_big_quiet_step ((first | (go_at_call 52; with_reducible refine Calls.regrown_of (HCw.out _ _)) | (go_at_call 51; first | (with_reducible refine Calls.regrown_of (KL.out _ _)) | (with_reducible refine Calls.regrown_of (KR.out _ _))))) | quiet_step ((first | (go_at_call 52; with_reducible refine Calls.regrown_of (HCw.out _ _)) | (go_at_call 51; first | (with_reducible refine Calls.regrown_of (KL.out _ _)) | (with_reducible refine Calls.regrown_of (KR.out _ _))))))))
            (refine wpQuiet_nil ?_; intro _ hw'; obtain ⟨⟨dq, osq⟩, hw''⟩ := hw'; subst hw''; have HB2 : Hid (Below W0.heap.size W0 («Sort».grow (redrawn W1 dq) osq)) := Lib.hid (D1.out.trans ((below_regrown W1 dq osq).mono D1.out.size)))
            go_wp2_with fail
            go_roundw
            case rel => exact ⟨k + 1, by omega, by go_num, HB2.out, HN.out⟩
            case measure => first | (simp [intOf]; done) | (simp [intOf]; omega)
          | true =>
            obtain rfl : tq = true := HQk.out
            have HN := Lib.hid (HYes.out rfl)
            go_wp2_with fail
            rw [← hW1]
            clear hW1
            go_wp2_with fail
            (refine wp_region_quiet_below (by kernel_rfl) (by kernel_rfl) ?_; repeat (any_goals (first | go_big_quiet_step ((first | (go_at_call 52; with_reducible refine Calls.regrown_of (HCw.out _ _)) | (go_at_call 51; first | (with_reducible refine Calls.regrown_of (KL.out _ _)) | (with_reducible refine Calls.regrown_of (KR.out _ _))))) | quiet_step ((first | (go_at_call 52; with_reducible refine Calls.regrown_of (HCw.out _ _)) | (go_at_call 51; first | (with_reducible refine Calls.regrown_of (KL.out _ _)) | (with_reducible refine Calls.regrown_of (KR.out _ _))))))))
            (refine wpQuiet_nil ?_; intro _ hw'; obtain ⟨⟨dq, osq⟩, hw''⟩ := hw'; subst hw''; have HB2 : Hid (Below W0.heap.size W0 («Sort».grow (redrawn W1 dq) osq)) := Lib.hid (D1.out.trans ((below_regrown W1 dq osq).mono D1.out.size)))
            go_wp2_with fail
            go_ret
            exact ⟨ret_int HN.out.symm, HB0.out.trans (HB2.out.mono HB0.out.size)⟩
    · obtain rfl : k = l.length := by omega
      have HF := Lib.hid (cfAt_end HK.out)
      have k1 : ¬ (l.length : Int) < (l.length : Int) := by omega
      go_wp2_with fail
      go_ret
      exact ⟨ret_int HF.out.symm, HB0.out.trans (HBr.out.mono HB0.out.size)⟩
end Go.Proofs.Ytcoljbcjnggagaa
namespace Go.Proofs.Ytcoljbcjnggagaa
open Go.RowKit
open WM RM CM
set_option linter.unusedVariables false
set_option linter.unusedSimpArgs false

/-- How step ends. -/
def CspEnd (g : Bs) (l : List Rw) (u : List Md) (b0 : Nat) (w : World) (e : Ending) (w' : World) : Prop := ∃ v vs, e = .returned (.tuple #[v, .int .i64 (csC g l u)]) ∧ Below w.heap.size w w' ∧ ModFr w' b0 v (csL g l u) vs
/-- Where the loop stands. -/
structure CsAt (w2 : World) (b0 : Nat) (g : Bs) (l : List Rw) (u : List Md) (k : Nat) (v : Value) (wr : World) : Prop where
  hi : k ≤ u.length
  below : Below w2.heap.size w2 wr
  own : ∃ d vs, cstp g l u k = some d ∧ d.length ≤ 20 * k ∧ ModFr wr b0 v d vs ∧ ∀ q, v.ownBlock = some q → w2.heap.size ≤ q
theorem csAt_push {w2 wr w3 w5 : World} {b0 : Nat} {g : Bs} {l : List Rw} {u : List Md} {k : Nat} {v v2 : Value} {d : List Md} {vs : List Value} {o : Obj} (h : CsAt w2 b0 g l u k v wr) (hk : k < u.length) (hd : cstp g l u k = some d) (hdl : d.length ≤ 20 * k) (hm : ModFr wr b0 v d vs) (hq : ∀ q, v.ownBlock = some q → w2.heap.size ≤ q)
    (hz : cfirst g l u k < 0) (hb : Below wr.heap.size wr w3) {av : Value} (ha : wr.ownsRow b0 3 1 av u[k].a.length (valsL u[k].a))
    (ho : w5.ownsRow b0 55 2 v2 (d.length + 1) (modC d vs ++ [.int .u8 u[k].c.toNat, av])) (hg : (w3.alloc o).grownBy w5 v.ownBlock) (hv : v2.ownBlock = v.ownBlock ∨ v2.ownBlock = some (w3.alloc o).heap.size) : CsAt w2 b0 g l u (k + 1) v2 w5 := by
  have z0 := h.below.size
  have z1 := hb.size
  have hba : Below wr.heap.size wr (w3.alloc o) := hb.alloc z1 _
  have hB := h.below.trans (hba.mono z0)
  refine ⟨hk, hB.grown hg hB.size (fun j e => hq j e), d ++ [u[k]], vs ++ [av], ?_, by rw [List.length_append]; simp; omega, mod_push (hm.later hba) (l_own_later ha hba) ho hg, fun q e => ?_⟩
  · rw [← md_get hk]; exact cstp_succ hd (csuc_self hz)
  · rcases hv with h1 | h1
    · exact hq q (h1 ▸ e)
    · rw [h1] at e
      have := Option.some.inj e
      have : (w3.alloc o).heap.size = w3.heap.size + 1 := by simp
      omega
theorem csAt_join {w2 wr w3 w5 : World} {b0 : Nat} {g : Bs} {l : List Rw} {u : List Md} {k : Nat} {v v2 mv : Value} {d ms : List Md} {vs mvs : List Value} (h : CsAt w2 b0 g l u k v wr) (hk : k < u.length) (hd : cstp g l u k = some d) (hdl : d.length ≤ 20 * k) (hm : ModFr wr b0 v d vs) (hq : ∀ q, v.ownBlock = some q → w2.heap.size ≤ q)
    (hs : csuc g l u k = some ms) (hml : ms.length ≤ 20) (hb : Below wr.heap.size wr w3) (hb0 : b0 ≤ wr.heap.size) (hm2 : ModFr w3 wr.heap.size mv ms mvs)
    (ho : w5.ownsRow b0 55 2 v2 (d.length + ms.length) (modC d vs ++ modC ms mvs)) (hg : w3.grownBy w5 v.ownBlock) (hv : v2.ownBlock = v.ownBlock ∨ v2.ownBlock = some w3.heap.size) : CsAt w2 b0 g l u (k + 1) v2 w5 := by
  have z0 := h.below.size
  have z1 := hb.size
  have hB := h.below.trans (hb.mono z0)
  refine ⟨hk, hB.grown hg hB.size (fun j e => hq j e), d ++ ms, vs ++ mvs, cstp_succ hd hs, by rw [List.length_append]; omega, modFr_join hm hb hm2 hb0 ho hg hv, fun q e => ?_⟩
  rcases hv with h1 | h1
  · exact hq q (h1 ▸ e)
  · rw [h1] at e
    have := Option.some.inj e; omega
theorem csAt_nil {w2 wr w3 : World} {b0 : Nat} {g : Bs} {l : List Rw} {u : List Md} {k : Nat} {v : Value} {d : List Md} {vs : List Value} (h : CsAt w2 b0 g l u k v wr) (hk : k < u.length) (hd : cstp g l u k = some d) (hdl : d.length ≤ 20 * k) (hm : ModFr wr b0 v d vs) (hq : ∀ q, v.ownBlock = some q → w2.heap.size ≤ q)
    (hs : csuc g l u k = some []) (hb : Below wr.heap.size wr w3) : CsAt w2 b0 g l u (k + 1) v w3 :=
  ⟨hk, h.below.trans (hb.mono h.below.size), d, vs, by have := cstp_succ hd hs; rwa [List.append_nil] at this, by omega, hm.later hb, hq⟩
theorem cstp_bad {g : Bs} {l : List Rw} {u : List Md} {k : Nat} (hk : k < u.length) (hs : csuc g l u k = none) : cstp g l u u.length = none := by
  have := cstp_none hs (u.length - (k + 1))
  rwa [show k + 1 + (u.length - (k + 1)) = u.length by omega] at this
set_option maxRecDepth 100000 in
set_option maxHeartbeats 6400000 in
theorem cpstep_any (p : Option Addr) (cap : Nat) (l : List Rw) (hs : ∀ r ∈ l, RwSm r) (s : ByteArray) (h0 : cchk (lA s) l = 0)
    (wv : Value) (u : List Md) (us : List Value) (h1 : chk u = 0) (b0 : Nat) (w : World) (hb0 : b0 ≤ w.heap.size) (hv : Rws w (.slice p l.length cap) l) (hw : ModFr w b0 wv u us) :
    Calls Try.prog 43 #[.slice p l.length cap, .string s, wv] w (CspEnd (lA s) l u b0 w) := by
  obtain ⟨p2, cap2, rfl⟩ := fr_slice hw.row
  have HV := Lib.hid hv
  have HW := Lib.hid hw
  have hz := cchk_zero h0
  have HMn := Lib.hid (many_no hz.1)
  have hu := chk_zero.1 h1
  have KL := Lib.hid (fun w h => look_any (.slice p2 u.length cap2) u h1 s w h)
  have KT := Lib.hid (fun i hi g1 g2 w h1 h2 h3 h4 => pvfirst_any (.slice p l.length cap) l (by have := (many_no hz.1).1; omega) hs (fun r hr => ⟨(hz.2.1 r hr).1, ((many_no hz.1).2 r hr).1⟩) s p2 cap2 u hu.1 (fun m hm => List.all_eq_true.1 hu.2.1 m hm) i hi g1 g2 w h1 h2 h3 h4)
  have HS := Lib.hid hs
  have HRu := Lib.hid (fun r hr => (hz.2.1 r hr).1)
  have HFu := Lib.hid (fun m hm => List.all_eq_true.1 hu.2.1 m hm)
  have hul := hu.1
  have H0 := Lib.hid h0
  have H1 := Lib.hid h1
  obtain ⟨j0, hj, hy0, hy1, hy2⟩ := info_parts info_mod
  have HM : Hid (maxLen = 9223372036854775807) := Lib.hid rfl
  clear hv hw hz hu hs h0 h1
  generalize lA s = g at KL KT H0 ⊢
  go_enter Try.func43, Try.ntmps43
  go_wp2_with fail
  refine (KL.out _ HW.out.mods).mono ?_
  rintro e w1 ⟨g1, g2, rfl, hb, hr1, hr2, _, _⟩
  have B1 := Lib.hid hb
  have R1 := Lib.hid hr1
  have R2 := Lib.hid hr2
  clear hb hr1 hr2
  obtain ⟨W2, hW2⟩ : ∃ W, W = w1.alloc (.cells #[.slice p2 u.length cap2, .slice (some ⟨g1, 0, none⟩) u.length u.length, .slice (some ⟨g2, 0, none⟩) u.length u.length] 61) := ⟨_, rfl⟩
  have N2 : W2.heap[w1.heap.size]? = some (.cells #[.slice p2 u.length cap2, .slice (some ⟨g1, 0, none⟩) u.length u.length, .slice (some ⟨g2, 0, none⟩) u.length u.length] 61 (0, 0)) := by rw [hW2]; exact heap_alloc_new _ _
  have b2 : Below w1.heap.size w1 W2 := by rw [hW2]; exact (Below.refl _ _).alloc (Nat.le_refl _) _
  have B2 := Lib.hid (B1.out.trans (b2.mono B1.out.size))
  have hz2 := B2.out.size
  have R1' := Lib.hid (R1.out.later b2)
  have R2' := Lib.hid (R2.out.later b2)
  have q0 : W2.cell? ⟨w1.heap.size, 0, none⟩ = some (.slice p2 u.length cap2) := by simp [World.cell?, N2]
  have q1 : W2.cell? ⟨w1.heap.size, 1, none⟩ = some (.slice (some ⟨g1, 0, none⟩) u.length u.length) := by simp [World.cell?, N2]
  have q2 : W2.cell? ⟨w1.heap.size, 2, none⟩ = some (.slice (some ⟨g2, 0, none⟩) u.length u.length) := by simp [World.cell?, N2]
  have l0 := lt_of_block N2
  have S0 : Hid (CsAt W2 b0 g l u 0 (.slice none 0 0) W2) := Lib.hid ⟨Nat.zero_le _, Below.refl _ _, [], [], rfl, by simp, modFr_nil _ _, fun q e => by cases e⟩
  clear N2 b2
  go_wp2_with fail
  rw [← hW2]
  clear hW2
  go_loopw [9, 19] (fun v i wr => ∃ k : Nat, i = .int .i64 k ∧ CsAt W2 b0 g l u k v wr) (fun _ i _ => u.length - (intOf i).toNat)
  case atStart => exact ⟨0, rfl, S0.out⟩
  case round =>
    obtain ⟨k, rfl, hS⟩ := hrel
    have HSt := Lib.hid hS
    have hsz := hS.below.size
    have hkl := hS.hi
    obtain ⟨d, vs, hd, hdl, hm, hq⟩ := hS.own
    have HD := Lib.hid hd
    have HMF := Lib.hid hm
    have HQ := Lib.hid hq
    clear hS hd hm hq
    by_cases hlt : k < u.length
    · have k1 : (k : Int) < (u.length : Int) := by omega
      have HBw := Lib.hid (B2.out.trans (HSt.out.below.mono hz2))
      obtain ⟨gw, rfl⟩ : ∃ gw, p2 = some ⟨gw, 0, none⟩ := by
        rcases HW.out.row.2 with ⟨_, h⟩ | ⟨gw, c, cur, h, _⟩
        · omega
        · cases h; exact ⟨gw, rfl⟩
      have hi2 : k < us.length := by rw [HW.out.len]; exact hlt
      have hro := (HW.out.later HBw.out).row
      have lgw := (owns_lt hro gw rfl).2
      have e0 := hro.cellAt (k * 2) (by omega)
      have e1 := hro.cellAt (k * 2 + 1) (by omega)
      rw [(modC_get u us k hlt hi2).1] at e0
      rw [(modC_get u us k hlt hi2).2] at e1
      have HA := Lib.hid ((HW.out.later HBw.out).args k hlt hi2).own
      have HNq := Lib.hid (nilOr_of_owned HA.out)
      obtain ⟨q, cq, hqq⟩ := fr_slice HA.out
      have HI := Lib.hid (ints_of_owned HA.out)
      rw [hqq] at e1 HA HI HNq
      have hfi := HFu.out _ (List.getElem_mem hlt)
      have HFi := Lib.hid hfi
      have z0 := (HSt.out.below.cell (p := ⟨w1.heap.size, 0, none⟩) l0).trans q0
      have z1 := (HSt.out.below.cell (p := ⟨w1.heap.size, 1, none⟩) l0).trans q1
      have z2 := (HSt.out.below.cell (p := ⟨w1.heap.size, 2, none⟩) l0).trans q2
      have KT1 := Lib.hid (KT.out k hlt g1 g2 wr (HV.out.later HBw.out) (HW.out.later HBw.out).mods (R1'.out.later HSt.out.below) (R2'.out.later HSt.out.below))
      obtain ⟨z, hz⟩ : ∃ z, cfirst g l u k = z := ⟨_, rfl⟩
      have HZ := Lib.hid hz
      rw [hz] at KT1
      clear hro hqq hfi hz
      go_wp2_with fail
      refine KT1.out.mono ?_
      rintro e w3 ⟨rfl, hb⟩
      have B3 := Lib.hid hb
      have D3 := Lib.hid (HBw.out.trans (hb.mono HBw.out.size))
      have f0 := (hb.cell (p := ⟨gw, k * 2, none⟩) lgw).trans e0
      have f1 := (hb.cell (p := ⟨gw, k * 2 + 1, none⟩) lgw).trans e1
      have LB : Hid (gw < w3.heap.size) := Lib.hid (Nat.lt_of_lt_of_le lgw hb.size)
      have hz3 := hb.size
      clear hb
      by_cases hz0 : z < 0
      · have H1r := Lib.hid ((HMF.out.later B3.out).row.alloc (.cells #[.int .u8 u[k].c.toNat, .slice q u[k].a.length cq] 55))
        obtain ⟨OB, hOB⟩ : ∃ o : Obj, o = .cells #[.int .u8 u[k].c.toNat, .slice q u[k].a.length cq] 55 := ⟨_, rfl⟩
        have HT := Lib.hid (fun (v2 : Value) (w5 : World) ho hg hv => csAt_push (w3 := w3) (o := OB) HSt.out hlt HD.out hdl HMF.out HQ.out (by rw [HZ.out]; exact hz0) B3.out HA.out (v2 := v2) (w5 := w5) ho hg hv)
        rw [hOB] at HT
        clear hOB
        generalize u[k].c.toNat = cn at e0 f0 H1r HT
        generalize u[k].a.length = xl at e1 f1 H1r HT
        have hsz5 : b0 ≤ (w3.alloc (.cells #[.int .u8 cn, .slice q xl cq] 55)).heap.size := by
          have : (w3.alloc (.cells #[.int .u8 cn, .slice q xl cq] 55)).heap.size = w3.heap.size + 1 := by simp
          omega
        go_wp2_with (at_builtin; refine wpList_append_own_at _ rfl _ _ 23 rfl b0 55 j0 (.agg #[.int .u8 0, .slice none 0 0]) 2 32 Try.underlying23 hj hy0 hy1 hy2 rfl (by decide) u9 d.length (modC d vs) rfl H1r.out ⟨w3.heap.size, 0, none⟩ 1 1 [.int .u8 cn, .slice q xl cq] rfl rfl (two_new _ _ _ _) (by simp [Value.oneCell']) (by rw [HM.out]; omega) (by omega) hsz5 ?_; intro v2 w5 ho2 hg2 hn2 hb2)
        have HT2 := Lib.hid (HT.out v2 w5 ho2 hg2 hb2)
        clear ho2 hg2 hn2 hb2
        go_wp2_with fail
        go_roundw
        case rel => exact ⟨k + 1, by go_num, HT2.out⟩
        case measure => first | (simp [intOf]; done) | (simp [intOf]; omega)
      · obtain ⟨kk, hkk⟩ : ∃ kk : Nat, z = (kk : Int) := ⟨z.toNat, by omega⟩
        subst hkk
        obtain ⟨hkl2, hfitc⟩ := fstF_fit HZ.out
        have hfit : fitB l[kk] u[k] = true := by have := cfit_fit hfitc; rwa [md_get hlt] at this
        have HSu : Hid (csuc g l u k = made l[kk] u[k]) := Lib.hid (by rw [csuc_made HZ.out hkl2, md_get hlt])
        obtain ⟨b3, off3, cap3, gg, gc, o, oc, hp3, lb3, hat⟩ := (HV.out.later D3.out).at hkl2
        obtain rfl : p = some ⟨b3, off3, none⟩ := by cases hp3; rfl
        have k7 : (kk : Int) < (l.length : Int) := by omega
        have k8 : ¬ ((kk : Int) < 0) := by omega
        have LB3 : Hid (b3 < w3.heap.size) := Lib.hid lb3
        have HRk := Lib.hid (HRu.out _ (List.getElem_mem hkl2))
        have HSm := Lib.hid (HS.out _ (List.getElem_mem hkl2))
        have ho20 := (HMn.out.2 _ (List.getElem_mem hkl2)).2
        have HOs := Lib.hid hat.out
        have HI3 := Lib.hid (HI.out.later B3.out)
        have HFt := Lib.hid hfit
        obtain ⟨x0, x1, x2, x3, x4, x5, x6, _, _⟩ := hat
        have KM0 : Hid (∀ w', Below w3.heap.size w3 w' → Calls Try.prog 64 #[.agg #[.int .u8 l[kk].c.toNat, .int .i64 l[kk].ar, .int .u8 l[kk].l.toNat, .int .u8 l[kk].r.toNat, .slice gg l[kk].gs.length gc, .int .i64 l[kk].wt, .slice o l[kk].out.length oc], .agg #[.int .u8 u[k].c.toNat, .slice q u[k].a.length cq]] w' (ScEnd l[kk] u[k] w')) :=
          Lib.hid (fun w' hb => psucc_any l[kk] u[k] gg gc o oc q cq HRk.out HSm.out ho20 HFi.out HFt.out HNq.out w' (HOs.out.later hb) (HI3.out.later hb))
        clear hp3 hfit hfitc
        cases hmd : made l[kk] u[k] with
        | none =>
          have KMd : Hid (∀ w', Below w3.heap.size w3 w' → Calls Try.prog 64 #[.agg #[.int .u8 l[kk].c.toNat, .int .i64 l[kk].ar, .int .u8 l[kk].l.toNat, .int .u8 l[kk].r.toNat, .slice gg l[kk].gs.length gc, .int .i64 l[kk].wt, .slice o l[kk].out.length oc], .agg #[.int .u8 u[k].c.toNat, .slice q u[k].a.length cq]] w' fun e w'' => (∃ p n c, e = .returned (.tuple #[.slice p n c, .int .i64 16])) ∧ Below w'.heap.size w' w'') :=
            Lib.hid (fun w' hb => (KM0.out w' hb).mono (by
              rintro e w'' ⟨hb2, ⟨_, h⟩ | ⟨d', v', vs', hy, _⟩⟩
              · exact ⟨h, hb2⟩
              · rw [hmd] at hy; simp at hy))
          have HE : Hid (∀ w', Below w.heap.size w w' → CspEnd g l u b0 w (.returned (.tuple #[.slice none 0 0, .int .i64 16])) w') := Lib.hid (fun w' hb => by
            have h5 := cs_none H0.out H1.out (cstp_bad hlt (HSu.out.trans hmd))
            exact ⟨_, [], by rw [h5.1], hb, by rw [h5.2]; exact modFr_nil _ _⟩)
          clear hmd
          go_wp2_with fail
          go_region_held3 (fun w' => (∀ o, w'.cell? ⟨b3, o, none⟩ = w3.cell? ⟨b3, o, none⟩) ∧ (∀ o, w'.cell? ⟨gw, o, none⟩ = w3.cell? ⟨gw, o, none⟩)) (exact st_keep2 LB3.out LB.out ((by with_reducible (repeat (first | exact Below.refl _ _ | refine st_chain ?_ (Hid.out (by assumption)) | refine st_chain ?_ ((Below.refl _ _).alloc (Nat.le_refl _) _) | refine st_chain ?_ (Below.refl _ _).drew))))) (first
            | (go_at_call 64; with_reducible refine (KMd.out _ ((by with_reducible (repeat (first | exact Below.refl _ _ | refine st_chain ?_ (Hid.out (by assumption)) | refine st_chain ?_ ((Below.refl _ _).alloc (Nat.le_refl _) _) | refine st_chain ?_ (Below.refl _ _).drew))))).mono ?_; intro e w' hend; obtain ⟨⟨pq, nq, cq', he⟩, hb⟩ := hend; subst he; replace hb := Lib.hid hb))
          have hb3 : Below w3.heap.size w3 w' := (by with_reducible (repeat (first | exact Below.refl _ _ | refine st_chain ?_ (Hid.out (by assumption)) | refine st_chain ?_ ((Below.refl _ _).alloc (Nat.le_refl _) _) | refine st_chain ?_ (Below.refl _ _).drew)))
          have HF := Lib.hid (HE.out _ (D3.out.trans (hb3.mono D3.out.size)))
          clear hb3
          go_wp2_with fail
          go_ret2
          exact HF.out
        | some ms =>
          have hml : ms.length ≤ 20 := by have := made_len hmd; omega
          have KMd : Hid (∀ w', Below w3.heap.size w3 w' → Calls Try.prog 64 #[.agg #[.int .u8 l[kk].c.toNat, .int .i64 l[kk].ar, .int .u8 l[kk].l.toNat, .int .u8 l[kk].r.toNat, .slice gg l[kk].gs.length gc, .int .i64 l[kk].wt, .slice o l[kk].out.length oc], .agg #[.int .u8 u[k].c.toNat, .slice q u[k].a.length cq]] w' fun e w'' => ∃ v' vs', e = .returned (.tuple #[v', .int .i64 0]) ∧ Below w'.heap.size w' w'' ∧ ModFr w'' w3.heap.size v' ms vs') :=
            Lib.hid (fun w' hb => (KM0.out w' hb).mono (by
              rintro e w'' ⟨hb2, ⟨hno, _⟩ | ⟨d', v', vs', hy, rfl, hm2⟩⟩
              · rw [hmd] at hno; simp at hno
              · rw [hmd] at hy
                obtain rfl := Option.some.inj hy
                exact ⟨v', vs', rfl, hb2, hm2.mono hb.size⟩))
          have HSu2 : Hid (csuc g l u k = some ms) := Lib.hid (HSu.out.trans hmd)
          clear hmd
          go_wp2_with fail
          go_region_held3 (fun w' => (∀ o, w'.cell? ⟨b3, o, none⟩ = w3.cell? ⟨b3, o, none⟩) ∧ (∀ o, w'.cell? ⟨gw, o, none⟩ = w3.cell? ⟨gw, o, none⟩)) (exact st_keep2 LB3.out LB.out ((by with_reducible (repeat (first | exact Below.refl _ _ | refine st_chain ?_ (Hid.out (by assumption)) | refine st_chain ?_ ((Below.refl _ _).alloc (Nat.le_refl _) _) | refine st_chain ?_ (Below.refl _ _).drew))))) (first
            | (go_at_call 64; with_reducible refine (KMd.out _ ((by with_reducible (repeat (first | exact Below.refl _ _ | refine st_chain ?_ (Hid.out (by assumption)) | refine st_chain ?_ ((Below.refl _ _).alloc (Nat.le_refl _) _) | refine st_chain ?_ (Below.refl _ _).drew))))).mono ?_; intro e w' hend; obtain ⟨mv, mvs, he, hb, hmm⟩ := hend; subst he; replace hb := Lib.hid hb; replace hmm := Lib.hid hmm))
          have hb3 : Below w3.heap.size w3 w' := (by with_reducible (repeat (first | exact Below.refl _ _ | refine st_chain ?_ (Hid.out (by assumption)) | refine st_chain ?_ ((Below.refl _ _).alloc (Nat.le_refl _) _) | refine st_chain ?_ (Below.refl _ _).drew)))
          have E3 := Lib.hid (B3.out.trans (hb3.mono B3.out.size))
          have M2 := Lib.hid (hmm.out.mono B3.out.size)
          clear hb hmm hb3
          have H1r := Lib.hid ((HMF.out.later E3.out).row)
          rcases j_slice M2.out with ⟨rfl, hb0'⟩ | ⟨ad, c, rfl⟩
          · have HT := Lib.hid (csAt_nil HSt.out hlt HD.out hdl HMF.out HQ.out (by rw [HSu2.out, hb0']) E3.out)
            clear hb0'
            go_wp2_with (at_builtin; refine j_append_nil rfl _ _ 23 rfl b0 55 j0 2 Try.underlying23 hj u9 d.length (modC d vs) rfl H1r.out rfl ?_)
            go_wp2_with fail
            go_roundw
            case rel => exact ⟨k + 1, by go_num, HT.out⟩
            case measure => first | (simp [intOf]; done) | (simp [intOf]; omega)
          · have H3 := Lib.hid (j_cells M2.out).2
            have H4 := Lib.hid (j_one M2.out)
            have hzz := E3.out.size
            have HT := Lib.hid (fun (v2 : Value) (w5 : World) ho hg hv => csAt_join (w3 := w') HSt.out hlt HD.out hdl HMF.out HQ.out HSu2.out hml E3.out (by omega) M2.out (v2 := v2) (w5 := w5) ho hg hv)
            go_wp2_with (at_builtin; refine wpList_append_own_at _ rfl _ _ 23 rfl b0 55 j0 (.agg #[.int .u8 0, .slice none 0 0]) 2 32 Try.underlying23 hj hy0 hy1 hy2 rfl (by decide) u9 d.length (modC d vs) rfl H1r.out ad (ms).length c (modC (ms) mvs) rfl (modC_length _ _ M2.out.len.symm) H3.out H4.out (by rw [HM.out]; omega) (by omega) (by omega) ?_; intro v2 w5 ho2 hg2 hn2 hb2)
            have HT2 := Lib.hid (HT.out v2 w5 ho2 hg2 hb2)
            clear ho2 hg2 hn2 hb2
            go_wp2_with fail
            go_roundw
            case rel => exact ⟨k + 1, by go_num, HT2.out⟩
            case measure => first | (simp [intOf]; done) | (simp [intOf]; omega)
    · obtain rfl : k = u.length := by omega
      have k1 : ¬ (u.length : Int) < (u.length : Int) := by omega
      have HBw := Lib.hid (B2.out.trans (HSt.out.below.mono hz2))
      obtain ⟨pu, cu, rfl⟩ := own_sl HMF.out.row
      by_cases h4 : 2000 < d.length
      · have c4 : (2000 : Int) < (d.length : Int) := by omega
        have HE : Hid (CspEnd g l u b0 w (.returned (.tuple #[.slice none 0 0, .int .i64 4])) wr) := Lib.hid (by
          have h5 := cs_many H0.out H1.out HD.out h4
          exact ⟨_, [], by rw [h5.1], HBw.out, by rw [h5.2]; exact modFr_nil _ _⟩)
        go_wp2_with fail
        go_ret2
        exact HE.out
      · have c4 : ¬ (2000 : Int) < (d.length : Int) := by omega
        have HE : Hid (CspEnd g l u b0 w (.returned (.tuple #[.slice pu d.length cu, .int .i64 0])) wr) := Lib.hid (by
          have h5 := cs_ok H0.out H1.out HD.out h4
          exact ⟨_, vs, by rw [h5.1], HBw.out, by rw [h5.2]; exact HMF.out⟩)
        go_wp2_with fail
        go_ret2
        exact HE.out
end Go.Proofs.Ytcoljbcjnggagaa
