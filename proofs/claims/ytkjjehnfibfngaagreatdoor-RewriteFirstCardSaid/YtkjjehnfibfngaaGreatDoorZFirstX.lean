/-
  The walk of RewriteFirst.
-/
import Derived.Test.YtkjjehnfibfngaaGreatDoorZRewriteStillProofM12
import Derived.Test.YtkjjehnfibfngaaGreatDoorZFirstM
import Derived.Test.YtkjjehnfibfngaaGreatDoorZRewriteStillProofM9
import Derived.Deep.CutRange
import Derived.Test.YtkjjehnfibfngaaGreatDoorZRewriteStillProofM3
namespace Go.Proofs.YtkjjehnfibfngaaGreatDoor
open Go.RowKit
open WM RM
set_option linter.unusedVariables false
set_option linter.unusedSimpArgs false

theorem cells_new (w : World) (cs : Array Value) (t : TypeId) : ∀ j u, cs.toList[j]? = some u → (w.alloc (.cells cs t)).cell? ((⟨w.heap.size, 0, none⟩ : Addr).add j) = some u := by
  intro j u h
  have e := heap_alloc_new w (.cells cs t)
  have ea : (⟨w.heap.size, 0, none⟩ : Addr).add j = ⟨w.heap.size, j, none⟩ := by
    unfold Addr.add
    split
    · rename_i h0
      have : j = 0 := by simpa using h0
      rw [this]
    · rw [Nat.zero_add]
  rw [ea]
  simp only [World.cell?, e]
  rw [Array.getElem?_toList] at h
  simpa using h
theorem cells_kept {w w1 : World} {cs : Array Value} {t : TypeId} {b : Nat} {row : Option Nat} (hb : w.heap[b]? = some (.cells cs t (0, 0))) (hg : w.grownBy w1 row) (hr : some b ≠ row) : ∀ j u, cs.toList[j]? = some u → w1.cell? ((⟨b, 0, none⟩ : Addr).add j) = some u := by
  intro j u h
  have e := (hg.block b (lt_of_block hb) hr).trans hb
  have ea : (⟨b, 0, none⟩ : Addr).add j = ⟨b, j, none⟩ := by
    unfold Addr.add
    split
    · rename_i h0
      have : j = 0 := by simpa using h0
      rw [this]
    · rw [Nat.zero_add]
  rw [ea]
  simp only [World.cell?, e]
  rw [Array.getElem?_toList] at h
  simpa using h
theorem b_32 {n : Nat} (h : n ≤ 2000 + 30) : (n + 1) * 32 ≤ 140737488355328 := by omega
theorem b_mx {n : Nat} (h : n ≤ 2000 + 30) : n + 1 ≤ maxLen := by
  have : maxLen = 9223372036854775807 := rfl
  omega
theorem b_me {i n : Nat} (h : i < n) : n - (i + 1) < n - i := by omega
theorem b_mi {j n : Nat} (h : j < n) : n - (intOf (.int .i64 ((j : Int) + 1))).toNat < n - (intOf (.int .i64 (j : Int))).toNat := by
  simp [intOf]; omega
theorem nilOr_p {p : Option Addr} {n c : Nat} (h : p = none → n = 0 ∧ c = 0) : NilOr (.slice p n c) := by
  cases p with
  | none => obtain ⟨rfl, rfl⟩ := h rfl; exact .inl rfl
  | some ad => exact .inr ⟨_, _, _, rfl⟩
theorem heap_drew (w : World) (b : Nat) : w.drew.heap[b]? = w.heap[b]? := rfl

set_option maxRecDepth 100000 in
set_option maxHeartbeats 6400000 in
theorem rfirst_walk (v v1 gv ov : Value) (l : List Rw) (hl : l.length ≤ 9223372036854775807) (hsz : l.length * 80 ≤ 140737488351232) (n0 : NilOr v) (a : List Md) (ha : a.length ≤ 9223372036854775807) (haa : ∀ m ∈ a, m.a.length ≤ 9223372036854775807) (r : Rw)
    (w : World) (h1 : Rws w v l) (h2 : Mods w v1 a) (h3 : Fms w gv r.gs) (h4 : Shs w ov r.out) (n1 : NilOr v1) (he : Env w) :
    Calls Tryz.prog 5 #[v, v1, .agg #[.int .u8 r.c.toNat, .int .i64 r.ar, .int .u8 r.l.toNat, .int .u8 r.r.toNat, gv, .int .i64 r.wt, ov]] w fun e w' => e = .returned (.bool true) ∧ Below w.heap.size w w' := by
  have KA := Lib.hid alive_any
  have K1 := Lib.hid (fun vv w h h' => lvalid_any vv v1 (l ++ [r]) a (by rw [List.length_append, List.length_singleton]; omega) ha haa w h h')
  obtain ⟨p, cap, rfl⟩ := h1.slice
  obtain ⟨pa, ca, rfl⟩ := h2.slice
  obtain ⟨pg, cg, rfl⟩ := h3.slice
  obtain ⟨po, co, rfl⟩ := h4.slice
  obtain ⟨W0, hW0⟩ : ∃ W, W = w.alloc (.cells #[.int .u8 r.c.toNat, .int .i64 r.ar, .int .u8 r.l.toNat, .int .u8 r.r.toNat, .slice pg r.gs.length cg, .int .i64 r.wt, .slice po r.out.length co] 38) := ⟨_, rfl⟩
  have N1 : W0.heap[w.heap.size]? = some (.cells #[.int .u8 r.c.toNat, .int .i64 r.ar, .int .u8 r.l.toNat, .int .u8 r.r.toNat, .slice pg r.gs.length cg, .int .i64 r.wt, .slice po r.out.length co] 38 (0, 0)) := by rw [hW0]; exact heap_alloc_new _ _
  have b0 : Below w.heap.size w W0 := by rw [hW0]; exact (Below.refl _ _).alloc (Nat.le_refl _) _
  have HB := Lib.hid b0
  have HE := Lib.hid (he.later b0)
  have H1 := Lib.hid (h1.later b0)
  have H2 := Lib.hid (h2.later b0)
  have H3 := Lib.hid (h3.later b0)
  have H4 := Lib.hid (h4.later b0)
  have q0 : W0.cell? ⟨w.heap.size, 0, none⟩ = some (.int .u8 r.c.toNat) := by simp [World.cell?, N1]
  have q1 : W0.cell? ⟨w.heap.size, 1, none⟩ = some (.int .i64 r.ar) := by simp [World.cell?, N1]
  have q2 : W0.cell? ⟨w.heap.size, 2, none⟩ = some (.int .u8 r.l.toNat) := by simp [World.cell?, N1]
  have q3 : W0.cell? ⟨w.heap.size, 3, none⟩ = some (.int .u8 r.r.toNat) := by simp [World.cell?, N1]
  have q4 : W0.cell? ⟨w.heap.size, 4, none⟩ = some (.slice pg r.gs.length cg) := by simp [World.cell?, N1]
  have q5 : W0.cell? ⟨w.heap.size, 5, none⟩ = some (.int .i64 r.wt) := by simp [World.cell?, N1]
  have q6 : W0.cell? ⟨w.heap.size, 6, none⟩ = some (.slice po r.out.length co) := by simp [World.cell?, N1]
  have l0 := lt_of_block N1
  obtain ⟨j0, hj, hy0, hy1, hy2⟩ := info_parts info_rw
  have HM : Hid (maxLen = 9223372036854775807) := Lib.hid rfl
  have hs0 : W0.heap.size = w.heap.size + 1 := by rw [hW0]; simp
  have HS0 := Lib.hid hs0
  have E1 : Hid (Below W0.heap.size W0 ((w.alloc (.cells #[.int .u8 r.c.toNat, .int .i64 r.ar, .int .u8 r.l.toNat, .int .u8 r.r.toNat, .slice pg r.gs.length cg, .int .i64 r.wt, .slice po r.out.length co] 38)).alloc (.cells #[] 38)).drew) := Lib.hid (by rw [← hW0]; exact ((Below.refl _ _).alloc (Nat.le_refl _) _).drew)
  have E2 : Hid (Below W0.heap.size W0 (((w.alloc (.cells #[.int .u8 r.c.toNat, .int .i64 r.ar, .int .u8 r.l.toNat, .int .u8 r.r.toNat, .slice pg r.gs.length cg, .int .i64 r.wt, .slice po r.out.length co] 38)).alloc (.cells #[] 38)).alloc (.cells #[.int .u8 r.c.toNat, .int .i64 r.ar, .int .u8 r.l.toNat, .int .u8 r.r.toNat, .slice pg r.gs.length cg, .int .i64 r.wt, .slice po r.out.length co] 38)).drew) := Lib.hid (by rw [← hW0]; exact (((Below.refl _ _).alloc (Nat.le_refl _) _).alloc (by simp) _).drew)
  have E3 : Hid (Below W0.heap.size W0 (((w.alloc (.cells #[.int .u8 r.c.toNat, .int .i64 r.ar, .int .u8 r.l.toNat, .int .u8 r.r.toNat, .slice pg r.gs.length cg, .int .i64 r.wt, .slice po r.out.length co] 38)).alloc (.cells #[.int .u8 r.c.toNat, .int .i64 r.ar, .int .u8 r.l.toNat, .int .u8 r.r.toNat, .slice pg r.gs.length cg, .int .i64 r.wt, .slice po r.out.length co] 38)).alloc (.cells #[] 38)).drew) := Lib.hid (by rw [← hW0]; exact (((Below.refl _ _).alloc (Nat.le_refl _) _).alloc (by simp) _).drew)
  have O1 : Hid (((w.alloc (.cells #[.int .u8 r.c.toNat, .int .i64 r.ar, .int .u8 r.l.toNat, .int .u8 r.r.toNat, .slice pg r.gs.length cg, .int .i64 r.wt, .slice po r.out.length co] 38)).alloc (.cells #[] 38)).drew.ownsRow (w.heap.size + 1) 38 7 (.slice (some ⟨w.heap.size + 1, 0, none⟩) 0 0) 0 []) := Lib.hid (by
    have h := World.ownsRow_lit (base := w.heap.size + 1) (e := 38) (size := 7) W0 #[] 0 (by omega) (by rw [HM.out]; omega) rfl
    rw [hs0] at h
    rw [← hW0]; exact l_own_later h ((Below.refl _ _).drew))
  have O2 : Hid ((((w.alloc (.cells #[.int .u8 r.c.toNat, .int .i64 r.ar, .int .u8 r.l.toNat, .int .u8 r.r.toNat, .slice pg r.gs.length cg, .int .i64 r.wt, .slice po r.out.length co] 38)).alloc (.cells #[] 38)).alloc (.cells #[.int .u8 r.c.toNat, .int .i64 r.ar, .int .u8 r.l.toNat, .int .u8 r.r.toNat, .slice pg r.gs.length cg, .int .i64 r.wt, .slice po r.out.length co] 38)).drew.ownsRow (w.heap.size + 1) 38 7 (.slice (some ⟨w.heap.size + 1, 0, none⟩) 0 0) 0 []) := Lib.hid (by
    have h := World.ownsRow_lit (base := w.heap.size + 1) (e := 38) (size := 7) W0 #[] 0 (by omega) (by rw [HM.out]; omega) rfl
    rw [hs0] at h
    rw [← hW0]; exact l_own_later (h.alloc _) ((Below.refl _ _).drew))
  have O3 : Hid ((((w.alloc (.cells #[.int .u8 r.c.toNat, .int .i64 r.ar, .int .u8 r.l.toNat, .int .u8 r.r.toNat, .slice pg r.gs.length cg, .int .i64 r.wt, .slice po r.out.length co] 38)).alloc (.cells #[.int .u8 r.c.toNat, .int .i64 r.ar, .int .u8 r.l.toNat, .int .u8 r.r.toNat, .slice pg r.gs.length cg, .int .i64 r.wt, .slice po r.out.length co] 38)).alloc (.cells #[] 38)).drew.ownsRow (w.heap.size + 1) 38 7 (.slice (some ⟨w.heap.size + 1 + 1, 0, none⟩) 0 0) 0 []) := Lib.hid (by
    have h := World.ownsRow_lit (base := w.heap.size + 1) (e := 38) (size := 7) (W0.alloc (.cells #[.int .u8 r.c.toNat, .int .i64 r.ar, .int .u8 r.l.toNat, .int .u8 r.r.toNat, .slice pg r.gs.length cg, .int .i64 r.wt, .slice po r.out.length co] 38)) #[] 0 (by simp; omega) (by rw [HM.out]; omega) rfl
    rw [World.size_alloc, hs0] at h
    rw [← hW0]; exact l_own_later h ((Below.refl _ _).drew))
  have L2 : Hid (∀ w1, (((w.alloc (.cells #[.int .u8 r.c.toNat, .int .i64 r.ar, .int .u8 r.l.toNat, .int .u8 r.r.toNat, .slice pg r.gs.length cg, .int .i64 r.wt, .slice po r.out.length co] 38)).alloc (.cells #[] 38)).alloc (.cells #[.int .u8 r.c.toNat, .int .i64 r.ar, .int .u8 r.l.toNat, .int .u8 r.r.toNat, .slice pg r.gs.length cg, .int .i64 r.wt, .slice po r.out.length co] 38)).drew.grownBy w1 (some (w.heap.size + 1)) → ∀ j u, [.int .u8 r.c.toNat, .int .i64 r.ar, .int .u8 r.l.toNat, .int .u8 r.r.toNat, .slice pg r.gs.length cg, .int .i64 r.wt, .slice po r.out.length co][j]? = some u → w1.cell? ((⟨w.heap.size + 1 + 1, 0, none⟩ : Addr).add j) = some u) := Lib.hid (fun w1 hg => by
    refine cells_kept (cs := #[.int .u8 r.c.toNat, .int .i64 r.ar, .int .u8 r.l.toNat, .int .u8 r.r.toNat, .slice pg r.gs.length cg, .int .i64 r.wt, .slice po r.out.length co]) (t := 38) ?_ hg (by simp)
    rw [heap_drew, ← hW0]
    have h := heap_alloc_new (W0.alloc (.cells #[] 38)) (.cells #[.int .u8 r.c.toNat, .int .i64 r.ar, .int .u8 r.l.toNat, .int .u8 r.r.toNat, .slice pg r.gs.length cg, .int .i64 r.wt, .slice po r.out.length co] 38)
    rw [World.size_alloc, hs0] at h; exact h)
  have L3 : Hid (∀ w1, (((w.alloc (.cells #[.int .u8 r.c.toNat, .int .i64 r.ar, .int .u8 r.l.toNat, .int .u8 r.r.toNat, .slice pg r.gs.length cg, .int .i64 r.wt, .slice po r.out.length co] 38)).alloc (.cells #[.int .u8 r.c.toNat, .int .i64 r.ar, .int .u8 r.l.toNat, .int .u8 r.r.toNat, .slice pg r.gs.length cg, .int .i64 r.wt, .slice po r.out.length co] 38)).alloc (.cells #[] 38)).drew.grownBy w1 (some (w.heap.size + 1 + 1)) → ∀ j u, [.int .u8 r.c.toNat, .int .i64 r.ar, .int .u8 r.l.toNat, .int .u8 r.r.toNat, .slice pg r.gs.length cg, .int .i64 r.wt, .slice po r.out.length co][j]? = some u → w1.cell? ((⟨w.heap.size + 1, 0, none⟩ : Addr).add j) = some u) := Lib.hid (fun w1 hg => by
    refine cells_kept (cs := #[.int .u8 r.c.toNat, .int .i64 r.ar, .int .u8 r.l.toNat, .int .u8 r.r.toNat, .slice pg r.gs.length cg, .int .i64 r.wt, .slice po r.out.length co]) (t := 38) ?_ hg (by simp)
    rw [heap_drew, ← hW0]
    have h := heap_alloc_old (heap_alloc_new W0 (.cells #[.int .u8 r.c.toNat, .int .i64 r.ar, .int .u8 r.l.toNat, .int .u8 r.r.toNat, .slice pg r.gs.length cg, .int .i64 r.wt, .slice po r.out.length co] 38)) (.cells #[] 38)
    rw [hs0] at h; exact h)
  have C2 := Lib.hid (L2.out _ (World.grownBy.refl _ _))
  have C3 := Lib.hid (L3.out _ (World.grownBy.refl _ _))
  have HW := Lib.hid hW0
  clear N1 b0 h1 h2 h3 h4 he hl hs0 hW0
  go_enter Tryz.func5, Tryz.ntmps5
  go_upto_region 1 with fail
  go_cut [7] from 23 to 28 (fun v wx => ∃ q2 c2, v = .slice q2 (l.length + 1) c2 ∧ Rws wx v (l ++ [r]) ∧ Below W0.heap.size W0 wx)
  case first =>
    rcases n0 with hv | ⟨ad, n, c, hv⟩
    · obtain ⟨rfl, e0, rfl⟩ : p = none ∧ l.length = 0 ∧ cap = 0 := by simp only [Value.slice.injEq] at hv; exact hv
      obtain rfl : l = [] := List.length_eq_zero_iff.1 e0
      clear hv e0
      go_region_law? (first
        | (refine step_append_nil _ rfl (.tmp 23) (.tmp 24) 22 rfl (w.heap.size + 1) 38 j0 7 Tryz.underlying22 hj _ 0 [] rfl (by first | exact O1.out | exact O2.out | exact O3.out) rfl ?_)
        | (refine step_append_own _ rfl (.tmp 25) (.tmp 27) 22 rfl (w.heap.size + 1) 38 j0 (.agg #[.int .u8 0, .int .i64 0, .int .u8 0, .int .u8 0, .slice none 0 0, .int .i64 0, .slice none 0 0]) 7 80 Tryz.underlying22 hj hy0 hy1 hy2 rfl (by decide) _ 0 [] rfl (by first | exact O1.out | exact O2.out | exact O3.out | exact O1.out.alloc _) _ 1 1 [.int .u8 r.c.toNat, .int .i64 r.ar, .int .u8 r.l.toNat, .int .u8 r.r.toNat, .slice pg r.gs.length cg, .int .i64 r.wt, .slice po r.out.length co] rfl rfl (by first | exact C2.out | exact C3.out | exact cells_new _ _ _) (by simp [Value.oneCell']) (by rw [HM.out]; omega) (by omega) (by first | (rw [← HS0.out]; exact E1.out.size) | (rw [← HS0.out]; exact E2.out.size) | (rw [← HS0.out]; exact E3.out.size) | (rw [← HS0.out]; exact BW.out.size) | (rw [← HS0.out, World.size_alloc]; exact Nat.le_succ_of_le BW.out.size)) ?_
           intro v2 w2 ho2 hg2 hn2 hb2))
      all_goals
        have B2 : Hid (Below W0.heap.size W0 w2) := Lib.hid (by
          first
            | exact E1.out.grown hg2 E1.out.size (fun j e => by rw [HS0.out]; exact (owns_lt O1.out j e).1)
            | exact E2.out.grown hg2 E2.out.size (fun j e => by rw [HS0.out]; exact (owns_lt O2.out j e).1)
            | exact E3.out.grown hg2 E3.out.size (fun j e => by rw [HS0.out]; exact (owns_lt O3.out j e).1)
            | exact (E1.out.alloc E1.out.size _).grown hg2 (Nat.le_succ_of_le E1.out.size) (fun j e => by rw [HS0.out]; exact (owns_lt O1.out j e).1))
        have R2 : Hid (Rws w2 v2 ([] ++ [r])) := Lib.hid (by
          have ho3 := ho2
          exact rws_row (l := [] ++ [r]) (by rw [List.length_append]; exact ho3) (RowR.app (RowR.nil _) (RowR.one (H3.out.later B2.out) (H4.out.later B2.out))))
        obtain ⟨p2, c2, rfl⟩ := R2.out.slice
        clear ho2 hg2 hn2 hb2
        go_wp2_with fail
        go_meet
        exact ⟨_, _, by first | rfl | (rw [List.length_append]; rfl), R2.out, B2.out⟩
    · obtain ⟨rfl, -, -⟩ : p = some ad ∧ l.length = n ∧ cap = c := by simp only [Value.slice.injEq] at hv; exact hv
      clear hv
      obtain ⟨news, hn, hr⟩ := rws_news H1.out
      have HN := Lib.hid hn
      have HR := Lib.hid hr
      clear hn hr
      go_region_law? (first
        | (refine step_append_own _ rfl (.tmp 23) (.tmp 24) 22 rfl (w.heap.size + 1) 38 j0 (.agg #[.int .u8 0, .int .i64 0, .int .u8 0, .int .u8 0, .slice none 0 0, .int .i64 0, .slice none 0 0]) 7 80 Tryz.underlying22 hj hy0 hy1 hy2 rfl (by decide) _ 0 [] rfl (by first | exact O1.out | exact O2.out | exact O3.out) ad l.length cap news rfl HN.out.len (HR.out _ (by first | exact E1.out | exact E2.out | exact E3.out)) HN.out.ones (by rw [HM.out]; omega) (by omega) (by first | (rw [← HS0.out]; exact E1.out.size) | (rw [← HS0.out]; exact E2.out.size) | (rw [← HS0.out]; exact E3.out.size) | (rw [← HS0.out]; exact BW.out.size) | (rw [← HS0.out, World.size_alloc]; exact Nat.le_succ_of_le BW.out.size)) ?_
           intro v1 w1 ho1 hg1 hn1 hb1
           simp only [Nat.zero_add, List.nil_append] at ho1
           have P1 := Lib.hid ho1
           first | (have PL := Lib.hid (L2.out w1 hg1)) | (have PL := Lib.hid (L3.out w1 hg1)) | skip
           have BW : Hid (Below W0.heap.size W0 w1) := Lib.hid (by first | exact E1.out.grown hg1 E1.out.size (fun j e => by rw [HS0.out]; exact (owns_lt O1.out j e).1) | exact E2.out.grown hg1 E2.out.size (fun j e => by rw [HS0.out]; exact (owns_lt O2.out j e).1) | exact E3.out.grown hg1 E3.out.size (fun j e => by rw [HS0.out]; exact (owns_lt O3.out j e).1))
           have y0 := (BW.out.cell (p := ⟨w.heap.size, 0, none⟩) l0).trans q0
           have y1 := (BW.out.cell (p := ⟨w.heap.size, 1, none⟩) l0).trans q1
           have y2 := (BW.out.cell (p := ⟨w.heap.size, 2, none⟩) l0).trans q2
           have y3 := (BW.out.cell (p := ⟨w.heap.size, 3, none⟩) l0).trans q3
           have y4 := (BW.out.cell (p := ⟨w.heap.size, 4, none⟩) l0).trans q4
           have y5 := (BW.out.cell (p := ⟨w.heap.size, 5, none⟩) l0).trans q5
           have y6 := (BW.out.cell (p := ⟨w.heap.size, 6, none⟩) l0).trans q6
           obtain ⟨p1, c1, rfl⟩ := fr_slice ho1
           clear ho1 hg1 hn1 hb1)
        | (refine step_append_own _ rfl (.tmp 25) (.tmp 27) 22 rfl (w.heap.size + 1) 38 j0 (.agg #[.int .u8 0, .int .i64 0, .int .u8 0, .int .u8 0, .slice none 0 0, .int .i64 0, .slice none 0 0]) 7 80 Tryz.underlying22 hj hy0 hy1 hy2 rfl (by decide) (.slice p1 l.length c1) l.length news rfl (by first | exact P1.out | exact P1.out.alloc _) _ 1 1 [.int .u8 r.c.toNat, .int .i64 r.ar, .int .u8 r.l.toNat, .int .u8 r.r.toNat, .slice pg r.gs.length cg, .int .i64 r.wt, .slice po r.out.length co] rfl rfl (by first | exact PL.out | exact cells_new _ _ _) (by simp [Value.oneCell']) (by rw [HM.out]; omega) (by omega) (by first | (rw [← HS0.out]; exact E1.out.size) | (rw [← HS0.out]; exact E2.out.size) | (rw [← HS0.out]; exact E3.out.size) | (rw [← HS0.out]; exact BW.out.size) | (rw [← HS0.out, World.size_alloc]; exact Nat.le_succ_of_le BW.out.size)) ?_
           intro v2 w2 ho2 hg2 hn2 hb2))
      all_goals
        have B2 : Hid (Below W0.heap.size W0 w2) := Lib.hid (by
          first
            | exact BW.out.grown hg2 BW.out.size (fun j e => by rw [HS0.out]; exact (owns_lt P1.out j e).1)
            | exact (BW.out.alloc BW.out.size _).grown hg2 (by rw [World.size_alloc]; exact Nat.le_succ_of_le BW.out.size) (fun j e => by rw [HS0.out]; exact (owns_lt P1.out j e).1))
        have R2 : Hid (Rws w2 v2 (l ++ [r])) := Lib.hid (by
          have ho3 := ho2
          exact rws_row (l := l ++ [r]) (by rw [List.length_append]; exact ho3) (RowR.app (HN.out.later B2.out) (RowR.one (H3.out.later B2.out) (H4.out.later B2.out))))
        obtain ⟨p2, c2, rfl⟩ := R2.out.slice
        clear ho2 hg2 hn2 hb2
        go_wp2_with fail
        go_meet
        exact ⟨_, _, by first | rfl | (rw [List.length_append]; rfl), R2.out, B2.out⟩
  case rest =>
  obtain ⟨q2, c2, rfl, hR, hB⟩ := hcut
  have R2 := Lib.hid hR
  have B2 := Lib.hid hB
  clear hR hB E1 E2 E3 O1 O2 O3 L2 L3 C2 C3 hj hy0 hy1 hy2 HW
  cases va : lawB (l ++ [r]) a with
  | false =>
    rw [va] at K1
    clear va
    go_wp2_with fail
    refine (K1.out _ _ R2.out (H2.out.later B2.out)).mono ?_
    rintro e w3 ⟨rfl, hb⟩
    have B3 := Lib.hid (B2.out.trans (hb.mono B2.out.size))
    clear hb
    go_wp2_with fail
    refine (KA.out _ (HE.out.later B3.out)).mono ?_
    rintro e w4 ⟨rfl, hb⟩
    have Bz := Lib.hid (B3.out.trans (hb.mono B3.out.size))
    clear hb
    go_wp2_with fail
    go_ret
    exact ⟨(by first | rfl | simp), HB.out.trans (Bz.out.mono HB.out.size)⟩
  | true =>
    rw [va] at K1
    obtain ⟨g1, r1, g2, c1⟩ := lawB_iff.1 va
    have sm := (greatR_sm g1).2
    have sml : ∀ x ∈ l, RwSm x := fun x hx => sm x (by simp [hx])
    have rl := rchk_init r1
    have cx := stL_chk rl c1
    have gx := chk_a cx
    have lx := chk_len cx
    have al := chk_len c1
    have KX := Lib.hid (fun w h h' => pstep1_any (.slice p l.length cap) l (by omega) sml (.slice pa a.length ca) a ha haa w h h' n1)
    have KY := Lib.hid (fun w h h' => pstep1_any (.slice q2 (l.length + 1) c2) (l ++ [r]) (by rw [List.length_append, List.length_singleton]; omega) sm (.slice pa a.length ca) a ha haa w h h' n1)
    have KS := Lib.hid (fun x y w h h' => same_yes x y (stL l a) (by omega) (fun m hm => by have := gx m hm; omega) w h h')
    unfold PtEnd at KX KY
    have HMo : Hid (l.any (usB r) = true → stC (l ++ [r]) a = stC l a ∧ stL (l ++ [r]) a = stL l a) := Lib.hid (more_st r1 c1)
    have HRl := Lib.hid rl
    have HC1 := Lib.hid c1
    have HSm := Lib.hid sml
    have HGx := Lib.hid gx
    clear va g1 r1 g2 c1 sm sml rl cx gx
    go_wp2_with fail
    refine (K1.out _ _ R2.out (H2.out.later B2.out)).mono ?_
    rintro e w3 ⟨rfl, hb⟩
    have B3 := Lib.hid (B2.out.trans (hb.mono B2.out.size))
    have C3 := Lib.hid hb
    have y0 := (B3.out.cell (p := ⟨w.heap.size, 0, none⟩) l0).trans q0
    have y1 := (B3.out.cell (p := ⟨w.heap.size, 1, none⟩) l0).trans q1
    clear hb
    go_wp2_with fail
    go_loopw [8, 9] (fun m i wr => ∃ k q : Nat, k ≤ l.length ∧ i = .int .i64 k ∧ m = .bool ((l.take k).any (usB r)) ∧ wr = w3.drewN q) (fun _ i _ => l.length - (intOf i).toNat)
    case atStart => exact ⟨0, 0, Nat.zero_le _, rfl, rfl, rfl⟩
    case round =>
      obtain ⟨k, q, hk, rfl, rfl, rfl⟩ := hrel
      by_cases hlt : k < l.length
      · obtain ⟨b, off, cap', g, gc, o, oc, hp, lb, hat⟩ := (H1.out.later B3.out).at hlt
        obtain rfl : p = some ⟨b, off, none⟩ := by cases hp; rfl
        have k1 : (k : Int) < (l.length : Int) := by omega
        have x0 := hat.c0
        have x1 := hat.c1
        have x4 := hat.c4
        have HSn := Lib.hid (any_snoc (r := r) hlt)
        clear hat hp
        cases hu : (l.take k).any (usB r) with
        | true =>
          rw [hu] at HSn
          go_wp2_with fail
          go_quiet (fail)
          go_wp2_with fail
          go_roundw
          case rel => exact ⟨k + 1, _, by omega, by go_num, by rw [HSn.out]; rfl, rfl⟩
          case measure => simp [intOf]; omega
        | false =>
          rw [hu] at HSn
          have HU : Hid (usB r l[k] = (l[k].c == r.c && decide (l[k].ar = r.ar) && decide (l[k].gs.length = 0))) := Lib.hid rfl
          have e1 : ((l[k].c.toNat : Int) == (r.c.toNat : Int)) = (l[k].c == r.c) := u8_eq
          have e2 : ((l[k].ar : Int) == r.ar) = decide (l[k].ar = r.ar) := by rw [Bool.eq_iff_iff, beq_iff_eq, decide_eq_true_iff]
          have e3 : ((l[k].gs.length : Int) == 0) = decide (l[k].gs.length = 0) := by rw [Bool.eq_iff_iff, beq_iff_eq, decide_eq_true_iff]; omega
          obtain ⟨cc, hcc⟩ : ∃ cc, l[k].c.toNat = cc := ⟨_, rfl⟩
          obtain ⟨ca2, hca⟩ : ∃ ca2, l[k].ar = ca2 := ⟨_, rfl⟩
          obtain ⟨cg2, hcg⟩ : ∃ cg2, l[k].gs.length = cg2 := ⟨_, rfl⟩
          obtain ⟨s1, hs1⟩ : ∃ s1, (l[k].c == r.c) = s1 := ⟨_, rfl⟩
          rw [hca] at x1 e2 HU
          rw [hcg] at x4 e3 HU
          rw [hcc] at x0 e1
          rw [hs1] at e1 HU
          obtain ⟨s2, hs2⟩ : ∃ s2, decide (ca2 = r.ar) = s2 := ⟨_, rfl⟩
          obtain ⟨s3, hs3⟩ : ∃ s3, decide (cg2 = 0) = s3 := ⟨_, rfl⟩
          rw [hs2] at e2 HU
          rw [hs3] at e3 HU
          clear hu hcc hca hcg hs1 hs2 hs3
          cases s1 with
          | false =>
            go_wp2_with fail
            go_quiet (fail)
            go_wp2_with fail
            go_roundw
            case rel => exact ⟨k + 1, _, by omega, by go_num, by rw [HSn.out, HU.out]; simp, rfl⟩
            case measure => simp [intOf]; omega
          | true =>
            cases s2 with
            | false =>
              go_wp2_with fail
              go_quiet (fail)
              go_wp2_with fail
              go_roundw
              case rel => exact ⟨k + 1, _, by omega, by go_num, by rw [HSn.out, HU.out]; simp, rfl⟩
              case measure => simp [intOf]; omega
            | true =>
              cases s3 <;>
              · go_wp2_with fail
                go_quiet (fail)
                go_wp2_with fail
                go_roundw
                case rel => exact ⟨k + 1, _, by omega, by go_num, by rw [HSn.out, HU.out]; simp, rfl⟩
                case measure => simp [intOf]; omega
      · obtain rfl : k = l.length := by omega
        rw [List.take_length]
        have B4 := Lib.hid (below_drewN B3.out q)
        have C4 := Lib.hid (below_drewN C3.out q)
        obtain ⟨w4, hw4⟩ : ∃ w4, w3.drewN q = w4 := ⟨_, rfl⟩
        rw [hw4] at B4 C4 ⊢
        clear hw4 y0 y1
        go_wp2_with fail
        refine (KX.out _ (H1.out.later B4.out) (H2.out.later B4.out)).mono ?_
        rintro e w5 ⟨xv, vs5, rfl, hb, hm⟩
        have B5 := Lib.hid (B4.out.trans (hb.mono B4.out.size))
        have C5 := Lib.hid hb
        have M5 := Lib.hid hm
        clear hb hm
        go_wp2_with fail
        refine (KY.out _ ((R2.out.later C4.out).later C5.out) (H2.out.later B5.out)).mono ?_
        rintro e w6 ⟨yv, vs6, rfl, hb, hm⟩
        have B6 := Lib.hid (B5.out.trans (hb.mono B5.out.size))
        have C6 := Lib.hid hb
        have M6 := Lib.hid hm
        clear hb hm
        have M56 := Lib.hid (M5.out.later C6.out)
        clear KX KY
        go_upto_region 11 with fail
        go_cut [8, 93] from 82 to 92 (fun m c wx => c = .bool false ∧ Below w6.heap.size w6 wx)
        case first =>
          rcases Bool.eq_false_or_eq_true (l.any (usB r)) with hus | hus
          · obtain ⟨s1, s2⟩ := HMo.out hus
            rw [s2] at M6
            have t1 : (stC l a != stC (l ++ [r]) a) = false := by rw [s1]; simp
            clear s1 s2
            go_wp2_with fail
            refine (KS.out _ _ _ M56.out.mods M6.out.mods).mono ?_
            rintro e w7 ⟨rfl, hb⟩
            have C7 := Lib.hid hb
            clear hb
            go_wp2_with fail
            go_meet
            exact ⟨rfl, C7.out⟩
          · go_wp2_with fail
            go_meet
            exact ⟨rfl, Below.refl _ _⟩
        case rest =>
        obtain ⟨rfl, hB⟩ := hcut
        have C7 := Lib.hid hB
        have B7 := Lib.hid (B6.out.trans (hB.mono B6.out.size))
        have M7 := Lib.hid (M56.out.later hB)
        clear hB M5 M6 M56 C6 C5 C4 C3 HMo
        rename World => WB
        by_cases hz : stC l a = 0
        · obtain ⟨D, hD, hDl, hDe⟩ := st_zero HRl.out HC1.out hz
          have HD := Lib.hid hD
          have HDe := Lib.hid hDe
          have HR2 := Lib.hid (rchk_zero HRl.out).2
          obtain ⟨j1, hj, hy0, hy1, hy2⟩ := info_parts info_mod
          obtain ⟨i0, hi, hz0, hz1, hz2⟩ := info_parts info_int
          have F0 := Lib.hid (gAt_start WB l a)
          rw [hDe] at KS M7
          rw [hz]
          clear hz hD hDe
          go_wp2_with fail
          go_loopw [14, 15] (fun v i wr => ∃ k, i = .int .i64 (k : Nat) ∧ GAt WB l a k v wr) (fun _ i _ => a.length - (intOf i).toNat)
          case atStart => exact ⟨0, rfl, F0.out⟩
          case round =>
            rename World => wo
            obtain ⟨k, rfl, hS⟩ := hrel
            have HG := Lib.hid hS
            have hsz := hS.below.size
            have hkl := hS.hi
            have Bo := Lib.hid (B7.out.trans (hS.below.mono B7.out.size))
            obtain ⟨d, vs, hd, hdl, hm⟩ := hS.own
            have HDk := Lib.hid hd
            have HMX := Lib.hid hm
            obtain ⟨pv, cv, rfl⟩ := fr_slice hm.row
            clear hS hd hm
            by_cases hlt : k < a.length
            · obtain ⟨b, off, cap', q, qc, hp, e0', e1', hin, lb, hnil⟩ := H2.out.at2 hlt
              obtain rfl : pa = some ⟨b, off, none⟩ := by cases hp; rfl
              have k1 : (k : Int) < (a.length : Int) := by omega
              obtain ⟨d', s, hd', hs, hds, hdsl⟩ := step_at HD.out hlt
              obtain rfl : d' = d := by rw [HDk.out] at hd'; exact (Option.some.inj hd').symm
              have HIn := Lib.hid hin
              have HNq := Lib.hid (nilOr_p hnil)
              have hfi := chk_fine1 HC1.out hlt
              obtain ⟨m4, mr⟩ := fine_args4 hfi
              have HF70 := Lib.hid (fine70_of hfi)
              obtain ⟨f1, f2⟩ := fin_ok HRl.out hfi
              have KF1 := Lib.hid (prfind_any (.slice p l.length cap) l a[k] (.slice q a[k].a.length qc) (by omega) HSm.out (by omega) wo (H1.out.later Bo.out) (hin.later Bo.out) HNq.out)
              rw [f1, f2] at KF1
              have e0 := (Bo.out.cell (p := ⟨b, off + k * 2, none⟩) lb).trans e0'
              have e1 := (Bo.out.cell (p := ⟨b, off + k * 2 + 1, none⟩) lb).trans e1'
              have HS := Lib.hid hs
              have HDs := Lib.hid hds
              have zr : -1 ≤ first l a[k] ∧ first l a[k] < l.length := by
                rcases firstF_rng l a[k] 0 with h1 | ⟨h1, h2⟩
                · have : first l a[k] = -1 := h1
                  omega
                · have h3 : first l a[k] < 0 + l.length := h2
                  have h4 : 0 ≤ first l a[k] := h1
                  omega
              clear hp hd' hs hds hin hnil mr f1 f2
              by_cases hz0' : 0 ≤ first l a[k]
              · obtain ⟨kk, hkk, hze, hse, hmk⟩ := suc_some HS.out hz0'
                obtain ⟨_, hfit⟩ := first_fit' hze
                have har := fit_ar' hfit
                have hfo := rule_forms' (HR2.out _ (List.getElem_mem hkk)).1
                rw [har] at hfo
                obtain ⟨_, so30, _, so10⟩ := HSm.out _ (List.getElem_mem hkk)
                obtain ⟨b3, off3, cap3, g, gc, o, oc, hp3, lb3, hat⟩ := H1.out.at hkk
                obtain rfl : p = some ⟨b3, off3, none⟩ := by cases hp3; rfl
                have x6' := hat.c6
                have HOs := Lib.hid hat.out
                have k7 : (kk : Int) < (l.length : Int) := by omega
                have k8 : ¬ ((kk : Int) < 0) := by omega
                have k9 : ¬ ((l.length : Int) ≤ (kk : Int)) := by omega
                have k10 : ¬ ((kk : Int) < -1) := by omega
                have k11 : ¬ (l.length ≤ kk) := by omega
                rw [hze] at KF1
                obtain ⟨out, hout⟩ : ∃ out, l[kk].out = out := ⟨_, rfl⟩
                rw [hout] at hse hfo so30 so10 x6' HOs
                have hmk2 : ∀ i, (hi : i < out.length) → mkB out[i] a[k].a = true := by subst hout; exact hmk
                have HMk := Lib.hid hmk2
                have HFo := Lib.hid hfo
                have HS10 := Lib.hid so10
                have HSe := Lib.hid hse
                clear hp3 hat hfit har hmk hmk2 hfo so10 hout hse hze hz0' zr
                go_wp2_with fail
                refine KF1.out.mono ?_
                rintro e w3 ⟨rfl, hb⟩
                have B3 := Lib.hid hb
                have D3 := Lib.hid (Bo.out.trans (hb.mono Bo.out.size))
                have x6 := (D3.out.cell (p := ⟨b3, off3 + kk * 7 + 6, none⟩) lb3).trans x6'
                have O0 : Hid (OX WB d' out a[k].a 0 (.slice pv d'.length cv) w3) := Lib.hid ⟨Nat.zero_le _, HG.out.below.trans (hb.mono hsz), vs, by simpa using HMX.out.later hb⟩
                clear hb
                go_wp2_with fail
                go_loopw [14, 18] (fun v i wr => ∃ n, i = .int .i64 (n : Nat) ∧ OX WB d' out a[k].a n v wr) (fun _ i _ => out.length - (intOf i).toNat)
                case atStart => exact ⟨0, rfl, O0.out⟩
                case round =>
                  rename World => wn
                  obtain ⟨n, rfl, hO⟩ := hrel
                  have HO := Lib.hid hO
                  have hsn := hO.below.size
                  have hno := hO.hi
                  have Bn := Lib.hid (B7.out.trans (hO.below.mono B7.out.size))
                  obtain ⟨vsn, hmn⟩ := hO.own
                  obtain ⟨ds, hds2⟩ : ∃ ds, d' ++ (out.take n).map (mkM · a[k].a) = ds := ⟨_, rfl⟩
                  have HDS := Lib.hid hds2
                  rw [hds2] at hmn
                  have hdl2 : ds.length ≤ 2000 + 30 := by rw [← hds2, List.length_append, List.length_map, List.length_take]; omega
                  have hd32 : (ds.length + 1) * 32 ≤ 140737488355328 := b_32 hdl2
                  have hdmx : ds.length + 1 ≤ maxLen := b_mx hdl2
                  have HMn := Lib.hid hmn
                  obtain ⟨pn, cn, rfl⟩ := fr_slice hmn.row
                  have xn6 := (Bn.out.cell (p := ⟨b3, off3 + kk * 7 + 6, none⟩) lb3).trans x6'
                  clear hO hmn hds2
                  by_cases hln : n < out.length
                  · obtain ⟨b4, off4, cap4, q4, d4, hp4, s0', s1', hsin, lb4⟩ := HOs.out.at hln
                    obtain rfl : o = some ⟨b4, off4, none⟩ := by cases hp4; rfl
                    have n1' : (n : Int) < (out.length : Int) := by omega
                    have s0 := (Bn.out.cell (p := ⟨b4, off4 + n * 2, none⟩) lb4).trans s0'
                    have s1 := (Bn.out.cell (p := ⟨b4, off4 + n * 2 + 1, none⟩) lb4).trans s1'
                    have HFs := Lib.hid hsin
                    have sa10 := (HS10.out _ (List.getElem_mem hln)).1
                    have HFi := Lib.hid (HFo.out _ (List.getElem_mem hln))
                    have HFc := Lib.hid (HS10.out _ (List.getElem_mem hln)).2
                    have HMki := Lib.hid (HMk.out n hln)
                    have I0 := Lib.hid (inM_start wn out[n].c out[n].a a[k].a)
                    clear hp4 hsin
                    go_wp2_with fail
                    go_loopw [20] (fun i' wr => ∃ j va, i' = .int .i64 (j : Nat) ∧ InM wn out[n].c out[n].a a[k].a j va wr) (fun i' _ => out[n].a.length - (intOf i').toNat)
                    case atStart => exact ⟨0, _, rfl, I0.out⟩
                    case round =>
                      obtain ⟨j, va, rfl, hI⟩ := hrel
                      obtain ⟨pj, cj, rfl⟩ := fr_slice hI.own
                      have HI := Lib.hid hI
                      have hbw := Bn.out.trans (hI.below.mono Bn.out.size)
                      have HBW := Lib.hid hbw
                      have c0' := cell_two0 hI.blk
                      have c1' := cell_two1 hI.blk
                      have lw := lt_of_block hI.blk
                      have y6 := (hbw.cell (p := ⟨b3, off3 + kk * 7 + 6, none⟩) lb3).trans x6'
                      have y1 := (hbw.cell (p := ⟨b4, off4 + n * 2 + 1, none⟩) lb4).trans s1'
                      have ym := (hbw.cell (p := ⟨b, off + k * 2 + 1, none⟩) lb).trans e1'
                      have hji := hI.hi
                      clear hI hbw
                      by_cases hlj : j < out[n].a.length
                      · obtain ⟨b5, off5, cap5, pf, cf, hp5, g0', g1', hin5, lb5⟩ := HFs.out.at hlj
                        obtain rfl : q4 = some ⟨b5, off5, none⟩ := by cases hp5; rfl
                        have g0 := (HBW.out.cell (p := ⟨b5, off5 + j * 2, none⟩) lb5).trans g0'
                        have g1 := (HBW.out.cell (p := ⟨b5, off5 + j * 2 + 1, none⟩) lb5).trans g1'
                        have j1' : (j : Int) < (out[n].a.length : Int) := by omega
                        obtain ⟨v1', v2'⟩ := va_ok m4 (HFi.out _ (List.getElem_mem hlj)) HF70.out (mkB_at HMki.out hlj)
                        have hcl := HFc.out _ (List.getElem_mem hlj)
                        have HCw : Hid (∀ (d' : Nat) (os : Array Obj), Calls Tryz.prog 15 #[.agg #[.int .i64 out[n].a[j].k, .slice pf out[n].a[j].cs.length cf], .slice q a[k].a.length qc] («Sort».grow (redrawn wr d') os) fun e w' =>
                            e = .returned (.tuple #[.int .i64 (worth out[n].a[j] a[k].a), .int .i64 0]) ∧ Below («Sort».grow (redrawn wr d') os).heap.size («Sort».grow (redrawn wr d') os) w') :=
                          Lib.hid (fun d' os => by
                            have h := prvalue_any out[n].a[j] a[k].a (.slice pf out[n].a[j].cs.length cf) (.slice q a[k].a.length qc) (by omega) (by omega) («Sort».grow (redrawn wr d') os) ((hin5.later HBW.out).later (below_regrown wr d' os)) ((HIn.out.later HBW.out).later (below_regrown wr d' os))
                            rw [v1', v2'] at h; exact h)
                        have HGd : Hid (argB (worth out[n].a[j] a[k].a) = true) := Lib.hid (mkB_at HMki.out hlj)
                        have HStep : Hid (∀ (wi w3 : World) (v2 : Value) (tmp : Obj), InM wn out[n].c out[n].a a[k].a j (.slice pj j cj) wi → w3.ownsRow (wn.heap.size + 1) 3 1 v2 (j + 1) (valsL (wos out[n].a a[k].a j) ++ [.int .i64 (worth out[n].a[j] a[k].a)]) → (wi.alloc tmp).grownBy w3 (Value.slice pj j cj).ownBlock → argB (worth out[n].a[j] a[k].a) = true → InM wn out[n].c out[n].a a[k].a (j + 1) v2 (w3.setCell ⟨wn.heap.size, 1, none⟩ v2)) := Lib.hid (fun wi w3 v2 tmp h ho hg hb => inM_step h hlj ho hg hb)
                        obtain ⟨z, hz⟩ : ∃ z, worth out[n].a[j] a[k].a = z := ⟨_, rfl⟩
                        rw [hz] at HCw HStep HGd
                        obtain ⟨fk, hfk⟩ : ∃ fk, out[n].a[j].k = fk := ⟨_, rfl⟩
                        obtain ⟨fl, hfl⟩ : ∃ fl, out[n].a[j].cs.length = fl := ⟨_, rfl⟩
                        rw [hfk] at g0 HCw
                        rw [hfl] at g1 HCw
                        clear hp5 hin5 hz hfk hfl v1' v2' hcl g0' g1'
                        have r1 := fun d os => cell_regrown g0 d os
                        have r2 := fun d os => cell_regrown g1 d os
                        have r3 := fun d os => cell_regrown y6 d os
                        have r4 := fun d os => cell_regrown y1 d os
                        have r5 := fun d os => cell_regrown ym d os
                        go_wp2_with fail
                        refine wp_region_quiet_below (by kernel_rfl) (by kernel_rfl) ?_
                        repeat (any_goals (first | go_big_quiet_step ((go_at_call 15; exact Calls.regrown_of (HCw.out _ _))) | quiet_step ((go_at_call 15; exact Calls.regrown_of (HCw.out _ _)))))
                        refine wpQuiet_nil ?_
                        intro wq hw'
                        obtain ⟨⟨dq, osq⟩, hw''⟩ := hw'
                        have HBq : Hid (Below wr.heap.size wr («Sort».grow (redrawn wr dq) osq)) := Lib.hid (below_regrown wr dq osq)
                        generalize «Sort».grow (redrawn wr dq) osq = wz at hw'' HBq
                        subst hw''
                        have HIq := Lib.hid (HI.out.later HBq.out)
                        have p0 := cell_two0 HIq.out.blk
                        have p1 := cell_two1 HIq.out.blk
                        have lq := lt_of_block HIq.out.blk
                        have P6 : Hid ((wq.alloc (.cells #[.int .i64 z] 3)).ownsRow (wn.heap.size + 1) 3 1 (.slice pj j cj) j (valsL (wos out[n].a a[k].a j))) := Lib.hid (HIq.out.own.alloc _)
                        have hzq := HIq.out.below.size
                        go_wp2_with (at_builtin; refine wpList_append_own _ rfl _ _ 41 rfl (wn.heap.size + 1) 3 i0 (.int .i64 0) 1 8 Tryz.underlying41 hi hz0 hz1 hz2 rfl (by decide) (.slice pj j cj) j (valsL (wos out[n].a a[k].a j)) rfl P6.out ⟨wq.heap.size, 0, none⟩ 1 1 [.int .i64 z] rfl rfl (cell_one_new _ _ _) (by simp [Value.oneCell']) (by rw [HM.out]; omega) (by omega) (by simp; omega) ?_; intro v2 w3 ho2 hg2 hn2; have N3 := inM_blk HIq.out hg2; have I2 := Lib.hid (HStep.out _ _ _ _ HIq.out ho2 hg2 HGd.out); obtain ⟨p4, c4, rfl⟩ := fr_slice ho2; have q2' := cell_two0 N3; have q3' := cell_two1 N3; have fr1 : w3.frozen? ⟨wn.heap.size, 1, none⟩ = false := (by simp [World.frozen?, N3]); have l3 : wn.heap.size < w3.heap.size := (lt_of_block N3); clear ho2 hg2 hn2 N3)
                        go_wp2_with fail
                        go_roundw
                        case rel => exact ⟨j + 1, _, by go_num, I2.out⟩
                        case measure => exact b_mi hlj
                      · obtain rfl : j = out[n].a.length := by omega
                        have k2 : ¬ (out[n].a.length : Int) < (out[n].a.length : Int) := by omega
                        have BX : Hid (Below wn.heap.size wn (wr.alloc (.cells #[.int .u8 out[n].c.toNat, .slice pj out[n].a.length cj] 43))) := Lib.hid (HI.out.below.alloc HI.out.below.size _)
                        have P5 := Lib.hid (l_own_later HMn.out.row BX.out)
                        have A5 : Hid (ArgX (wr.alloc (.cells #[.int .u8 out[n].c.toNat, .slice pj out[n].a.length cj] 43)) (Value.slice pn ds.length cn).ownBlock (.slice pj out[n].a.length cj) (mkM out[n] a[k].a).a) := Lib.hid (by
                          have h := HI.out.own.alloc (.cells #[.int .u8 out[n].c.toNat, .slice pj out[n].a.length cj] 43)
                          rw [wos_all] at h
                          have e : (mkM out[n] a[k].a).a.length = out[n].a.length := by simp [mkM]
                          refine argX_new (B := wn.heap.size + 1) (by rw [e]; exact h) (fun j' hj' => ?_)
                          have := (owns_lt HMn.out.row j' hj').2
                          omega)
                        have HSn : Hid (d' ++ (out.take (n + 1)).map (mkM · a[k].a) = ds ++ [mkM out[n] a[k].a]) := Lib.hid (by rw [List.take_succ_eq_append_getElem hln, List.map_append, ← HDS.out, List.append_assoc]; rfl)
                        have hsi := HI.out.below.size
                        go_wp2_with (at_builtin; refine wpList_append_own_at _ rfl _ _ 23 rfl WB.heap.size 43 j1 (.agg #[.int .u8 0, .slice none 0 0]) 2 32 Tryz.underlying23 hj hy0 hy1 hy2 rfl (by decide) (.slice pn ds.length cn) ds.length (modC ds vsn) rfl P5.out ⟨wr.heap.size, 0, none⟩ 1 1 [.int .u8 out[n].c.toNat, .slice pj out[n].a.length cj] rfl rfl (two_new _ _ _ _) (by simp [Value.oneCell']) hdmx hd32 (by rw [World.size_alloc]; exact Nat.le_succ_of_le (Nat.le_trans hsn hsi)) ?_; intro v2 w5 ho2 hg2 hn2 hb2)
                        have M5 := Lib.hid (modX_snoc (m := mkM out[n] a[k].a) HMn.out BX.out A5.out ho2 hg2 hb2)
                        have BW : Hid (Below WB.heap.size WB w5) := Lib.hid ((HO.out.below.trans (BX.out.mono hsn)).grown hg2 (Nat.le_trans hsn BX.out.size) (fun j e => (owns_lt HMn.out.row j e).1))
                        have HT : Hid (OX WB d' out a[k].a (n + 1) v2 w5) := Lib.hid ⟨hln, BW.out, ⟨_, by rw [HSn.out]; exact M5.out⟩⟩
                        clear ho2 hg2 hn2 hb2
                        go_wp2_with fail
                        go_roundw
                        case rel => first | exact ⟨_, _, _, ⟨n + 1, rfl, HT.out⟩, rfl, rfl, by go_num⟩ | exact ⟨n + 1, by go_num, HT.out⟩
                        case measure => exact b_mi hln
                  · obtain rfl : n = out.length := by omega
                    have k3 : ¬ (out.length : Int) < (out.length : Int) := by omega
                    have HT : Hid (GAt WB l a (k + 1) (.slice pn ds.length cn) wn) := Lib.hid (by
                      have e := HDS.out
                      rw [List.take_length, ← HSe.out] at e
                      exact ⟨hlt, HO.out.below, ds, vsn, by rw [← e]; exact HDs.out, by rw [← e, List.length_append]; exact Nat.le_trans hdsl hDl, HMn.out⟩)
                    go_wp2_with fail
                    go_roundw
                    case rel => exact ⟨k + 1, by go_num, HT.out⟩
                    case measure => exact b_mi hlt
              · have hse := suc_none HS.out hz0'
                obtain ⟨z, hzz⟩ : ∃ z, first l a[k] = z := ⟨_, rfl⟩
                rw [hzz] at KF1 zr hz0'
                have k7 : z < 0 := by omega
                have k9 : ¬ ((l.length : Int) ≤ z) := by omega
                have k10 : ¬ (z < -1) := by omega
                have HSe := Lib.hid hse
                clear hse hzz hz0' zr
                go_wp2_with fail
                refine KF1.out.mono ?_
                rintro e w3 ⟨rfl, hb⟩
                have B3 := Lib.hid hb
                have D3 := Lib.hid (Bo.out.trans (hb.mono Bo.out.size))
                have f0 := (D3.out.cell (p := ⟨b, off + k * 2, none⟩) lb).trans e0'
                have f1 := (D3.out.cell (p := ⟨b, off + k * 2 + 1, none⟩) lb).trans e1'
                have hz3 := hb.size
                have BX : Hid (Below wo.heap.size wo (w3.alloc (.cells #[.int .u8 a[k].c.toNat, .slice q a[k].a.length qc] 43))) := Lib.hid (hb.alloc hb.size _)
                have P5 := Lib.hid (l_own_later HMX.out.row BX.out)
                have A5 : Hid (ArgX (w3.alloc (.cells #[.int .u8 a[k].c.toNat, .slice q a[k].a.length qc] 43)) (Value.slice pv d'.length cv).ownBlock (.slice q a[k].a.length qc) a[k].a) := Lib.hid (argX_old HIn.out HNq.out (Bo.out.trans (BX.out.mono Bo.out.size)) (fun j' hj' => by
                  have := (owns_lt HMX.out.row j' hj').1
                  have := B7.out.size
                  omega))
                clear hb
                go_wp2_with (at_builtin; refine wpList_append_own_at _ rfl _ _ 23 rfl WB.heap.size 43 j1 (.agg #[.int .u8 0, .slice none 0 0]) 2 32 Tryz.underlying23 hj hy0 hy1 hy2 rfl (by decide) (.slice pv d'.length cv) d'.length (modC d' vs) rfl P5.out ⟨w3.heap.size, 0, none⟩ 1 1 [.int .u8 a[k].c.toNat, .slice q a[k].a.length qc] rfl rfl (two_new _ _ _ _) (by simp [Value.oneCell']) (by rw [HM.out]; omega) (by omega) (by simp; omega) ?_; intro v2 w5 ho2 hg2 hn2 hb2)
                have M5 := Lib.hid (modX_snoc (m := a[k]) HMX.out BX.out A5.out ho2 hg2 hb2)
                have BW : Hid (Below WB.heap.size WB w5) := Lib.hid ((HG.out.below.trans (BX.out.mono hsz)).grown hg2 (by have := BX.out.size; omega) (fun j e => (owns_lt HMX.out.row j e).1))
                have HT : Hid (GAt WB l a (k + 1) v2 w5) := Lib.hid ⟨hlt, BW.out, d' ++ [a[k]], _, by rw [← HSe.out]; exact HDs.out, by rw [← HSe.out, List.length_append]; omega, M5.out⟩
                clear ho2 hg2 hn2 hb2
                go_wp2_with fail
                go_roundw
                case rel => exact ⟨k + 1, by go_num, HT.out⟩
                case measure => exact b_mi hlt
            · obtain rfl : k = a.length := by omega
              have k3 : ¬ (a.length : Int) < (a.length : Int) := by omega
              rw [List.take_length] at HDk
              obtain rfl : d = D := by have h := HDk.out; rw [HD.out] at h; exact (Option.some.inj h).symm
              have M8 := Lib.hid (M7.out.later HG.out.below)
              go_wp2_with fail
              refine (KS.out _ _ _ HMX.out.mods M8.out.mods).mono ?_
              rintro e w8 ⟨rfl, hb⟩
              have B8 := Lib.hid (Bo.out.trans (hb.mono Bo.out.size))
              clear hb
              go_wp2_with fail
              refine (KA.out _ (HE.out.later B8.out)).mono ?_
              rintro e w9 ⟨rfl, hb⟩
              have Bz := Lib.hid (B8.out.trans (hb.mono B8.out.size))
              clear hb
              go_wp2_with fail
              go_ret
              exact ⟨(by first | rfl | simp), HB.out.trans (Bz.out.mono HB.out.size)⟩
        · have t1 : (stC l a != 0) = true := by rw [bne_iff_ne]; exact hz
          have t2 : (stC l a == 0) = false := by rw [beq_eq_false_iff_ne]; exact hz
          obtain ⟨e0, he0⟩ : ∃ e0, stC l a = e0 := ⟨_, rfl⟩
          rw [he0] at t1 t2 ⊢
          clear he0 hz
          go_wp2_with fail
          go_loopw [14, 15] (fun v i wr => v = .slice none 0 0 ∧ i = .int .i64 0 ∧ wr = WB) (fun _ _ _ => 0)
          case atStart => exact ⟨rfl, rfl, rfl⟩
          case round =>
            obtain ⟨rfl, rfl, rfl⟩ := hrel
            by_cases h0 : (0 : Int) < (a.length : Int)
            · go_wp2_with fail
              refine (KA.out _ (HE.out.later B7.out)).mono ?_
              rintro e w9 ⟨rfl, hb⟩
              have Bz := Lib.hid (B7.out.trans (hb.mono B7.out.size))
              clear hb
              go_wp2_with fail
              go_ret
              exact ⟨(by first | rfl | simp), HB.out.trans (Bz.out.mono HB.out.size)⟩
            · go_wp2_with fail
              refine (KA.out _ (HE.out.later B7.out)).mono ?_
              rintro e w9 ⟨rfl, hb⟩
              have Bz := Lib.hid (B7.out.trans (hb.mono B7.out.size))
              clear hb
              go_wp2_with fail
              go_ret
              exact ⟨(by first | rfl | simp), HB.out.trans (Bz.out.mono HB.out.size)⟩
end Go.Proofs.YtkjjehnfibfngaaGreatDoor
