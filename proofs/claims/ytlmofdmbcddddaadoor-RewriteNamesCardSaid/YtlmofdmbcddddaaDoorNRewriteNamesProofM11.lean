/-
  Texts of the proof, merged: NRewLawN, NWordOpen, NRewOpen, NRewOpenB.
-/
import Derived.Test.YtlmofdmbcddddaaDoorNRewriteNamesProofM10
import Derived.Test.YtlmofdmbcddddaaDoorNRewriteNamesProofM2
import Derived.ProofKit
import Derived.OpenShut
import Derived.ChangeSlices
import Derived.Deep.SlicePairs
import Derived.Lib.SmallJoins
import Derived.Test.YtlmofdmbcddddaaDoorNRewriteNamesProofM5
namespace Go.Proofs.YtlmofdmbcddddaaDoor
open Go.RowKit
open WM RM
set_option linter.unusedVariables false
set_option linter.unusedSimpArgs false

set_option maxRecDepth 100000 in
set_option maxHeartbeats 6400000 in
theorem rnames_walk (w : World) (he : Env w) : Calls Tryd.prog 3 #[] w fun e w' => e = .returned (.bool true) ∧ Below w.heap.size w w' := by
  have HE := Lib.hid he
  obtain ⟨n0, n1, n2, n3, n4, n5, n6⟩ := nm_find
  have K0 : Hid (∀ mv w, Ints w mv [1] → NilOr mv → Calls Tryd.prog 4 #[.agg #[.int .u8 65, mv], .int .i64 0] w fun e w' => e = .returned (.bool true) ∧ Below w.heap.size w w') := Lib.hid (fun mv w hv hn => found_any ⟨65, [1]⟩ mv 0 (by decide) n0 w hv hn)
  have K1 : Hid (∀ mv w, Ints w mv [0] → NilOr mv → Calls Tryd.prog 4 #[.agg #[.int .u8 65, mv], .int .i64 1] w fun e w' => e = .returned (.bool true) ∧ Below w.heap.size w w') := Lib.hid (fun mv w hv hn => found_any ⟨65, [0]⟩ mv 1 (by decide) n1 w hv hn)
  have K2 : Hid (∀ mv w, Ints w mv [-1000000000] → NilOr mv → Calls Tryd.prog 4 #[.agg #[.int .u8 65, mv], .int .i64 1] w fun e w' => e = .returned (.bool true) ∧ Below w.heap.size w w') := Lib.hid (fun mv w hv hn => found_any ⟨65, [-1000000000]⟩ mv 1 (by decide) n2 w hv hn)
  have K3 : Hid (∀ mv w, Ints w mv [] → NilOr mv → Calls Tryd.prog 4 #[.agg #[.int .u8 65, mv], .int .i64 (-1)] w fun e w' => e = .returned (.bool true) ∧ Below w.heap.size w w') := Lib.hid (fun mv w hv hn => found_any ⟨65, []⟩ mv (-1) (by decide) n3 w hv hn)
  have K4 : Hid (∀ mv w, Ints w mv [1, 1] → NilOr mv → Calls Tryd.prog 4 #[.agg #[.int .u8 65, mv], .int .i64 (-1)] w fun e w' => e = .returned (.bool true) ∧ Below w.heap.size w w') := Lib.hid (fun mv w hv hn => found_any ⟨65, [1, 1]⟩ mv (-1) (by decide) n4 w hv hn)
  have K5 : Hid (∀ mv w, Ints w mv [1] → NilOr mv → Calls Tryd.prog 4 #[.agg #[.int .u8 70, mv], .int .i64 (-1)] w fun e w' => e = .returned (.bool true) ∧ Below w.heap.size w w') := Lib.hid (fun mv w hv hn => found_any ⟨70, [1]⟩ mv (-1) (by decide) n5 w hv hn)
  have K6 : Hid (∀ mv w, Ints w mv [] → NilOr mv → Calls Tryd.prog 4 #[.agg #[.int .u8 93, mv], .int .i64 (-1)] w fun e w' => e = .returned (.bool true) ∧ Below w.heap.size w w') := Lib.hid (fun mv w hv hn => found_any ⟨93, []⟩ mv (-1) (by decide) n6 w hv hn)
  have KC0 : Hid (∀ v w, Rws w v ([]) → Calls Tryd.prog 6 #[v] w fun e w' => e = .returned (.int .i64 0) ∧ Below w.heap.size w w') := Lib.hid (fun v w h => by
    have := prcheck_any v ([]) (by decide) (smN (by decide +kernel)) w h
    rwa [nm_chk.1] at this)
  have KC1 : Hid (∀ v w, Rws w v (givM 65 1 0 (-1) 0 zer21) → Calls Tryd.prog 6 #[v] w fun e w' => e = .returned (.int .i64 4) ∧ Below w.heap.size w w') := Lib.hid (fun v w h => by
    have := prcheck_any v (givM 65 1 0 (-1) 0 zer21) (by decide) (smN (by decide +kernel)) w h
    rwa [nm_chk.2.1] at this)
  have KC2 : Hid (∀ v w, Rws w v (zer41) → Calls Tryd.prog 6 #[v] w fun e w' => e = .returned (.int .i64 4) ∧ Below w.heap.size w w') := Lib.hid (fun v w h => by
    have := prcheck_any v (zer41) (by decide) (smN (by decide +kernel)) w h
    rwa [nm_chk.2.2.1] at this)
  have KC3 : Hid (∀ v w, Rws w v (givM 65 1 70 (-1) 0 outF) → Calls Tryd.prog 6 #[v] w fun e w' => e = .returned (.int .i64 8) ∧ Below w.heap.size w w') := Lib.hid (fun v w h => by
    have := prcheck_any v (givM 65 1 70 (-1) 0 outF) (by decide) (smN (by decide +kernel)) w h
    rwa [nm_chk.2.2.2.1] at this)
  have KC4 : Hid (∀ v w, Rws w v (givM 65 1 0 (-1) 1 outF) → Calls Tryd.prog 6 #[v] w fun e w' => e = .returned (.int .i64 8) ∧ Below w.heap.size w w') := Lib.hid (fun v w h => by
    have := prcheck_any v (givM 65 1 0 (-1) 1 outF) (by decide) (smN (by decide +kernel)) w h
    rwa [nm_chk.2.2.2.2.1] at this)
  have KC5 : Hid (∀ v w, Rws w v (givM 65 1 0 (-1) 0 [⟨93, []⟩, ⟨91, []⟩]) → Calls Tryd.prog 6 #[v] w fun e w' => e = .returned (.int .i64 8) ∧ Below w.heap.size w w') := Lib.hid (fun v w h => by
    have := prcheck_any v (givM 65 1 0 (-1) 0 [⟨93, []⟩, ⟨91, []⟩]) (by decide) (smN (by decide +kernel)) w h
    rwa [nm_chk.2.2.2.2.2.1] at this)
  have KC6 : Hid (∀ v w, Rws w v (givM 65 2 0 (-1) 0 outF) → Calls Tryd.prog 6 #[v] w fun e w' => e = .returned (.int .i64 8) ∧ Below w.heap.size w w') := Lib.hid (fun v w h => by
    have := prcheck_any v (givM 65 2 0 (-1) 0 outF) (by decide) (smN (by decide +kernel)) w h
    rwa [nm_chk.2.2.2.2.2.2.1] at this)
  have KC7 : Hid (∀ v w, Rws w v (givM 65 1 0 (-1000001) 0 outF) → Calls Tryd.prog 6 #[v] w fun e w' => e = .returned (.int .i64 8) ∧ Below w.heap.size w w') := Lib.hid (fun v w h => by
    have := prcheck_any v (givM 65 1 0 (-1000001) 0 outF) (by decide) (smN (by decide +kernel)) w h
    rwa [nm_chk.2.2.2.2.2.2.2.1] at this)
  have KC8 : Hid (∀ v w, Rws w v (givM 91 1 0 (-1) 0 outF) → Calls Tryd.prog 6 #[v] w fun e w' => e = .returned (.int .i64 8) ∧ Below w.heap.size w w') := Lib.hid (fun v w h => by
    have := prcheck_any v (givM 91 1 0 (-1) 0 outF) (by decide) (smN (by decide +kernel)) w h
    rwa [nm_chk.2.2.2.2.2.2.2.2] at this)
  have KV0 : Hid (∀ v u w, Ints w v [2] → Ints w u [500000001] → Calls Tryd.prog 7 #[.agg #[.int .i64 0, v], u] w fun e w' => e = .returned (.tuple #[.int .i64 (0), .int .i64 16]) ∧ Below w.heap.size w w') := Lib.hid (fun v u w h1 h2 => by
    have := prvalue_any ⟨0, [2]⟩ [500000001] v u (by decide) (by decide) w h1 h2
    rwa [nm_val.1.1, nm_val.1.2] at this)
  have KV1 : Hid (∀ v u w, Ints w v [2] → Ints w u [] → Calls Tryd.prog 7 #[.agg #[.int .i64 0, v], u] w fun e w' => e = .returned (.tuple #[.int .i64 (0), .int .i64 8]) ∧ Below w.heap.size w w') := Lib.hid (fun v u w h1 h2 => by
    have := prvalue_any ⟨0, [2]⟩ [] v u (by decide) (by decide) w h1 h2
    rwa [nm_val.2.1.1, nm_val.2.1.2] at this)
  have KV2 : Hid (∀ v u w, Ints w v [2] → Ints w u [1000000001] → Calls Tryd.prog 7 #[.agg #[.int .i64 0, v], u] w fun e w' => e = .returned (.tuple #[.int .i64 (0), .int .i64 8]) ∧ Below w.heap.size w w') := Lib.hid (fun v u w h1 h2 => by
    have := prvalue_any ⟨0, [2]⟩ [1000000001] v u (by decide) (by decide) w h1 h2
    rwa [nm_val.2.2.1.1, nm_val.2.2.1.2] at this)
  have KV3 : Hid (∀ v u w, Ints w v [-3] → Ints w u [5] → Calls Tryd.prog 7 #[.agg #[.int .i64 7, v], u] w fun e w' => e = .returned (.tuple #[.int .i64 (-8), .int .i64 0]) ∧ Below w.heap.size w w') := Lib.hid (fun v u w h1 h2 => by
    have := prvalue_any ⟨7, [-3]⟩ [5] v u (by decide) (by decide) w h1 h2
    rwa [nm_val.2.2.2.1.1, nm_val.2.2.2.1.2] at this)
  have sd : ∀ r ∈ dblR, RwSm r := smN (by decide)
  have KS : Hid (∀ v wv w, Rws w v dblR → Mods w wv [⟨70, [500000001]⟩] → NilOr wv → Calls Tryd.prog 9 #[v, wv] w (PtEnd dblR [⟨70, [500000001]⟩] w)) := Lib.hid (fun v wv w a b c => pstep1_any v dblR (by decide) sd wv _ (by decide) (by decide) w a b c)
  unfold PtEnd at KS
  obtain ⟨y0, hy0⟩ : ∃ y, stL dblR [⟨70, [500000001]⟩] = y := ⟨_, rfl⟩
  rw [nm_dbl.1, hy0] at KS
  have KR : Hid (∀ n u, (∀ m ∈ u, m.a.length ≤ 9223372036854775807) → u.length ≤ 9223372036854775807 → ∀ v wv w, Rws w v dblR → Mods w wv u → NilOr wv → Calls Tryd.prog 10 #[v, wv, .int .i64 n] w (PuEnd dblR u n w)) := Lib.hid (fun n u ha hl v wv w a b c => prun_any v dblR (by decide) sd wv u hl ha n w a b c)
  have KR1 := Lib.hid (KR.out 11 [⟨70, [0]⟩] (by decide) (by decide))
  have KR2 := Lib.hid (KR.out 10 [⟨70, [0]⟩] (by decide) (by decide))
  have KR3 := Lib.hid (KR.out 31 [] (by decide) (by decide))
  have KR4 := Lib.hid (KR.out 31 [⟨93, []⟩] (by decide) (by decide))
  unfold PuEnd at KR1 KR2 KR3 KR4
  obtain ⟨y1, hy1⟩ : ∃ y, ruL dblR [⟨70, [0]⟩] 11 = y := ⟨_, rfl⟩
  obtain ⟨y2, hy2⟩ : ∃ y, ruL dblR [⟨70, [0]⟩] 10 = y := ⟨_, rfl⟩
  obtain ⟨y3, hy3⟩ : ∃ y, ruL dblR [] 31 = y := ⟨_, rfl⟩
  obtain ⟨y4, hy4⟩ : ∃ y, ruL dblR [⟨93, []⟩] 31 = y := ⟨_, rfl⟩
  have hlen : y2.length = 1024 := by rw [← hy2]; exact dbl_10.2
  rw [dbl_11, hy1] at KR1
  rw [dbl_10.1, hy2] at KR2
  rw [nm_dbl.2.1, hy3] at KR3
  rw [nm_dbl.2.2, hy4] at KR4
  have HLen := Lib.hid hlen
  clear hy0 hy1 hy2 hy3 hy4 hlen KR sd
  have KFo := Lib.hid form_lit
  have KA := Lib.hid alive_any
  have KG := Lib.hid givn_any
  clear n0 n1 n2 n3 n4 n5 n6 he
  go_enter Tryd.func3, Tryd.ntmps3
  go_wp2_with fail
  have I1 := Lib.hid (ints_one (heap_alloc_new w (.cells #[.int .i64 1] 3)))
  have A1 := Lib.hid ((Below.refl w.heap.size w).alloc (Nat.le_refl _) (.cells #[.int .i64 1] 3))
  refine (K0.out _ _ I1.out (.inr ⟨_, _, _, rfl⟩)).mono ?_
  rintro e w1 ⟨rfl, hb⟩
  have B1 := Lib.hid (A1.out.trans (hb.mono A1.out.size))
  clear hb
  go_wp2_with fail
  have I2 := Lib.hid (ints_one (heap_alloc_new w1 (.cells #[.int .i64 0] 3)))
  have A2 := Lib.hid (B1.out.alloc B1.out.size (.cells #[.int .i64 0] 3))
  refine (K1.out _ _ I2.out (.inr ⟨_, _, _, rfl⟩)).mono ?_
  rintro e w2 ⟨rfl, hb⟩
  have B2 := Lib.hid (A2.out.trans (hb.mono A2.out.size))
  clear hb
  go_wp2_with fail
  have I3 := Lib.hid (ints_one (heap_alloc_new w2 (.cells #[.int .i64 (-1000000000)] 3)))
  have A3 := Lib.hid (B2.out.alloc B2.out.size (.cells #[.int .i64 (-1000000000)] 3))
  refine (K2.out _ _ I3.out (.inr ⟨_, _, _, rfl⟩)).mono ?_
  rintro e w3 ⟨rfl, hb⟩
  have B3 := Lib.hid (A3.out.trans (hb.mono A3.out.size))
  clear hb
  go_wp2_with fail
  refine (K3.out _ _ (.none _ _) (.inl rfl)).mono ?_
  rintro e w4 ⟨rfl, hb⟩
  have B4 := Lib.hid (B3.out.trans (hb.mono B3.out.size))
  clear hb
  go_wp2_with fail
  have I5 := Lib.hid (ints_two (heap_alloc_new w4 (.cells #[.int .i64 1, .int .i64 1] 3)))
  have A5 := Lib.hid (B4.out.alloc B4.out.size (.cells #[.int .i64 1, .int .i64 1] 3))
  refine (K4.out _ _ I5.out (.inr ⟨_, _, _, rfl⟩)).mono ?_
  rintro e w5 ⟨rfl, hb⟩
  have B5 := Lib.hid (A5.out.trans (hb.mono A5.out.size))
  clear hb
  go_wp2_with fail
  have I6 := Lib.hid (ints_one (heap_alloc_new w5 (.cells #[.int .i64 1] 3)))
  have A6 := Lib.hid (B5.out.alloc B5.out.size (.cells #[.int .i64 1] 3))
  refine (K5.out _ _ I6.out (.inr ⟨_, _, _, rfl⟩)).mono ?_
  rintro e w6 ⟨rfl, hb⟩
  have B6 := Lib.hid (A6.out.trans (hb.mono A6.out.size))
  clear hb
  go_wp2_with fail
  refine (K6.out _ _ (.none _ _) (.inl rfl)).mono ?_
  rintro e w7 ⟨rfl, hb⟩
  have B7 := Lib.hid (B6.out.trans (hb.mono B6.out.size))
  clear hb
  go_wp2_with fail
  refine (KG.out _).mono ?_
  rintro e w8 ⟨r0, g0, o0, a0, p0, q0, s0, e0, f0, h0, k0, rfl, hb, hG⟩
  have B8 := Lib.hid (B7.out.trans (hb.mono B7.out.size))
  have G0 := Lib.hid hG.mov
  clear hb hG
  go_wp2_with fail
  refine (KG.out _).mono ?_
  rintro e w9 ⟨r1, g1, o1, a1, p1, q1, s1, e1, f1, h1, k1, rfl, hb, hG⟩
  have B9 := Lib.hid (B8.out.trans (hb.mono B8.out.size))
  have G1 := Lib.hid hG.mov
  have G0 := Lib.hid (G0.out.later hb)
  clear hb hG
  go_wp2_with fail
  refine (KG.out _).mono ?_
  rintro e w10 ⟨r2, g2, o2, a2, p2, q2, s2, e2, f2, h2, k2, rfl, hb, hG⟩
  have B10 := Lib.hid (B9.out.trans (hb.mono B9.out.size))
  have G2 := Lib.hid hG.mov
  have G0 := Lib.hid (G0.out.later hb)
  have G1 := Lib.hid (G1.out.later hb)
  clear hb hG
  go_wp2_with fail
  refine (KG.out _).mono ?_
  rintro e w11 ⟨r3, g3, o3, a3, p3, q3, s3, e3, f3, h3, k3, rfl, hb, hG⟩
  have B11 := Lib.hid (B10.out.trans (hb.mono B10.out.size))
  have G3 := Lib.hid hG.mov
  have G0 := Lib.hid (G0.out.later hb)
  have G1 := Lib.hid (G1.out.later hb)
  have G2 := Lib.hid (G2.out.later hb)
  clear hb hG
  go_wp2_with fail
  refine (KG.out _).mono ?_
  rintro e w12 ⟨r4, g4, o4, a4, p4, q4, s4, e4, f4, h4, k4, rfl, hb, hG⟩
  have B12 := Lib.hid (B11.out.trans (hb.mono B11.out.size))
  have G4 := Lib.hid hG.mov
  have G0 := Lib.hid (G0.out.later hb)
  have G1 := Lib.hid (G1.out.later hb)
  have G2 := Lib.hid (G2.out.later hb)
  have G3 := Lib.hid (G3.out.later hb)
  clear hb hG
  go_wp2_with fail
  refine (KG.out _).mono ?_
  rintro e w13 ⟨r5, g5, o5, a5, p5, q5, s5, e5, f5, h5, k5, rfl, hb, hG⟩
  have B13 := Lib.hid (B12.out.trans (hb.mono B12.out.size))
  have G5 := Lib.hid hG.mov
  have G0 := Lib.hid (G0.out.later hb)
  have G1 := Lib.hid (G1.out.later hb)
  have G2 := Lib.hid (G2.out.later hb)
  have G3 := Lib.hid (G3.out.later hb)
  have G4 := Lib.hid (G4.out.later hb)
  clear hb hG
  go_wp2_with fail
  refine (KG.out _).mono ?_
  rintro e w14 ⟨r6, g6, o6, a6, p6, q6, s6, e6, f6, h6, k6, rfl, hb, hG⟩
  have B14 := Lib.hid (B13.out.trans (hb.mono B13.out.size))
  have G6 := Lib.hid hG.mov
  have G0 := Lib.hid (G0.out.later hb)
  have G1 := Lib.hid (G1.out.later hb)
  have G2 := Lib.hid (G2.out.later hb)
  have G3 := Lib.hid (G3.out.later hb)
  have G4 := Lib.hid (G4.out.later hb)
  have G5 := Lib.hid (G5.out.later hb)
  clear hb hG
  obtain ⟨V, hmk, hbk, hSk⟩ := mk21 w14
  have hVb := B14.out.trans (hbk.mono B14.out.size)
  obtain ⟨x0, x1, x2, x3, x4, x5, x6, x7, x8, x9, x10, x11, x12, x13, x14, x15, x16, x17, x18, x19, x20, x21, x22, x23, R0, R1, R2, R3, R4, R5, R6, hB⟩ := nam_stores (W0 := w) (L0 := w.heap.size) (N := w14.heap.size) B7.out.size hVb hSk (Nat.le_refl _) (G0.out.later hbk) (G1.out.later hbk) (G2.out.later hbk) (G3.out.later hbk) (G4.out.later hbk) (G5.out.later hbk) (G6.out.later hbk)
  have R0 := Lib.hid R0
  have R1 := Lib.hid R1
  have R2 := Lib.hid R2
  have R3 := Lib.hid R3
  have R4 := Lib.hid R4
  have R5 := Lib.hid R5
  have R6 := Lib.hid R6
  have B15 := Lib.hid hB
  clear hVb hSk hbk hB G0 G1 G2 G3 G4 G5 G6
  go_wp2_with fail
  clear x0 x1 x2 x3 x4 x5 x6 x7 x8 x9 x10 x11 x12 x13 x14 x15 x16 x17 x18 x19 x20 x21 x22 x23 hmk
  generalize ((((((((V.setCell ⟨r0, 13, none⟩ (.slice (some ⟨w14.heap.size, 0, none⟩) 21 21)).setCell ⟨r1, 2, none⟩ (.int .u8 70)).setCell ⟨r2, 12, none⟩ (.int .i64 1)).alloc (.cells #[.int .u8 93, .slice none 0 0, .int .u8 91, .slice none 0 0] 33)).setCell ⟨r3, 13, none⟩ (.slice (some ⟨V.heap.size, 0, none⟩) 2 2)).setCell ⟨r4, 1, none⟩ (.int .i64 2)).setCell ⟨g5, 0, none⟩ (.int .i64 (-1000001))).setCell ⟨r6, 0, none⟩ (.int .u8 91)) = W15 at B15 R0 R1 R2 R3 R4 R5 R6 ⊢
  refine (KC0.out _ _ (.none _ _)).mono ?_
  rintro e w16 ⟨rfl, hb⟩
  have B16 := Lib.hid (B15.out.trans (hb.mono B15.out.size))
  have C16 := Lib.hid hb
  clear hb
  go_wp2_with fail
  refine (KC1.out _ _ (R0.out.later C16.out)).mono ?_
  rintro e w17 ⟨rfl, hb⟩
  have B17 := Lib.hid (B16.out.trans (hb.mono B16.out.size))
  have C17 := Lib.hid (C16.out.trans (hb.mono C16.out.size))
  clear hb
  obtain ⟨V41, hmk, hbk, hSk⟩ := mk41 w17
  have BM := Lib.hid (B17.out.trans (hbk.mono B17.out.size))
  have CM := Lib.hid (C17.out.trans (hbk.mono C17.out.size))
  have SM := Lib.hid hSk
  clear hbk hSk
  go_wp2_with fail
  refine (KC2.out _ _ SM.out).mono ?_
  rintro e w18 ⟨rfl, hb⟩
  have B18 := Lib.hid (BM.out.trans (hb.mono BM.out.size))
  have C18 := Lib.hid (CM.out.trans (hb.mono CM.out.size))
  clear hb hmk SM CM BM
  go_wp2_with fail
  refine (KC3.out _ _ (R1.out.later C18.out)).mono ?_
  rintro e w19 ⟨rfl, hb⟩
  have B19 := Lib.hid (B18.out.trans (hb.mono B18.out.size))
  have C19 := Lib.hid (C18.out.trans (hb.mono C18.out.size))
  clear hb
  go_wp2_with fail
  refine (KC4.out _ _ (R2.out.later C19.out)).mono ?_
  rintro e w20 ⟨rfl, hb⟩
  have B20 := Lib.hid (B19.out.trans (hb.mono B19.out.size))
  have C20 := Lib.hid (C19.out.trans (hb.mono C19.out.size))
  clear hb
  go_wp2_with fail
  refine (KC5.out _ _ (R3.out.later C20.out)).mono ?_
  rintro e w21 ⟨rfl, hb⟩
  have B21 := Lib.hid (B20.out.trans (hb.mono B20.out.size))
  have C21 := Lib.hid (C20.out.trans (hb.mono C20.out.size))
  clear hb
  go_wp2_with fail
  refine (KC6.out _ _ (R4.out.later C21.out)).mono ?_
  rintro e w22 ⟨rfl, hb⟩
  have B22 := Lib.hid (B21.out.trans (hb.mono B21.out.size))
  have C22 := Lib.hid (C21.out.trans (hb.mono C21.out.size))
  clear hb
  go_wp2_with fail
  refine (KC7.out _ _ (R5.out.later C22.out)).mono ?_
  rintro e w23 ⟨rfl, hb⟩
  have B23 := Lib.hid (B22.out.trans (hb.mono B22.out.size))
  have C23 := Lib.hid (C22.out.trans (hb.mono C22.out.size))
  clear hb
  go_wp2_with fail
  refine (KC8.out _ _ (R6.out.later C23.out)).mono ?_
  rintro e w24 ⟨rfl, hb⟩
  have B24 := Lib.hid (B23.out.trans (hb.mono B23.out.size))
  have C24 := Lib.hid (C23.out.trans (hb.mono C23.out.size))
  clear hb
  go_wp2_with fail
  clear R0 R1 R2 R3 R4 R5 R6 C16 C17 C18 C19 C20 C21 C22 C23 C24
  refine (KFo.out 0 2 _).mono ?_
  rintro e w25 ⟨b25, rfl, hb, hf, hl⟩
  have B25 := Lib.hid (B24.out.trans (hb.mono B24.out.size))
  have F25 := Lib.hid (ints_one hf)
  clear hb hf hl
  go_wp2_with fail
  have A25 := Lib.hid (B25.out.alloc B25.out.size (.cells #[.int .i64 500000001] 3))
  have E25 := Lib.hid (F25.out.later ((Below.refl _ _).alloc (Nat.le_refl _) (.cells #[.int .i64 500000001] 3)))
  refine (KV0.out _ _ _ E25.out (ints_one (heap_alloc_new _ _))).mono ?_
  rintro e w26 ⟨rfl, hb⟩
  have B26 := Lib.hid (A25.out.trans (hb.mono A25.out.size))
  clear hb
  go_wp2_with fail
  refine (KFo.out 0 2 _).mono ?_
  rintro e w27 ⟨b27, rfl, hb, hf, hl⟩
  have B27 := Lib.hid (B26.out.trans (hb.mono B26.out.size))
  have F27 := Lib.hid (ints_one hf)
  clear hb hf hl
  go_wp2_with fail
  refine (KV1.out _ _ _ F27.out (.none _ _)).mono ?_
  rintro e w28 ⟨rfl, hb⟩
  have B28 := Lib.hid (B27.out.trans (hb.mono B27.out.size))
  clear hb
  go_wp2_with fail
  refine (KFo.out 0 2 _).mono ?_
  rintro e w29 ⟨b29, rfl, hb, hf, hl⟩
  have B29 := Lib.hid (B28.out.trans (hb.mono B28.out.size))
  have F29 := Lib.hid (ints_one hf)
  clear hb hf hl
  go_wp2_with fail
  have A29 := Lib.hid (B29.out.alloc B29.out.size (.cells #[.int .i64 1000000001] 3))
  have E29 := Lib.hid (F29.out.later ((Below.refl _ _).alloc (Nat.le_refl _) (.cells #[.int .i64 1000000001] 3)))
  refine (KV2.out _ _ _ E29.out (ints_one (heap_alloc_new _ _))).mono ?_
  rintro e w30 ⟨rfl, hb⟩
  have B30 := Lib.hid (A29.out.trans (hb.mono A29.out.size))
  clear hb
  go_wp2_with fail
  refine (KFo.out 7 (-3) _).mono ?_
  rintro e w31 ⟨b31, rfl, hb, hf, hl⟩
  have B31 := Lib.hid (B30.out.trans (hb.mono B30.out.size))
  have F31 := Lib.hid (ints_one hf)
  clear hb hf hl
  go_wp2_with fail
  have A31 := Lib.hid (B31.out.alloc B31.out.size (.cells #[.int .i64 5] 3))
  have E31 := Lib.hid (F31.out.later ((Below.refl _ _).alloc (Nat.le_refl _) (.cells #[.int .i64 5] 3)))
  refine (KV3.out _ _ _ E31.out (ints_one (heap_alloc_new _ _))).mono ?_
  rintro e w32 ⟨rfl, hb⟩
  have B32 := Lib.hid (A31.out.trans (hb.mono A31.out.size))
  clear hb
  go_wp2_with fail
  refine (KFo.out 0 2 _).mono ?_
  rintro e wa ⟨ba, rfl, hb, hf, hl⟩
  have Ba := Lib.hid (B32.out.trans (hb.mono B32.out.size))
  have Fa := Lib.hid hf
  clear hb hf hl
  go_wp2_with fail
  refine (KFo.out 0 1 _).mono ?_
  rintro e wb ⟨bb, rfl, hb, hf, hl⟩
  have Hb := Lib.hid hb
  have Fb := Lib.hid hf
  clear hb hf hl
  go_wp2_with fail
  have DR := Lib.hid (dbl_made Hb.out Fa.out Fb.out)
  have hBa := (Ba.out.alloc Ba.out.size (.cells #[.int .i64 0, .slice (some ⟨ba, 0, none⟩) 1 1] 35))
  have hBb := hBa.trans (Hb.out.mono hBa.size)
  have BX := Lib.hid (((hBb.alloc hBb.size (.cells #[.int .i64 0, .slice (some ⟨bb, 0, none⟩) 1 1] 35)).alloc (by rw [World.size_alloc]; have := hBb.size; omega) (.cells #[.int .u8 70, .slice (some ⟨wa.heap.size, 0, none⟩) 1 1, .int .u8 70, .slice (some ⟨wb.heap.size, 0, none⟩) 1 1] 33)).alloc (by rw [World.size_alloc, World.size_alloc]; have := hBb.size; omega) (.cells #[.int .u8 70, .int .i64 1, .int .u8 0, .int .u8 0, .slice none 0 0, .int .i64 0, .slice (some ⟨wb.heap.size + 1, 0, none⟩) 2 2] 31))
  have hi5 := heap_alloc_new (((wb.alloc (.cells #[.int .i64 0, .slice (some ⟨bb, 0, none⟩) 1 1] 35)).alloc (.cells #[.int .u8 70, .slice (some ⟨wa.heap.size, 0, none⟩) 1 1, .int .u8 70, .slice (some ⟨wb.heap.size, 0, none⟩) 1 1] 33)).alloc (.cells #[.int .u8 70, .int .i64 1, .int .u8 0, .int .u8 0, .slice none 0 0, .int .i64 0, .slice (some ⟨wb.heap.size + 1, 0, none⟩) 2 2] 31)) (.cells #[.int .i64 500000001] 3)
  have hm5 := heap_alloc_new ((((wb.alloc (.cells #[.int .i64 0, .slice (some ⟨bb, 0, none⟩) 1 1] 35)).alloc (.cells #[.int .u8 70, .slice (some ⟨wa.heap.size, 0, none⟩) 1 1, .int .u8 70, .slice (some ⟨wb.heap.size, 0, none⟩) 1 1] 33)).alloc (.cells #[.int .u8 70, .int .i64 1, .int .u8 0, .int .u8 0, .slice none 0 0, .int .i64 0, .slice (some ⟨wb.heap.size + 1, 0, none⟩) 2 2] 31)).alloc (.cells #[.int .i64 500000001] 3)) (.cells #[.int .u8 70, .slice (some ⟨wb.heap.size + 1 + 1 + 1, 0, none⟩) 1 1] 25)
  simp only [World.size_alloc] at hi5 hm5
  have MM5 := Lib.hid (mods_arg1 (c := 70) hm5 (heap_alloc_old hi5 (.cells #[.int .u8 70, .slice (some ⟨wb.heap.size + 1 + 1 + 1, 0, none⟩) 1 1] 25)))
  have U5 : Hid (Below (((wb.alloc (.cells #[.int .i64 0, .slice (some ⟨bb, 0, none⟩) 1 1] 35)).alloc (.cells #[.int .u8 70, .slice (some ⟨wa.heap.size, 0, none⟩) 1 1, .int .u8 70, .slice (some ⟨wb.heap.size, 0, none⟩) 1 1] 33)).alloc (.cells #[.int .u8 70, .int .i64 1, .int .u8 0, .int .u8 0, .slice none 0 0, .int .i64 0, .slice (some ⟨wb.heap.size + 1, 0, none⟩) 2 2] 31)).heap.size (((wb.alloc (.cells #[.int .i64 0, .slice (some ⟨bb, 0, none⟩) 1 1] 35)).alloc (.cells #[.int .u8 70, .slice (some ⟨wa.heap.size, 0, none⟩) 1 1, .int .u8 70, .slice (some ⟨wb.heap.size, 0, none⟩) 1 1] 33)).alloc (.cells #[.int .u8 70, .int .i64 1, .int .u8 0, .int .u8 0, .slice none 0 0, .int .i64 0, .slice (some ⟨wb.heap.size + 1, 0, none⟩) 2 2] 31)) (((((wb.alloc (.cells #[.int .i64 0, .slice (some ⟨bb, 0, none⟩) 1 1] 35)).alloc (.cells #[.int .u8 70, .slice (some ⟨wa.heap.size, 0, none⟩) 1 1, .int .u8 70, .slice (some ⟨wb.heap.size, 0, none⟩) 1 1] 33)).alloc (.cells #[.int .u8 70, .int .i64 1, .int .u8 0, .int .u8 0, .slice none 0 0, .int .i64 0, .slice (some ⟨wb.heap.size + 1, 0, none⟩) 2 2] 31)).alloc (.cells #[.int .i64 500000001] 3)).alloc (.cells #[.int .u8 70, .slice (some ⟨wb.heap.size + 1 + 1 + 1, 0, none⟩) 1 1] 25))) := Lib.hid (((Below.refl _ _).alloc (Nat.le_refl _) _).alloc (by simp only [World.size_alloc]; omega) _)
  clear hi5 hm5 hBa hBb
  generalize (((wb.alloc (.cells #[.int .i64 0, .slice (some ⟨bb, 0, none⟩) 1 1] 35)).alloc (.cells #[.int .u8 70, .slice (some ⟨wa.heap.size, 0, none⟩) 1 1, .int .u8 70, .slice (some ⟨wb.heap.size, 0, none⟩) 1 1] 33)).alloc (.cells #[.int .u8 70, .int .i64 1, .int .u8 0, .int .u8 0, .slice none 0 0, .int .i64 0, .slice (some ⟨wb.heap.size + 1, 0, none⟩) 2 2] 31)) = X3 at DR BX MM5 U5 ⊢
  generalize wb.heap.size + 1 + 1 + 1 = n5 at MM5 U5 ⊢
  generalize wb.heap.size + 1 + 1 = n4 at DR ⊢
  generalize (X3.alloc (.cells #[.int .i64 500000001] 3)).alloc (.cells #[.int .u8 70, .slice (some ⟨n5, 0, none⟩) 1 1] 25) = X5 at MM5 U5 ⊢
  refine (KS.out _ _ _ (DR.out.later U5.out) MM5.out (.inr ⟨_, _, _, rfl⟩)).mono ?_
  rintro e wc ⟨vc, vsc, rfl, hb, hm⟩
  have Cc := Lib.hid (U5.out.trans (hb.mono U5.out.size))
  obtain ⟨pc, cc, rfl⟩ := hm.mods.slice
  clear hb hm MM5 U5
  go_wp2_with fail
  have hi1 := heap_alloc_new wc (.cells #[.int .i64 0] 3)
  have hm1 := heap_alloc_new (wc.alloc (.cells #[.int .i64 0] 3)) (.cells #[.int .u8 70, .slice (some ⟨wc.heap.size, 0, none⟩) 1 1] 25)
  rw [World.size_alloc] at hm1
  have MM1 := Lib.hid (mods_arg1 (c := 70) hm1 (heap_alloc_old hi1 (.cells #[.int .u8 70, .slice (some ⟨wc.heap.size, 0, none⟩) 1 1] 25)))
  have U1 := Lib.hid ((Cc.out.alloc Cc.out.size (.cells #[.int .i64 0] 3)).alloc (by rw [World.size_alloc]; have := Cc.out.size; omega) (.cells #[.int .u8 70, .slice (some ⟨wc.heap.size, 0, none⟩) 1 1] 25))
  clear hi1 hm1
  refine (KR1.out _ _ _ (DR.out.later U1.out) MM1.out (.inr ⟨_, _, _, rfl⟩)).mono ?_
  rintro e wd1 ⟨vd1, vsd1, rfl, hb, hm⟩
  have Cd1 := Lib.hid (U1.out.trans (hb.mono U1.out.size))
  obtain ⟨pd1, cd1, rfl⟩ := hm.mods.slice
  clear hb hm MM1 U1
  go_wp2_with fail
  have hi2 := heap_alloc_new wd1 (.cells #[.int .i64 0] 3)
  have hm2 := heap_alloc_new (wd1.alloc (.cells #[.int .i64 0] 3)) (.cells #[.int .u8 70, .slice (some ⟨wd1.heap.size, 0, none⟩) 1 1] 25)
  rw [World.size_alloc] at hm2
  have MM2 := Lib.hid (mods_arg1 (c := 70) hm2 (heap_alloc_old hi2 (.cells #[.int .u8 70, .slice (some ⟨wd1.heap.size, 0, none⟩) 1 1] 25)))
  have U2 := Lib.hid ((Cd1.out.alloc Cd1.out.size (.cells #[.int .i64 0] 3)).alloc (by rw [World.size_alloc]; have := Cd1.out.size; omega) (.cells #[.int .u8 70, .slice (some ⟨wd1.heap.size, 0, none⟩) 1 1] 25))
  clear hi2 hm2
  refine (KR2.out _ _ _ (DR.out.later U2.out) MM2.out (.inr ⟨_, _, _, rfl⟩)).mono ?_
  rintro e wd2 ⟨vd2, vsd2, rfl, hb, hm⟩
  have Cd2 := Lib.hid (U2.out.trans (hb.mono U2.out.size))
  obtain ⟨pd2, cd2, rfl⟩ := hm.mods.slice
  rw [HLen.out]
  clear hb hm MM2 U2
  go_wp2_with fail
  refine (KR3.out _ _ _ (DR.out.later Cd2.out) (.none _ _) (.inl rfl)).mono ?_
  rintro e we ⟨ve, vse, rfl, hb, hm⟩
  have Ce := Lib.hid (Cd2.out.trans (hb.mono Cd2.out.size))
  obtain ⟨pe, ce, rfl⟩ := hm.mods.slice
  clear hb hm
  go_wp2_with fail
  have MM6 := Lib.hid (mods_lit (c := 93) (heap_alloc_new we (.cells #[.int .u8 93, .slice none 0 0] 25)))
  have U6 := Lib.hid (Ce.out.alloc Ce.out.size (.cells #[.int .u8 93, .slice none 0 0] 25))
  refine (KR4.out _ _ _ (DR.out.later U6.out) MM6.out (.inr ⟨_, _, _, rfl⟩)).mono ?_
  rintro e wf ⟨vf, vsf, rfl, hb, hm⟩
  have Bf := Lib.hid (BX.out.trans ((U6.out.trans (hb.mono U6.out.size)).mono BX.out.size))
  obtain ⟨pf, cf, rfl⟩ := hm.mods.slice
  clear hb hm MM6 U6
  go_wp2_with fail
  refine (KA.out _ (HE.out.later Bf.out)).mono ?_
  rintro e wg ⟨rfl, hb⟩
  have Bg := Lib.hid (Bf.out.trans (hb.mono Bf.out.size))
  clear hb
  go_wp2_with fail
  go_ret
  exact ⟨rfl, Bg.out⟩
end Go.Proofs.YtlmofdmbcddddaaDoor
namespace Go.Proofs.YtlmofdmbcddddaaDoor
open Go.ChangeShapes Go.WideShapes Go.ChangeAt Go.RowKit Go.Joins Go.Deep
open WM
set_option linter.unusedVariables false
set_option linter.unusedSimpArgs false
set_option maxRecDepth 100000

theorem wo_cellsM : Tryd.prog.cellsOf 25 = 2 := by kernel_rfl
theorem wo_cellsU : Tryd.prog.cellsOf 5 = 1 := by kernel_rfl
theorem wo_cellsI : Tryd.prog.cellsOf 3 = 1 := by kernel_rfl
theorem wo_cellsL : Tryd.prog.cellsOf 23 = 1 := by kernel_rfl
theorem wo_fields {fs : Array Field} {l : List (Nat × TypeId)} (h : fs.map (fun f : Field => (f.offset, f.type)) = l.toArray) : ∀ (i o : Nat) (t : TypeId), l[i]? = some (o, t) → ∃ f : Field, fs[i]? = some f ∧ f.offset = o ∧ f.type = t := by
  intro i o t hi
  have : (fs.map (fun f : Field => (f.offset, f.type)))[i]? = some (o, t) := by rw [h]; simpa using hi
  rw [Array.getElem?_map, Option.map_eq_some_iff] at this
  obtain ⟨f, h1, h2⟩ := this
  injection h2 with h2 h3
  exact ⟨f, h1, h2, h3⟩
theorem wo_struct : ∃ fs : Array Field, Tryd.prog.underlying 25 = some (.struct fs) ∧ fs.map (fun f : Field => (f.offset, f.type)) = [(0, 5), (1, 23)].toArray := ⟨_, Tryd.underlying25, by simp⟩
theorem wo_add (b off i : Nat) : (⟨b, off, none⟩ : Addr).add i = ⟨b, off + i, none⟩ := by
  unfold Addr.add; by_cases h : i = 0 <;> simp [h]
section
variable {H : Type} {enc : TypeId × Value → H} {W : World} {base : Nat} {spare : Nat → Bool} {held : Bool}
theorem wo_ints {fuel : Nat} {cs : List Value} {x : DataW H × List MemPlace} (h : DataW.trod enc Tryd.prog W base spare held fuel 23 cs = some x) :
    ∃ (v : Value) (l : List Int), cs = [v] ∧ l.length ≤ 9223372036854775807 ∧ Ints W v l ∧ NilOr v := by
  rcases open_ints Tryd.underlying23 Tryd.underlying3 wo_cellsI h with ⟨hcs, hx⟩ | ⟨a, len, cap, zs, hcs, _, hl, hm, hz, hx, hc, hw⟩
  · exact ⟨_, [], hcs, by simp, .none _ _, .inl rfl⟩
  · refine ⟨_, zs.take len, hcs, ?_, ?_, .inr ⟨_, _, _, rfl⟩⟩
    · unfold maxLen at hm
      rw [List.length_take]; omega
    · have hzl : len ≤ zs.length := by rw [hz]; split <;> omega
      have hll : (zs.take len).length = len := by rw [List.length_take]; omega
      rcases Nat.eq_zero_or_pos len with h0 | hpos
      · subst h0; rw [List.take_zero]; exact .none _ _
      · have hfirst := hc 0 (by omega)
        obtain ⟨b, off, path⟩ := a
        have hp : path = none := by simpa [Addr.add] using World.cell?_spot hfirst
        subst hp
        have hlt : b < W.heap.size := by
          rcases Nat.lt_or_ge b W.heap.size with h | h
          · exact h
          · simp [World.cell?, Addr.add, Array.getElem?_eq_none h] at hfirst
        have := Ints.some (w := W) b off cap (zs.take len) (by omega) hlt (by
          intro i hi
          have e := hc i (by omega)
          rw [wo_add] at e
          rw [e]
          have : i < zs.length := by omega
          simp [List.getD, this])
        rwa [hll] at this
theorem wo_mod {fuel : Nat} {cs : List Value} {x : DataW H × List MemPlace} (h : DataW.trod enc Tryd.prog W base spare held fuel 25 cs = some x) :
    ∃ (m : Md) (v : Value), cs = [.int .u8 m.c.toNat, v] ∧ m.a.length ≤ 9223372036854775807 ∧ Ints W v m.a ∧ NilOr v := by
  obtain ⟨fs, hu, hf⟩ := wo_struct
  obtain ⟨xs, n, rfl, ex, hl, hxl, hx⟩ := DataW.trod_struct hu h
  have F := wo_fields hf
  rw [wo_cellsM] at hl
  obtain ⟨c0, c1, rfl⟩ : ∃ a b, cs = [a, b] := by
    match cs, hl with
    | [a, b], _ => exact ⟨a, b, rfl⟩
  have hsz : fs.size = 2 := by have := congrArg Array.size hf; simpa using this
  have get : ∀ i, i < 2 → ∃ y, xs[i]? = some y := fun i hi => ⟨xs[i]'(by omega), List.getElem?_eq_getElem (by omega)⟩
  have step : ∀ (i o : Nat) (t : TypeId) (y : DataW H × List MemPlace), ([(0, 5), (1, 23)] : List (Nat × TypeId))[i]? = some (o, t) → xs[i]? = some y → DataW.trod enc Tryd.prog W base spare held n t (([c0, c1].drop o).take (Tryd.prog.cellsOf t)) = some y := by
    intro i o t y h1 h2
    obtain ⟨f, h3, rfl, rfl⟩ := F i o t h1
    rw [hx i f h3, h2]
  obtain ⟨y0, g0⟩ := get 0 (by omega)
  obtain ⟨y1, g1⟩ := get 1 (by omega)
  have h0 := step 0 _ _ _ rfl g0
  have h1 := step 1 _ _ _ rfl g1
  rw [wo_cellsU] at h0
  rw [wo_cellsL] at h1
  obtain ⟨k, e0, -, w0⟩ := DataW.trod_int Tryd.underlying5 h0
  simp only [List.drop_zero, List.drop_succ_cons, List.take_succ_cons, List.take_zero, List.cons.injEq, and_true] at e0
  simp only [List.drop_zero, List.drop_succ_cons, List.take_succ_cons, List.take_zero] at h1
  obtain ⟨v, l, e1, h2, h3, h4⟩ := wo_ints h1
  simp only [List.cons.injEq, and_true] at e1
  subst e0 e1
  have u1 : IntKind.u8.min = 0 := by decide
  have u2 : IntKind.u8.max = 255 := by decide
  simp [Lit.wf, u1, u2] at w0
  refine ⟨⟨UInt8.ofNat k.toNat, l⟩, c1, ?_, h2, h3, h4⟩
  have : ((UInt8.ofNat k.toNat).toNat : Int) = k := by rw [UInt8.toNat_ofNat']; omega
  rw [this]
theorem wo_mods {fuel : Nat} {cs : List Value} {x : DataW H × List MemPlace} (h : DataW.trod enc Tryd.prog W base spare held fuel 41 cs = some x) :
    ∃ (v : Value) (l : List Md), cs = [v] ∧ l.length ≤ 9223372036854775807 ∧ (∀ m ∈ l, m.a.length ≤ 9223372036854775807) ∧ Mods W v l ∧ NilOr v := by
  rcases DataW.trod_slice Tryd.underlying41 h with ⟨hcs, -⟩ | ⟨ad, len, cap, elems, rest, n, _, hcs, _, _, hlc, hcm, hel, hx, -⟩
  · exact ⟨_, [], hcs, by simp, by simp, .none _ _, .inl rfl⟩
  · have one : ∀ i, i < len → ∃ p : Md × Value, (∃ b off, ad.add (i * 2) = ⟨b, off, none⟩ ∧ b < W.heap.size ∧ W.cell? ⟨b, off, none⟩ = some (.int .u8 p.1.c.toNat) ∧ W.cell? ⟨b, off + 1, none⟩ = some p.2) ∧ p.1.a.length ≤ 9223372036854775807 ∧ Ints W p.2 p.1.a ∧ NilOr p.2 := by
      intro i hi
      have h1 := hx i hi
      rw [wo_cellsM, List.getElem?_eq_getElem (by omega)] at h1
      obtain ⟨cs', h2, h3⟩ := Option.bind_eq_some_iff.1 h1
      obtain ⟨m, v, rfl, h4, h5, h6⟩ := wo_mod h3
      obtain ⟨_, _, hc⟩ := World.cells?_some h2
      obtain ⟨b, off, path, he⟩ : ∃ b off path, ad.add (i * 2) = ⟨b, off, path⟩ := ⟨_, _, _, rfl⟩
      rw [he] at hc
      have c0 := hc 0 (by omega)
      have hp : path = none := by simpa [Addr.add] using World.cell?_spot c0
      subst hp
      have c1 := hc 1 (by omega)
      have hlt : b < W.heap.size := by
        rcases Nat.lt_or_ge b W.heap.size with h | h
        · exact h
        · simp [World.cell?, Addr.add, Array.getElem?_eq_none h] at c0
      simp [Addr.add] at c0 c1
      exact ⟨(m, v), ⟨b, off, he, hlt, c0, c1⟩, h4, h5, h6⟩
    have : Inhabited (Md × Value) := ⟨(⟨0, []⟩, .slice none 0 0)⟩
    obtain ⟨f, hf⟩ := choose_lt one
    refine ⟨_, (List.range len).map fun i => (f i).1, hcs, ?_, ?_, ?_, .inr ⟨_, _, _, rfl⟩⟩
    · unfold maxLen at hcm
      simp; omega
    · intro m hm
      rw [List.mem_map] at hm
      obtain ⟨i, hi, rfl⟩ := hm
      exact (hf i (by simpa using hi)).2.1
    · rcases Nat.eq_zero_or_pos len with h0 | hpos
      · subst h0; exact .none _ _
      · obtain ⟨⟨b, off, e0, hlt, _⟩, _⟩ := hf 0 hpos
        have ea : ad = ⟨b, off, none⟩ := by simpa [Addr.add] using e0
        subst ea
        have hll : ((List.range len).map fun i => (f i).1).length = len := by simp
        have := Mods.some (w := W) b off cap ((List.range len).map fun i => (f i).1) (by omega) hlt (by
          intro i hi
          rw [hll] at hi
          obtain ⟨⟨b', off', e, _, hc0, hc1⟩, _, g1, g2⟩ := hf i hi
          rw [wo_add] at e
          injection e with e1 e2 _
          subst e1 e2
          simp only [List.getElem_map, List.getElem_range]
          exact ⟨hc0, _, hc1, g1, g2⟩)
        rwa [hll] at this
/-- .. as an argument. -/
theorem modsOpen {v : Value} {d : DataW H} {p : List MemPlace} {a0 : Option Addr} {len cap : Nat} (hv : v = .slice a0 len cap) (h : DataW.Trod enc Tryd.prog W base spare held 41 v d p) :
    ∃ l : List Md, l.length ≤ 9223372036854775807 ∧ (∀ m ∈ l, m.a.length ≤ 9223372036854775807) ∧ Mods W v l ∧ NilOr v := by
  obtain ⟨fuel, hf⟩ := h
  subst hv
  obtain ⟨v', l, e, h1, h2, h3, h4⟩ := wo_mods (by simpa [Value.cells] using hf)
  simp at e
  subst e
  exact ⟨l, h1, h2, h3, h4⟩
end
theorem readableM : Tryd.prog.readableRec 41 = true := by kernel_rfl
theorem smallM : 41 < Tryd.prog.types.size := of_decide_eq_true (by kernel_rfl)
end Go.Proofs.YtlmofdmbcddddaaDoor
namespace Go.Proofs.YtlmofdmbcddddaaDoor
open Go.ChangeShapes Go.WideShapes Go.ChangeAt Go.RowKit Go.Joins Go.Deep
open WM RM
set_option linter.unusedVariables false
set_option linter.unusedSimpArgs false
set_option maxRecDepth 100000

theorem ro_u8 {k : Int} (h : (Lit.int .u8 k).wf = true) : ∃ c : UInt8, k = ((c.toNat : Nat) : Int) := by
  have u1 : IntKind.u8.min = 0 := by decide
  have u2 : IntKind.u8.max = 255 := by decide
  simp [Lit.wf, u1, u2] at h
  exact ⟨UInt8.ofNat k.toNat, by rw [UInt8.toNat_ofNat']; omega⟩
theorem ro_cellsFs : Tryd.prog.cellsOf 29 = 1 := by kernel_rfl
theorem ro_cellsSs : Tryd.prog.cellsOf 28 = 1 := by kernel_rfl
/-- How long a form's, a shape's, a rule's parts may be. -/
def FmOk (f : Fm) : Prop := f.cs.length ≤ 9223372036854775807
def ShOk (s : Sh) : Prop := s.a.length ≤ 9223372036854775807 ∧ ∀ f ∈ s.a, FmOk f
def RwOk (r : Rw) : Prop := r.gs.length ≤ 9223372036854775807 ∧ r.out.length ≤ 9223372036854775807 ∧ (∀ f ∈ r.gs, FmOk f) ∧ ∀ s ∈ r.out, ShOk s
/-- The cells of a form, a shape, a rule. -/
def ro_fmC (W : World) (f : Fm) (cs : List Value) : Prop := ∃ v, cs = [.int .i64 f.k, v] ∧ Ints W v f.cs
def ro_shC (W : World) (s : Sh) (cs : List Value) : Prop := ∃ v, cs = [.int .u8 s.c.toNat, v] ∧ Fms W v s.a
def ro_rwC (W : World) (r : Rw) (cs : List Value) : Prop := ∃ v u, cs = [.int .u8 r.c.toNat, .int .i64 r.ar, .int .u8 r.l.toNat, .int .u8 r.r.toNat, v, .int .i64 r.wt, u] ∧ Fms W v r.gs ∧ Shs W u r.out
theorem ro_fmC_len {W : World} {f : Fm} {cs : List Value} (h : ro_fmC W f cs) : cs.length = 2 := by obtain ⟨v, rfl, _⟩ := h; rfl
theorem ro_shC_len {W : World} {s : Sh} {cs : List Value} (h : ro_shC W s cs) : cs.length = 2 := by obtain ⟨v, rfl, _⟩ := h; rfl
theorem ro_rwC_len {W : World} {r : Rw} {cs : List Value} (h : ro_rwC W r cs) : cs.length = 7 := by obtain ⟨v, u, rfl, _⟩ := h; rfl
theorem ro_fmC_at {W : World} {f : Fm} {cs : List Value} {b o : Nat} (h : ro_fmC W f cs) (hc : ∀ j, j < 2 → W.cell? ⟨b, o + j, none⟩ = cs[j]?) : W.cell? ⟨b, o, none⟩ = some (.int .i64 f.k) ∧ ∃ v, W.cell? ⟨b, o + 1, none⟩ = some v ∧ Ints W v f.cs := by
  obtain ⟨v, rfl, hi⟩ := h
  exact ⟨hc 0 (by omega), v, hc 1 (by omega), hi⟩
theorem ro_shC_at {W : World} {s : Sh} {cs : List Value} {b o : Nat} (h : ro_shC W s cs) (hc : ∀ j, j < 2 → W.cell? ⟨b, o + j, none⟩ = cs[j]?) : W.cell? ⟨b, o, none⟩ = some (.int .u8 s.c.toNat) ∧ ∃ v, W.cell? ⟨b, o + 1, none⟩ = some v ∧ Fms W v s.a := by
  obtain ⟨v, rfl, hi⟩ := h
  exact ⟨hc 0 (by omega), v, hc 1 (by omega), hi⟩
theorem ro_rwC_at {W : World} {r : Rw} {cs : List Value} {b o : Nat} (h : ro_rwC W r cs) (hc : ∀ j, j < 7 → W.cell? ⟨b, o + j, none⟩ = cs[j]?) :
    W.cell? ⟨b, o, none⟩ = some (.int .u8 r.c.toNat) ∧ W.cell? ⟨b, o + 1, none⟩ = some (.int .i64 r.ar) ∧ W.cell? ⟨b, o + 2, none⟩ = some (.int .u8 r.l.toNat) ∧ W.cell? ⟨b, o + 3, none⟩ = some (.int .u8 r.r.toNat) ∧
      W.cell? ⟨b, o + 5, none⟩ = some (.int .i64 r.wt) ∧ (∃ v, W.cell? ⟨b, o + 4, none⟩ = some v ∧ Fms W v r.gs) ∧ (∃ v, W.cell? ⟨b, o + 6, none⟩ = some v ∧ Shs W v r.out) := by
  obtain ⟨v, u, rfl, h1, h2⟩ := h
  exact ⟨hc 0 (by omega), hc 1 (by omega), hc 2 (by omega), hc 3 (by omega), hc 5 (by omega), ⟨v, hc 4 (by omega), h1⟩, u, hc 6 (by omega), h2⟩
theorem ro_fm_struct : ∃ fs : Array Field, Tryd.prog.underlying 35 = some (.struct fs) ∧ fs.map (fun f : Field => (f.offset, f.type)) = [(0, 3), (1, 23)].toArray := ⟨_, Tryd.underlying35, by simp⟩
theorem ro_fm_cells : Tryd.prog.cellsOf 35 = 2 := by kernel_rfl
theorem ro_sh_struct : ∃ fs : Array Field, Tryd.prog.underlying 33 = some (.struct fs) ∧ fs.map (fun f : Field => (f.offset, f.type)) = [(0, 5), (1, 29)].toArray := ⟨_, Tryd.underlying33, by simp⟩
theorem ro_sh_cells : Tryd.prog.cellsOf 33 = 2 := by kernel_rfl
theorem ro_rw_struct : ∃ fs : Array Field, Tryd.prog.underlying 31 = some (.struct fs) ∧ fs.map (fun f : Field => (f.offset, f.type)) = [(0, 5), (1, 3), (2, 5), (3, 5), (4, 29), (5, 3), (6, 28)].toArray := ⟨_, Tryd.underlying31, by simp⟩
theorem ro_rw_cells : Tryd.prog.cellsOf 31 = 7 := by kernel_rfl
section
variable {H : Type} {enc : TypeId × Value → H} {W : World} {base : Nat} {spare : Nat → Bool} {held : Bool}
theorem ro_fm_one {fuel : Nat} {cs : List Value} {x : DataW H × List MemPlace} (h : DataW.trod enc Tryd.prog W base spare held fuel 35 cs = some x) :
    ∃ f : Fm, FmOk f ∧ ro_fmC W f cs := by
  obtain ⟨fs, hu, hf⟩ := ro_fm_struct
  obtain ⟨xs, n, rfl, ex, hl, hxl, hx⟩ := DataW.trod_struct hu h
  have F := wo_fields hf
  rw [ro_fm_cells] at hl
  obtain ⟨c0, c1, rfl⟩ : ∃ c0 c1, cs = [c0, c1] := by
    match cs, hl with
    | [c0, c1], _ => exact ⟨c0, c1, rfl⟩
  have hsz : fs.size = 2 := by have := congrArg Array.size hf; simpa using this
  have get : ∀ i, i < 2 → ∃ y, xs[i]? = some y := fun i hi => ⟨xs[i]'(by omega), List.getElem?_eq_getElem (by omega)⟩
  have step : ∀ (i o : Nat) (t : TypeId) (y : DataW H × List MemPlace), ([(0, 3), (1, 23)] : List (Nat × TypeId))[i]? = some (o, t) → xs[i]? = some y → DataW.trod enc Tryd.prog W base spare held n t (([c0, c1].drop o).take (Tryd.prog.cellsOf t)) = some y := by
    intro i o t y h1 h2
    obtain ⟨f, h3, rfl, rfl⟩ := F i o t h1
    rw [hx i f h3, h2]
  obtain ⟨y0, g0⟩ := get 0 (by omega)
  have h0 := step 0 _ _ _ rfl g0
  rw [wo_cellsI] at h0
  simp only [List.drop_zero, List.drop_succ_cons, List.take_succ_cons, List.take_zero] at h0
  obtain ⟨k0, e0, -, w0⟩ := DataW.trod_int Tryd.underlying3 h0
  simp only [List.cons.injEq, and_true] at e0
  subst e0
  obtain ⟨y1, g1⟩ := get 1 (by omega)
  have h1 := step 1 _ _ _ rfl g1
  rw [wo_cellsL] at h1
  simp only [List.drop_zero, List.drop_succ_cons, List.take_succ_cons, List.take_zero] at h1
  obtain ⟨v1, l1, e1, m1, r1, _⟩ := wo_ints h1
  simp only [List.cons.injEq, and_true] at e1
  subst e1
  exact ⟨⟨k0, l1⟩, m1, _, rfl, r1⟩
theorem ro_forms {fuel : Nat} {cs : List Value} {x : DataW H × List MemPlace} (h : DataW.trod enc Tryd.prog W base spare held fuel 29 cs = some x) :
    ∃ (v : Value) (l : List Fm), cs = [v] ∧ l.length ≤ 9223372036854775807 ∧ (∀ m ∈ l, FmOk m) ∧ Fms W v l := by
  rcases DataW.trod_slice Tryd.underlying29 h with ⟨hcs, -⟩ | ⟨ad, len, cap, elems, rest, n, _, hcs, _, _, hlc, hcm, hel, hx, -⟩
  · exact ⟨_, [], hcs, by simp, by simp, .none _ _⟩
  · have one : ∀ i, i < len → ∃ p : Fm × List Value, (∃ b off, ad.add (i * 2) = ⟨b, off, none⟩ ∧ b < W.heap.size ∧ p.2.length = 2 ∧ ∀ j, j < 2 → W.cell? ⟨b, off + j, none⟩ = p.2[j]?) ∧ FmOk p.1 ∧ ro_fmC W p.1 p.2 := by
      intro i hi
      have h1 := hx i hi
      rw [ro_fm_cells, List.getElem?_eq_getElem (by omega)] at h1
      obtain ⟨cs', h2, h3⟩ := Option.bind_eq_some_iff.1 h1
      obtain ⟨m, h4, h5⟩ := ro_fm_one h3
      obtain ⟨hlen, _, hc⟩ := World.cells?_some h2
      obtain ⟨b, off, path, he⟩ : ∃ b off path, ad.add (i * 2) = ⟨b, off, path⟩ := ⟨_, _, _, rfl⟩
      rw [he] at hc
      have c0 := hc 0 (by omega)
      have hl' := ro_fmC_len h5
      rw [List.getElem?_eq_getElem (by omega)] at c0
      have hp : path = none := by simpa [Addr.add] using World.cell?_spot c0
      subst hp
      have hlt : b < W.heap.size := by
        rcases Nat.lt_or_ge b W.heap.size with h | h
        · exact h
        · simp [World.cell?, Addr.add, Array.getElem?_eq_none h] at c0
      refine ⟨(m, cs'), ⟨b, off, he, hlt, hl', fun j hj => ?_⟩, h4, h5⟩
      have := hc j (by omega)
      rw [wo_add] at this
      exact this
    have : Inhabited (Fm × List Value) := ⟨(⟨0, []⟩, [])⟩
    obtain ⟨f, hf⟩ := choose_lt one
    refine ⟨_, (List.range len).map fun i => (f i).1, hcs, ?_, ?_, ?_⟩
    · unfold maxLen at hcm
      simp; omega
    · intro m hm
      rw [List.mem_map] at hm
      obtain ⟨i, hi, rfl⟩ := hm
      exact (hf i (by simpa using hi)).2.1
    · rcases Nat.eq_zero_or_pos len with h0 | hpos
      · subst h0; exact .none _ _
      · obtain ⟨⟨b, off, e0, hlt, _⟩, _⟩ := hf 0 hpos
        have ea : ad = ⟨b, off, none⟩ := by simpa [Addr.add] using e0
        subst ea
        have hll : ((List.range len).map fun i => (f i).1).length = len := by simp
        have := Fms.some (w := W) b off cap ((List.range len).map fun i => (f i).1) (by omega) hlt (by
          intro i hi
          rw [hll] at hi
          obtain ⟨⟨b', off', e, _, hl', hc⟩, _, hC⟩ := hf i hi
          rw [wo_add] at e
          injection e with e1 e2 _
          subst e1 e2
          simp only [List.getElem_map, List.getElem_range]
          exact ro_fmC_at hC hc)
        rwa [hll] at this
theorem ro_sh_one {fuel : Nat} {cs : List Value} {x : DataW H × List MemPlace} (h : DataW.trod enc Tryd.prog W base spare held fuel 33 cs = some x) :
    ∃ s : Sh, ShOk s ∧ ro_shC W s cs := by
  obtain ⟨fs, hu, hf⟩ := ro_sh_struct
  obtain ⟨xs, n, rfl, ex, hl, hxl, hx⟩ := DataW.trod_struct hu h
  have F := wo_fields hf
  rw [ro_sh_cells] at hl
  obtain ⟨c0, c1, rfl⟩ : ∃ c0 c1, cs = [c0, c1] := by
    match cs, hl with
    | [c0, c1], _ => exact ⟨c0, c1, rfl⟩
  have hsz : fs.size = 2 := by have := congrArg Array.size hf; simpa using this
  have get : ∀ i, i < 2 → ∃ y, xs[i]? = some y := fun i hi => ⟨xs[i]'(by omega), List.getElem?_eq_getElem (by omega)⟩
  have step : ∀ (i o : Nat) (t : TypeId) (y : DataW H × List MemPlace), ([(0, 5), (1, 29)] : List (Nat × TypeId))[i]? = some (o, t) → xs[i]? = some y → DataW.trod enc Tryd.prog W base spare held n t (([c0, c1].drop o).take (Tryd.prog.cellsOf t)) = some y := by
    intro i o t y h1 h2
    obtain ⟨f, h3, rfl, rfl⟩ := F i o t h1
    rw [hx i f h3, h2]
  obtain ⟨y0, g0⟩ := get 0 (by omega)
  have h0 := step 0 _ _ _ rfl g0
  rw [wo_cellsU] at h0
  simp only [List.drop_zero, List.drop_succ_cons, List.take_succ_cons, List.take_zero] at h0
  obtain ⟨k0, e0, -, w0⟩ := DataW.trod_int Tryd.underlying5 h0
  simp only [List.cons.injEq, and_true] at e0
  subst e0
  obtain ⟨b0, rfl⟩ := ro_u8 w0
  obtain ⟨y1, g1⟩ := get 1 (by omega)
  have h1 := step 1 _ _ _ rfl g1
  rw [ro_cellsFs] at h1
  simp only [List.drop_zero, List.drop_succ_cons, List.take_succ_cons, List.take_zero] at h1
  obtain ⟨v1, l1, e1, m1, n1, r1⟩ := ro_forms h1
  simp only [List.cons.injEq, and_true] at e1
  subst e1
  exact ⟨⟨b0, l1⟩, ⟨m1, n1⟩, _, rfl, r1⟩
theorem ro_shapes {fuel : Nat} {cs : List Value} {x : DataW H × List MemPlace} (h : DataW.trod enc Tryd.prog W base spare held fuel 28 cs = some x) :
    ∃ (v : Value) (l : List Sh), cs = [v] ∧ l.length ≤ 9223372036854775807 ∧ (∀ m ∈ l, ShOk m) ∧ Shs W v l := by
  rcases DataW.trod_slice Tryd.underlying28 h with ⟨hcs, -⟩ | ⟨ad, len, cap, elems, rest, n, _, hcs, _, _, hlc, hcm, hel, hx, -⟩
  · exact ⟨_, [], hcs, by simp, by simp, .none _ _⟩
  · have one : ∀ i, i < len → ∃ p : Sh × List Value, (∃ b off, ad.add (i * 2) = ⟨b, off, none⟩ ∧ b < W.heap.size ∧ p.2.length = 2 ∧ ∀ j, j < 2 → W.cell? ⟨b, off + j, none⟩ = p.2[j]?) ∧ ShOk p.1 ∧ ro_shC W p.1 p.2 := by
      intro i hi
      have h1 := hx i hi
      rw [ro_sh_cells, List.getElem?_eq_getElem (by omega)] at h1
      obtain ⟨cs', h2, h3⟩ := Option.bind_eq_some_iff.1 h1
      obtain ⟨m, h4, h5⟩ := ro_sh_one h3
      obtain ⟨hlen, _, hc⟩ := World.cells?_some h2
      obtain ⟨b, off, path, he⟩ : ∃ b off path, ad.add (i * 2) = ⟨b, off, path⟩ := ⟨_, _, _, rfl⟩
      rw [he] at hc
      have c0 := hc 0 (by omega)
      have hl' := ro_shC_len h5
      rw [List.getElem?_eq_getElem (by omega)] at c0
      have hp : path = none := by simpa [Addr.add] using World.cell?_spot c0
      subst hp
      have hlt : b < W.heap.size := by
        rcases Nat.lt_or_ge b W.heap.size with h | h
        · exact h
        · simp [World.cell?, Addr.add, Array.getElem?_eq_none h] at c0
      refine ⟨(m, cs'), ⟨b, off, he, hlt, hl', fun j hj => ?_⟩, h4, h5⟩
      have := hc j (by omega)
      rw [wo_add] at this
      exact this
    have : Inhabited (Sh × List Value) := ⟨(⟨0, []⟩, [])⟩
    obtain ⟨f, hf⟩ := choose_lt one
    refine ⟨_, (List.range len).map fun i => (f i).1, hcs, ?_, ?_, ?_⟩
    · unfold maxLen at hcm
      simp; omega
    · intro m hm
      rw [List.mem_map] at hm
      obtain ⟨i, hi, rfl⟩ := hm
      exact (hf i (by simpa using hi)).2.1
    · rcases Nat.eq_zero_or_pos len with h0 | hpos
      · subst h0; exact .none _ _
      · obtain ⟨⟨b, off, e0, hlt, _⟩, _⟩ := hf 0 hpos
        have ea : ad = ⟨b, off, none⟩ := by simpa [Addr.add] using e0
        subst ea
        have hll : ((List.range len).map fun i => (f i).1).length = len := by simp
        have := Shs.some (w := W) b off cap ((List.range len).map fun i => (f i).1) (by omega) hlt (by
          intro i hi
          rw [hll] at hi
          obtain ⟨⟨b', off', e, _, hl', hc⟩, _, hC⟩ := hf i hi
          rw [wo_add] at e
          injection e with e1 e2 _
          subst e1 e2
          simp only [List.getElem_map, List.getElem_range]
          exact ro_shC_at hC hc)
        rwa [hll] at this
theorem ro_rw_one {fuel : Nat} {cs : List Value} {x : DataW H × List MemPlace} (h : DataW.trod enc Tryd.prog W base spare held fuel 31 cs = some x) :
    ∃ r : Rw, RwOk r ∧ ro_rwC W r cs := by
  obtain ⟨fs, hu, hf⟩ := ro_rw_struct
  obtain ⟨xs, n, rfl, ex, hl, hxl, hx⟩ := DataW.trod_struct hu h
  have F := wo_fields hf
  rw [ro_rw_cells] at hl
  obtain ⟨c0, c1, c2, c3, c4, c5, c6, rfl⟩ : ∃ c0 c1 c2 c3 c4 c5 c6, cs = [c0, c1, c2, c3, c4, c5, c6] := by
    match cs, hl with
    | [c0, c1, c2, c3, c4, c5, c6], _ => exact ⟨c0, c1, c2, c3, c4, c5, c6, rfl⟩
  have hsz : fs.size = 7 := by have := congrArg Array.size hf; simpa using this
  have get : ∀ i, i < 7 → ∃ y, xs[i]? = some y := fun i hi => ⟨xs[i]'(by omega), List.getElem?_eq_getElem (by omega)⟩
  have step : ∀ (i o : Nat) (t : TypeId) (y : DataW H × List MemPlace), ([(0, 5), (1, 3), (2, 5), (3, 5), (4, 29), (5, 3), (6, 28)] : List (Nat × TypeId))[i]? = some (o, t) → xs[i]? = some y → DataW.trod enc Tryd.prog W base spare held n t (([c0, c1, c2, c3, c4, c5, c6].drop o).take (Tryd.prog.cellsOf t)) = some y := by
    intro i o t y h1 h2
    obtain ⟨f, h3, rfl, rfl⟩ := F i o t h1
    rw [hx i f h3, h2]
  obtain ⟨y0, g0⟩ := get 0 (by omega)
  have h0 := step 0 _ _ _ rfl g0
  rw [wo_cellsU] at h0
  simp only [List.drop_zero, List.drop_succ_cons, List.take_succ_cons, List.take_zero] at h0
  obtain ⟨k0, e0, -, w0⟩ := DataW.trod_int Tryd.underlying5 h0
  simp only [List.cons.injEq, and_true] at e0
  subst e0
  obtain ⟨b0, rfl⟩ := ro_u8 w0
  obtain ⟨y1, g1⟩ := get 1 (by omega)
  have h1 := step 1 _ _ _ rfl g1
  rw [wo_cellsI] at h1
  simp only [List.drop_zero, List.drop_succ_cons, List.take_succ_cons, List.take_zero] at h1
  obtain ⟨k1, e1, -, w1⟩ := DataW.trod_int Tryd.underlying3 h1
  simp only [List.cons.injEq, and_true] at e1
  subst e1
  obtain ⟨y2, g2⟩ := get 2 (by omega)
  have h2 := step 2 _ _ _ rfl g2
  rw [wo_cellsU] at h2
  simp only [List.drop_zero, List.drop_succ_cons, List.take_succ_cons, List.take_zero] at h2
  obtain ⟨k2, e2, -, w2⟩ := DataW.trod_int Tryd.underlying5 h2
  simp only [List.cons.injEq, and_true] at e2
  subst e2
  obtain ⟨b2, rfl⟩ := ro_u8 w2
  obtain ⟨y3, g3⟩ := get 3 (by omega)
  have h3 := step 3 _ _ _ rfl g3
  rw [wo_cellsU] at h3
  simp only [List.drop_zero, List.drop_succ_cons, List.take_succ_cons, List.take_zero] at h3
  obtain ⟨k3, e3, -, w3⟩ := DataW.trod_int Tryd.underlying5 h3
  simp only [List.cons.injEq, and_true] at e3
  subst e3
  obtain ⟨b3, rfl⟩ := ro_u8 w3
  obtain ⟨y4, g4⟩ := get 4 (by omega)
  have h4 := step 4 _ _ _ rfl g4
  rw [ro_cellsFs] at h4
  simp only [List.drop_zero, List.drop_succ_cons, List.take_succ_cons, List.take_zero] at h4
  obtain ⟨v4, l4, e4, m4, n4, r4⟩ := ro_forms h4
  simp only [List.cons.injEq, and_true] at e4
  subst e4
  obtain ⟨y5, g5⟩ := get 5 (by omega)
  have h5 := step 5 _ _ _ rfl g5
  rw [wo_cellsI] at h5
  simp only [List.drop_zero, List.drop_succ_cons, List.take_succ_cons, List.take_zero] at h5
  obtain ⟨k5, e5, -, w5⟩ := DataW.trod_int Tryd.underlying3 h5
  simp only [List.cons.injEq, and_true] at e5
  subst e5
  obtain ⟨y6, g6⟩ := get 6 (by omega)
  have h6 := step 6 _ _ _ rfl g6
  rw [ro_cellsSs] at h6
  simp only [List.drop_zero, List.drop_succ_cons, List.take_succ_cons, List.take_zero] at h6
  obtain ⟨v6, l6, e6, m6, n6, r6⟩ := ro_shapes h6
  simp only [List.cons.injEq, and_true] at e6
  subst e6
  exact ⟨⟨b0, k1, b2, b3, l4, k5, l6⟩, ⟨m4, m6, n4, n6⟩, _, _, rfl, r4, r6⟩
theorem ro_rules {fuel : Nat} {cs : List Value} {x : DataW H × List MemPlace} (h : DataW.trod enc Tryd.prog W base spare held fuel 26 cs = some x) :
    ∃ (v : Value) (l : List Rw), cs = [v] ∧ l.length ≤ 9223372036854775807 ∧ (∀ m ∈ l, RwOk m) ∧ Rws W v l := by
  rcases DataW.trod_slice Tryd.underlying26 h with ⟨hcs, -⟩ | ⟨ad, len, cap, elems, rest, n, _, hcs, _, _, hlc, hcm, hel, hx, -⟩
  · exact ⟨_, [], hcs, by simp, by simp, .none _ _⟩
  · have one : ∀ i, i < len → ∃ p : Rw × List Value, (∃ b off, ad.add (i * 7) = ⟨b, off, none⟩ ∧ b < W.heap.size ∧ p.2.length = 7 ∧ ∀ j, j < 7 → W.cell? ⟨b, off + j, none⟩ = p.2[j]?) ∧ RwOk p.1 ∧ ro_rwC W p.1 p.2 := by
      intro i hi
      have h1 := hx i hi
      rw [ro_rw_cells, List.getElem?_eq_getElem (by omega)] at h1
      obtain ⟨cs', h2, h3⟩ := Option.bind_eq_some_iff.1 h1
      obtain ⟨m, h4, h5⟩ := ro_rw_one h3
      obtain ⟨hlen, _, hc⟩ := World.cells?_some h2
      obtain ⟨b, off, path, he⟩ : ∃ b off path, ad.add (i * 7) = ⟨b, off, path⟩ := ⟨_, _, _, rfl⟩
      rw [he] at hc
      have c0 := hc 0 (by omega)
      have hl' := ro_rwC_len h5
      rw [List.getElem?_eq_getElem (by omega)] at c0
      have hp : path = none := by simpa [Addr.add] using World.cell?_spot c0
      subst hp
      have hlt : b < W.heap.size := by
        rcases Nat.lt_or_ge b W.heap.size with h | h
        · exact h
        · simp [World.cell?, Addr.add, Array.getElem?_eq_none h] at c0
      refine ⟨(m, cs'), ⟨b, off, he, hlt, hl', fun j hj => ?_⟩, h4, h5⟩
      have := hc j (by omega)
      rw [wo_add] at this
      exact this
    have : Inhabited (Rw × List Value) := ⟨(⟨0, 0, 0, 0, [], 0, []⟩, [])⟩
    obtain ⟨f, hf⟩ := choose_lt one
    refine ⟨_, (List.range len).map fun i => (f i).1, hcs, ?_, ?_, ?_⟩
    · unfold maxLen at hcm
      simp; omega
    · intro m hm
      rw [List.mem_map] at hm
      obtain ⟨i, hi, rfl⟩ := hm
      exact (hf i (by simpa using hi)).2.1
    · rcases Nat.eq_zero_or_pos len with h0 | hpos
      · subst h0; exact .none _ _
      · obtain ⟨⟨b, off, e0, hlt, _⟩, _⟩ := hf 0 hpos
        have ea : ad = ⟨b, off, none⟩ := by simpa [Addr.add] using e0
        subst ea
        have hll : ((List.range len).map fun i => (f i).1).length = len := by simp
        have := Rws.some (w := W) b off cap ((List.range len).map fun i => (f i).1) (by omega) hlt (by
          intro i hi
          rw [hll] at hi
          obtain ⟨⟨b', off', e, _, hl', hc⟩, _, hC⟩ := hf i hi
          rw [wo_add] at e
          injection e with e1 e2 _
          subst e1 e2
          simp only [List.getElem_map, List.getElem_range]
          exact ro_rwC_at hC hc)
        rwa [hll] at this
/-- .. as an argument. -/
theorem rwsOpen {v : Value} {d : DataW H} {p : List MemPlace} {a0 : Option Addr} {len cap : Nat} (hv : v = .slice a0 len cap) (h : DataW.Trod enc Tryd.prog W base spare held 26 v d p) :
    ∃ l : List Rw, l.length ≤ 9223372036854775807 ∧ (∀ r ∈ l, RwOk r) ∧ Rws W v l := by
  obtain ⟨fuel, hf⟩ := h
  subst hv
  obtain ⟨v', l, e, h1, h2, h3⟩ := ro_rules (by simpa [Value.cells] using hf)
  simp at e
  subst e
  exact ⟨l, h1, h2, h3⟩
end
theorem readableR : Tryd.prog.readableRec 26 = true := by kernel_rfl
theorem smallR : 26 < Tryd.prog.types.size := of_decide_eq_true (by kernel_rfl)
end Go.Proofs.YtlmofdmbcddddaaDoor
namespace Go.Proofs.YtlmofdmbcddddaaDoor
open Go.ChangeShapes Go.WideShapes Go.ChangeAt Go.RowKit Go.Joins Go.Deep
open WM RM
set_option linter.unusedVariables false
set_option linter.unusedSimpArgs false
set_option maxRecDepth 100000
section
variable {H : Type} {enc : TypeId × Value → H} {W : World} {base : Nat} {spare : Nat → Bool} {held : Bool}
theorem intsOpen {v : Value} {d : DataW H} {p : List MemPlace} {a0 : Option Addr} {len cap : Nat} (hv : v = .slice a0 len cap) (h : DataW.Trod enc Tryd.prog W base spare held 23 v d p) :
    ∃ l : List Int, l.length ≤ 9223372036854775807 ∧ Ints W v l := by
  obtain ⟨fuel, hf⟩ := h
  subst hv
  obtain ⟨v', l, e, h1, h2, h3⟩ := wo_ints (by simpa [Value.cells] using hf)
  simp at e
  subst e
  exact ⟨l, h1, h2⟩
theorem formOpen {base' : Nat} {v : Value} {d : DataW H} {p : List MemPlace} (hv : Value.okWide Tryd.prog W .any base' 35 v) (h : DataW.Trod enc Tryd.prog W base spare held 35 v d p) :
    ∃ (f : Fm) (u : Value), v = .agg #[.int .i64 f.k, u] ∧ f.cs.length ≤ 9223372036854775807 ∧ Ints W u f.cs := by
  obtain ⟨fs, hu, _⟩ := ro_fm_struct
  obtain ⟨cs, rfl, hsz⟩ := okWide_struct hu hv
  obtain ⟨fuel, hf⟩ := h
  obtain ⟨f, h1, u, e, h2⟩ := ro_fm_one hf
  refine ⟨f, u, ?_, h1, h2⟩
  have e2 : cs.toList = [.int .i64 f.k, u] := by simpa [Value.cells] using e
  have : cs = #[.int .i64 f.k, u] := by apply Array.ext'; exact e2
  rw [this]
theorem modOpen {base' : Nat} {v : Value} {d : DataW H} {p : List MemPlace} (hv : Value.okWide Tryd.prog W .any base' 25 v) (h : DataW.Trod enc Tryd.prog W base spare held 25 v d p) :
    ∃ (m : Md) (u : Value), v = .agg #[.int .u8 m.c.toNat, u] ∧ m.a.length ≤ 9223372036854775807 ∧ Ints W u m.a ∧ NilOr u := by
  obtain ⟨fs, hu, _⟩ := wo_struct
  obtain ⟨cs, rfl, hsz⟩ := okWide_struct hu hv
  obtain ⟨fuel, hf⟩ := h
  obtain ⟨m, v1, e, m1, r1, n1⟩ := wo_mod hf
  refine ⟨m, v1, ?_, m1, r1, n1⟩
  have e2 : cs.toList = [.int .u8 m.c.toNat, v1] := by simpa [Value.cells] using e
  have : cs = #[.int .u8 m.c.toNat, v1] := by apply Array.ext'; exact e2
  rw [this]
theorem ruleOpen {base' : Nat} {v : Value} {d : DataW H} {p : List MemPlace} (hv : Value.okWide Tryd.prog W .any base' 31 v) (h : DataW.Trod enc Tryd.prog W base spare held 31 v d p) :
    ∃ (r : Rw) (g o : Value), v = .agg #[.int .u8 r.c.toNat, .int .i64 r.ar, .int .u8 r.l.toNat, .int .u8 r.r.toNat, g, .int .i64 r.wt, o] ∧ RwOk r ∧ Fms W g r.gs ∧ Shs W o r.out := by
  obtain ⟨fs, hu, _⟩ := ro_rw_struct
  obtain ⟨cs, rfl, hsz⟩ := okWide_struct hu hv
  obtain ⟨fuel, hf⟩ := h
  obtain ⟨r, h1, g, o, e, h2, h3⟩ := ro_rw_one hf
  refine ⟨r, g, o, ?_, h1, h2, h3⟩
  have e2 : cs.toList = [.int .u8 r.c.toNat, .int .i64 r.ar, .int .u8 r.l.toNat, .int .u8 r.r.toNat, g, .int .i64 r.wt, o] := by simpa [Value.cells] using e
  have : cs = #[.int .u8 r.c.toNat, .int .i64 r.ar, .int .u8 r.l.toNat, .int .u8 r.r.toNat, g, .int .i64 r.wt, o] := by apply Array.ext'; exact e2
  rw [this]
end
theorem readableI : Tryd.prog.readableRec 23 = true := by kernel_rfl
theorem smallI : 23 < Tryd.prog.types.size := of_decide_eq_true (by kernel_rfl)
theorem readableF : Tryd.prog.readableRec 35 = true := by kernel_rfl
theorem smallF : 35 < Tryd.prog.types.size := of_decide_eq_true (by kernel_rfl)
theorem readableD : Tryd.prog.readableRec 25 = true := by kernel_rfl
theorem smallD : 25 < Tryd.prog.types.size := of_decide_eq_true (by kernel_rfl)
theorem readableW : Tryd.prog.readableRec 31 = true := by kernel_rfl
theorem smallW : 31 < Tryd.prog.types.size := of_decide_eq_true (by kernel_rfl)
end Go.Proofs.YtlmofdmbcddddaaDoor
