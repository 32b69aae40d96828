/-
  The walk of WordTrunks.
-/
import Derived.Test.YtjjjopopalcokaaDoorWordLawB
import Derived.Test.YtjjjopopalcokaaDoorWordTrM
namespace Go.Proofs.YtjjjopopalcokaaDoor
open Go.RowKit
open WM
set_option linter.unusedVariables false
set_option linter.unusedSimpArgs false

set_option maxRecDepth 100000 in
set_option maxHeartbeats 3200000 in
theorem trunks_walk (v1 v2 : Value) (a b : List Md) (ha : a.length ≤ 9223372036854775807) (hb0 : b.length ≤ 9223372036854775807) (haa : ∀ m ∈ a, m.a.length ≤ 9223372036854775807) (hbb : ∀ m ∈ b, m.a.length ≤ 9223372036854775807) (c0 : UInt8) (w : World) (i1 : Mods w v1 a) (i2 : Mods w v2 b) (n1 : NilOr v1) (n2 : NilOr v2) (he : Env w) :
    Calls Tryd.prog 7 #[v1, v2, .int .u8 c0.toNat] w fun e w' => e = .returned (.bool true) ∧ Below w.heap.size w w' := by
  obtain ⟨p1, cap1, rfl⟩ := i1.slice
  obtain ⟨p2, cap2, rfl⟩ := i2.slice
  have HV1 := Lib.hid i1
  have HV2 := Lib.hid i2
  have HE := Lib.hid he
  have V1 := Lib.hid (fun w h => lawvalid_any (.slice p1 a.length cap1) a ha haa w h)
  have V2 := Lib.hid (fun w h => lawvalid_any (.slice p2 b.length cap2) b hb0 hbb w h)
  have KA := Lib.hid alive_any
  cases hva : validB a with
  | false =>
    rw [hva] at V1
    clear i1 i2 n1 n2 he hva haa hbb
    go_enter Tryd.func7, Tryd.ntmps7
    go_wp2_with fail
    refine (V1.out _ HV1.out).mono ?_
    rintro e w1 ⟨rfl, hb⟩
    have B1 := Lib.hid hb
    have C1 := Lib.hid hb
    clear hb
    go_wp2_with fail
    refine (KA.out _ (HE.out.later B1.out)).mono ?_
    rintro e w2 ⟨rfl, hb⟩
    have B2 := Lib.hid (B1.out.trans (hb.mono B1.out.size))
    have C2 := Lib.hid hb
    clear hb
    go_wp2_with fail
    go_ret
    exact ⟨rfl, B2.out⟩
  | true =>
    cases hvb : validB b with
    | false =>
      rw [hva] at V1
      rw [hvb] at V2
      clear i1 i2 n1 n2 he hva hvb haa hbb
      go_enter Tryd.func7, Tryd.ntmps7
      go_wp2_with fail
      refine (V1.out _ HV1.out).mono ?_
      rintro e w1 ⟨rfl, hb⟩
      have B1 := Lib.hid hb
      have C1 := Lib.hid hb
      clear hb
      go_wp2_with fail
      refine (V2.out _ (HV2.out.later B1.out)).mono ?_
      rintro e w2 ⟨rfl, hb⟩
      have B2 := Lib.hid (B1.out.trans (hb.mono B1.out.size))
      have C2 := Lib.hid hb
      clear hb
      go_wp2_with fail
      refine (KA.out _ (HE.out.later B2.out)).mono ?_
      rintro e w3 ⟨rfl, hb⟩
      have B3 := Lib.hid (B2.out.trans (hb.mono B2.out.size))
      have C3 := Lib.hid hb
      clear hb
      go_wp2_with fail
      go_ret
      exact ⟨rfl, B3.out⟩
    | true =>
      obtain ⟨ga, h1⟩ := validB_yes hva
      obtain ⟨gb, h2⟩ := validB_yes hvb
      obtain ⟨la, laa⟩ := great_no ga
      obtain ⟨lb, lbb⟩ := great_no gb
      have la2 : a.length ≤ 2000 := (chk_zero.1 h1).1
      have lb2 : b.length ≤ 2000 := (chk_zero.1 h2).1
      rw [hva] at V1
      rw [hvb] at V2
      have KJ := Lib.hid (fun w h h' => ujoin_any (.slice p1 a.length cap1) (.slice p2 b.length cap2) a b (by omega) (by omega) (fun m hm => by have := laa m hm; omega) (fun m hm => by have := lbb m hm; omega) n1 n2 w h h')
      unfold UJnEnd at KJ
      by_cases h3 : 2000 < a.length + b.length
      · rw [jC_3 h1 h2 h3] at KJ
        have c1 : (2000 : Int) < (a.length : Int) + (b.length : Int) := by omega
        clear i1 i2 n1 n2 he hva hvb haa hbb ga gb laa lbb h1 h2
        go_enter Tryd.func7, Tryd.ntmps7
        go_wp2_with fail
        refine (V1.out _ HV1.out).mono ?_
        rintro e w1 ⟨rfl, hb⟩
        have B1 := Lib.hid hb
        have C1 := Lib.hid hb
        clear hb
        go_wp2_with fail
        refine (V2.out _ (HV2.out.later B1.out)).mono ?_
        rintro e w2 ⟨rfl, hb⟩
        have B2 := Lib.hid (B1.out.trans (hb.mono B1.out.size))
        have C2 := Lib.hid hb
        clear hb
        go_wp2_with fail
        refine (KJ.out _ (HV1.out.later B2.out) (HV2.out.later B2.out)).mono ?_
        rintro e w3 ⟨x, vs, rfl, hb, hm⟩
        have B3 := Lib.hid (B2.out.trans (hb.mono B2.out.size))
        have C3 := Lib.hid hb
        clear hm
        clear hb
        go_wp2_with fail
        refine (KA.out _ (HE.out.later B3.out)).mono ?_
        rintro e w4 ⟨rfl, hb⟩
        have B4 := Lib.hid (B3.out.trans (hb.mono B3.out.size))
        have C4 := Lib.hid hb
        clear hb
        go_wp2_with fail
        go_ret
        exact ⟨rfl, B4.out⟩
      · have h4 : a.length + b.length ≤ 2000 := by omega
        rw [jL_yes (jC_4 h1 h2 h3), jC_4 h1 h2 h3] at KJ
        have hc := app_chk h1 h2 h4
        have hs := app_sL h1 h2 h4
        have hd := app_dp h1 h2 h4
        have g1 := sL_chk h1
        have g2 := sL_chk h2
        have gl : (sL a).length + (sL b).length ≤ 2000 := by
          have := @sL_le a
          have := @sL_le b
          omega
        have hargs : ∀ m ∈ a ++ b, m.a.length ≤ 9223372036854775807 := fun m hm => by
          rcases List.mem_append.1 hm with h | h
          · exact haa m h
          · exact hbb m h
        have hargs2 : ∀ m ∈ sL a ++ sL b, m.a.length ≤ 10 := fun m hm => by
          rcases List.mem_append.1 hm with h | h
          · exact laa m (sL_sub h1 m h)
          · exact lbb m (sL_sub h2 m h)
        have hargs3 : ∀ m ∈ sL a ++ sL b, m.a.length ≤ 9223372036854775807 := fun m hm => by have := hargs2 m hm; omega
        have KS1 := Lib.hid (fun w h => ustrip_any (.slice p1 a.length cap1) a ha haa w h)
        have KS2 := Lib.hid (fun w h => ustrip_any (.slice p2 b.length cap2) b hb0 hbb w h)
        have KS3 := Lib.hid (fun x w h => ustrip_any x (a ++ b) (by simp; omega) hargs w h)
        have KS4 := Lib.hid (fun x w h => ustrip_any x (sL a ++ sL b) (by simp; omega) hargs3 w h)
        unfold UStEnd at KS1 KS2 KS3 KS4
        rw [h1] at KS1
        rw [h2] at KS2
        rw [hc, hs] at KS3
        have hc2 : chk (sL a ++ sL b) = 0 := app_chk g1 g2 gl
        have hs2 : sL (sL a ++ sL b) = sL a ++ sL b := by rw [← hs, sL_sL hc]
        rw [hc2, hs2] at KS4
        have KJ2 := Lib.hid (fun x y nx ny w h h' => ujoin_any x y (sL a) (sL b) (by omega) (by omega) (fun m hm => by have := hargs2 m (List.mem_append_left _ hm); omega) (fun m hm => by have := hargs2 m (List.mem_append_right _ hm); omega) nx ny w h h')
        unfold UJnEnd at KJ2
        have j0 := jC_4 g1 g2 (show ¬ 2000 < (sL a).length + (sL b).length by omega)
        rw [jL_yes j0, j0] at KJ2
        have KD1 := Lib.hid (fun w h => pdepth_any (.slice p1 a.length cap1) a ha haa w h)
        have KD2 := Lib.hid (fun w h => pdepth_any (.slice p2 b.length cap2) b hb0 hbb w h)
        have KD3 := Lib.hid (fun x w h => pdepth_any x (a ++ b) (by simp; omega) hargs w h)
        have KD4 := Lib.hid (fun x w h => pdepth_any x (sL a ++ sL b) (by simp; omega) hargs3 w h)
        have hfl : flat (sL a ++ sL b) := by rw [← hs]; exact sL_flat hc
        rw [h1] at KD1
        rw [h2] at KD2
        rw [hc, hd] at KD3
        rw [hc2, flat_dp hfl] at KD4
        have KM := Lib.hid (fun x y w h h' => psame_yes x y (sL a ++ sL b) (by simp; omega) hargs3 w h h')
        have KN1 := Lib.hid (fun w h => pcount_any (.slice p1 a.length cap1) a c0 ha w h)
        have KN2 := Lib.hid (fun w h => pcount_any (.slice p2 b.length cap2) b c0 hb0 w h)
        have KN3 := Lib.hid (fun x w h => pcount_any x (a ++ b) c0 (by simp; omega) w h)
        rw [cntB_app] at KN3
        have nb1 : cntB a c0 ≤ 2000 := Nat.le_trans List.countP_le_length la2
        have nb2 : cntB b c0 ≤ 2000 := Nat.le_trans List.countP_le_length lb2
        obtain ⟨d1, hd1⟩ : ∃ d, dpI a = d := ⟨_, rfl⟩
        obtain ⟨d2, hd2⟩ : ∃ d, dpI b = d := ⟨_, rfl⟩
        rw [hd1] at KD1 KD3
        rw [hd2] at KD2 KD3
        generalize cntB a c0 = m1 at KN1 KN3 nb1
        generalize cntB b c0 = m2 at KN2 KN3 nb2
        clear i1 i2 n1 n2 he hva hvb haa hbb ga gb laa lbb h1 h2 h3 hc hs hd g1 g2 gl hargs hargs2 hargs3 hc2 hs2 j0 hfl hd1 hd2 h4
        generalize sL a ++ sL b = R at *
        generalize sL a = P at *
        generalize sL b = Q at *
        generalize a ++ b = AB at *
        go_enter Tryd.func7, Tryd.ntmps7
        go_wp2_with fail
        refine (V1.out _ HV1.out).mono ?_
        rintro e w1 ⟨rfl, hb⟩
        have B1 := Lib.hid hb
        have C1 := Lib.hid hb
        clear hb
        go_wp2_with fail
        refine (V2.out _ (HV2.out.later B1.out)).mono ?_
        rintro e w2 ⟨rfl, hb⟩
        have B2 := Lib.hid (B1.out.trans (hb.mono B1.out.size))
        have C2 := Lib.hid hb
        clear hb
        go_wp2_with fail
        refine (KJ.out _ (HV1.out.later B2.out) (HV2.out.later B2.out)).mono ?_
        rintro e w3 ⟨x, vx, rfl, hb, hm⟩
        have B3 := Lib.hid (B2.out.trans (hb.mono B2.out.size))
        have C3 := Lib.hid hb
        have X3 := Lib.hid hm.mods
        clear hm
        clear hb
        go_wp2_with fail
        refine (KS1.out _ (HV1.out.later B3.out)).mono ?_
        rintro e w4 ⟨p, vp, rfl, hb, hm⟩
        have B4 := Lib.hid (B3.out.trans (hb.mono B3.out.size))
        have C4 := Lib.hid hb
        have P4 := Lib.hid hm
        clear hm
        clear hb
        go_wp2_with fail
        refine (KS2.out _ (HV2.out.later B4.out)).mono ?_
        rintro e w5 ⟨q, vq, rfl, hb, hm⟩
        have B5 := Lib.hid (B4.out.trans (hb.mono B4.out.size))
        have C5 := Lib.hid hb
        have Q5 := Lib.hid hm
        clear hm
        clear hb
        have X5 := Lib.hid ((X3.out.later C4.out).later C5.out)
        go_wp2_with fail
        refine (KS3.out _ _ X5.out).mono ?_
        rintro e w6 ⟨r, vr, rfl, hb, hm⟩
        have B6 := Lib.hid (B5.out.trans (hb.mono B5.out.size))
        have C6 := Lib.hid hb
        have R6 := Lib.hid hm.mods
        clear hm
        clear hb
        have P6 := Lib.hid ((P4.out.later C5.out).later C6.out)
        have Q6 := Lib.hid (Q5.out.later C6.out)
        go_wp2_with fail
        refine (KJ2.out _ _ P6.out.nilOr Q6.out.nilOr _ P6.out.mods Q6.out.mods).mono ?_
        rintro e w7 ⟨s, vs, rfl, hb, hm⟩
        have B7 := Lib.hid (B6.out.trans (hb.mono B6.out.size))
        have C7 := Lib.hid hb
        have S7 := Lib.hid hm.mods
        clear hm
        clear hb
        go_wp2_with fail
        refine (KD1.out _ (HV1.out.later B7.out)).mono ?_
        rintro e w8 ⟨rfl, hb⟩
        have B8 := Lib.hid (B7.out.trans (hb.mono B7.out.size))
        have C8 := Lib.hid hb
        clear hb
        go_wp2_with fail
        refine (KD2.out _ (HV2.out.later B8.out)).mono ?_
        rintro e w9 ⟨rfl, hb⟩
        have B9 := Lib.hid (B8.out.trans (hb.mono B8.out.size))
        have C9 := Lib.hid hb
        clear hb
        have X9 := Lib.hid ((((X5.out.later C6.out).later C7.out).later C8.out).later C9.out)
        go_wp2_with fail
        refine (KD3.out _ _ X9.out).mono ?_
        rintro e w10 ⟨rfl, hb⟩
        have B10 := Lib.hid (B9.out.trans (hb.mono B9.out.size))
        have C10 := Lib.hid hb
        clear hb
        have R10 := Lib.hid ((((R6.out.later C7.out).later C8.out).later C9.out).later C10.out)
        go_wp2_with fail
        refine (KD4.out _ _ R10.out).mono ?_
        rintro e w11 ⟨rfl, hb⟩
        have B11 := Lib.hid (B10.out.trans (hb.mono B10.out.size))
        have C11 := Lib.hid hb
        clear hb
        have R11 := Lib.hid (R10.out.later C11.out)
        go_wp2_with fail
        refine (KS4.out _ _ R11.out).mono ?_
        rintro e w12 ⟨again, va, rfl, hb, hm⟩
        have B12 := Lib.hid (B11.out.trans (hb.mono B11.out.size))
        have C12 := Lib.hid hb
        have A12 := Lib.hid hm.mods
        clear hm
        clear hb
        have R12 := Lib.hid (R11.out.later C12.out)
        have S12 := Lib.hid (((((S7.out.later C8.out).later C9.out).later C10.out).later C11.out).later C12.out)
        go_wp2_with fail
        refine (KM.out _ _ _ R12.out S12.out).mono ?_
        rintro e w13 ⟨rfl, hb⟩
        have B13 := Lib.hid (B12.out.trans (hb.mono B12.out.size))
        have C13 := Lib.hid hb
        clear hb
        go_wp2_with fail
        refine (KM.out _ _ _ (A12.out.later C13.out) (R12.out.later C13.out)).mono ?_
        rintro e w14 ⟨rfl, hb⟩
        have B14 := Lib.hid (B13.out.trans (hb.mono B13.out.size))
        have C14 := Lib.hid hb
        clear hb
        have X14 := Lib.hid (((((X9.out.later C10.out).later C11.out).later C12.out).later C13.out).later C14.out)
        go_wp2_with fail
        refine (KN3.out _ _ X14.out).mono ?_
        rintro e wx ⟨rfl, rfl⟩
        go_wp2_with fail
        refine (KN1.out _ (HV1.out.later B14.out)).mono ?_
        rintro e wx ⟨rfl, rfl⟩
        go_wp2_with fail
        refine (KN2.out _ (HV2.out.later B14.out)).mono ?_
        rintro e wx ⟨rfl, rfl⟩
        go_wp2_with fail
        refine (KA.out _ (HE.out.later B14.out)).mono ?_
        rintro e w15 ⟨rfl, hb⟩
        have B15 := Lib.hid (B14.out.trans (hb.mono B14.out.size))
        have C15 := Lib.hid hb
        clear hb
        go_wp2_with fail
        go_ret
        exact ⟨rfl, B15.out⟩
end Go.Proofs.YtjjjopopalcokaaDoor
