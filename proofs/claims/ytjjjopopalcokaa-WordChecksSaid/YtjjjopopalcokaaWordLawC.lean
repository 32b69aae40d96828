/-
  The walk of WordChecks.
-/
import Derived.Test.YtjjjopopalcokaaWordLawJ
namespace Go.Proofs.Ytjjjopopalcokaa
open Go.RowKit
open WM
set_option linter.unusedVariables false
set_option linter.unusedSimpArgs false

theorem sL_len {l : List Md} (h : l.length ≤ 2100) : (sL l).length ≤ 2100 := by
  unfold sL; split
  · have := trunk_length l l.length; omega
  · simp
theorem sL_args {l : List Md} (h : ∀ m ∈ l, m.a.length ≤ 10) : ∀ m ∈ sL l, m.a.length ≤ 10 := by
  intro m hm
  unfold sL at hm; split at hm
  · exact h m (trunk_mem l _ (Nat.le_refl _) m hm)
  · simp at hm
set_option maxRecDepth 100000 in
set_option maxHeartbeats 3200000 in
theorem checks_walk (v1 v2 : Value) (a b : List Md) (ha : a.length ≤ 9223372036854775807) (hb0 : b.length ≤ 9223372036854775807) (haa : ∀ m ∈ a, m.a.length ≤ 9223372036854775807) (hbb : ∀ m ∈ b, m.a.length ≤ 9223372036854775807) (i : Int) (c0 : UInt8) (w : World) (i1 : Mods w v1 a) (i2 : Mods w v2 b) (n1 : NilOr v1) (n2 : NilOr v2) :
    Calls Try.prog 3 #[v1, v2, .int .i64 i, .int .u8 c0.toNat] w fun e w' => e = .returned (.bool true) ∧ Below w.heap.size w w' := by
  by_cases hg : greatB a = true
  · have K := Lib.hid (great_any v1 a ha w i1 haa)
    rw [hg] at K
    clear i1 i2 n1 n2 hg
    go_enter Try.func3, Try.ntmps3
    go_wp2_with fail
    refine K.out.mono ?_
    rintro e wx ⟨rfl, rfl⟩
    go_wp2_with fail
    go_ret
    exact ⟨rfl, Below.refl _ _⟩
  have hg : greatB a = false := by simpa using hg
  by_cases hg2 : greatB b = true
  · have K := Lib.hid (great_any v1 a ha w i1 haa)
    rw [hg] at K
    have K2 := Lib.hid (great_any v2 b hb0 w i2 hbb)
    rw [hg2] at K2
    clear i1 i2 n1 n2 hg hg2
    go_enter Try.func3, Try.ntmps3
    go_wp2_with fail
    refine K.out.mono ?_
    rintro e wx ⟨rfl, rfl⟩
    go_wp2_with fail
    refine K2.out.mono ?_
    rintro e wx ⟨rfl, rfl⟩
    go_wp2_with fail
    go_ret
    exact ⟨rfl, Below.refl _ _⟩
  have hg2 : greatB b = false := by simpa using hg2
  obtain ⟨la, laa⟩ := great_no hg
  obtain ⟨lb, lbb⟩ := great_no hg2
  have G1 := Lib.hid (great_any v1 a ha w i1 haa)
  rw [hg] at G1
  have G2 := Lib.hid (great_any v2 b hb0 w i2 hbb)
  rw [hg2] at G2
  have HV1 := Lib.hid i1
  have HV2 := Lib.hid i2
  have KT := Lib.hid (fun w h => twin_any v1 a la laa w h)
  have KC := Lib.hid (fun w h => uclose_any v1 a ha haa i w h)
  have RC := Lib.hid (fun w h => rclose_any v1 a la laa i w h)
  have KD := Lib.hid (fun w h => pdepth_any v1 a ha haa w h)
  have RD := Lib.hid (fun w h => depth_any v1 a la laa w h)
  have KS := Lib.hid (fun w h => ustrip_any v1 a ha haa w h)
  have RS := Lib.hid (fun w h => rstrip_any v1 a la laa w h)
  have KK := Lib.hid (fun w h => pcheck_any v1 a ha haa w h)
  have RK := Lib.hid (fun w h => check_any v1 a la laa w h)
  have KM := Lib.hid (fun w h h' => psame_any v1 v2 a b ha hb0 haa hbb w h h')
  have RM := Lib.hid (fun w h h' => same_any v1 v2 a b ha hb0 haa hbb w h h')
  have KN := Lib.hid (fun w h => pcount_any v1 a c0 ha w h)
  have RN := Lib.hid (fun w h => count_any v1 a c0 ha w h)
  have K6 := Lib.hid (fun x y w h h' => same_yes x y (sL a) (by have := sL_len la; omega) (fun m hm => by have := sL_args laa m hm; omega) w h h')
  have K7 := Lib.hid (fun x y w h h' => same_yes x y a (by omega) haa w h h')
  have K9 := Lib.hid (fun base top v vs w h h' => spoil_any base top v (sL a) vs (by have := sL_len la; omega) (fun m hm => by have := sL_args laa m hm; omega) w h h')
  obtain ⟨k0, hk0⟩ : ∃ c, clV a i = c := ⟨_, rfl⟩
  obtain ⟨k1, hk1⟩ : ∃ c, clC a i = c := ⟨_, rfl⟩
  obtain ⟨k2, hk2⟩ : ∃ c, dpI a = c := ⟨_, rfl⟩
  obtain ⟨k3, hk3⟩ : ∃ c, chk a = c := ⟨_, rfl⟩
  obtain ⟨k4, hk4⟩ : ∃ c, (cntB a c0 : Int) = c := ⟨_, rfl⟩
  obtain ⟨k5, hk5⟩ : ∃ c, decide (a = b) = c := ⟨_, rfl⟩
  rw [hk0, hk1] at KC RC
  rw [hk2, hk3] at KD RD
  rw [hk3] at KK RK
  rw [hk5] at KM RM
  rw [hk4] at KN RN
  have h0 : (k0 != k0) = false := by simp
  have h1 : (k1 != k1) = false := by simp
  have h2 : (k2 != k2) = false := by simp
  have h3 : (k3 != k3) = false := by simp
  have h4 : (k4 != k4) = false := by simp
  have h5 : (k5 != k5) = false := by simp
  clear i1 i2 n1 n2 hg hg2 haa hbb laa lbb hk0 hk1 hk2 hk4 hk5
  go_enter Try.func3, Try.ntmps3
  go_wp2_with fail
  refine (G1.out).mono ?_
  rintro e wx ⟨rfl, rfl⟩
  go_wp2_with fail
  refine (G2.out).mono ?_
  rintro e wx ⟨rfl, rfl⟩
  go_wp2_with fail
  refine (KT.out _ HV1.out).mono ?_
  rintro e w1 ⟨was, vs1, rfl, hb, hm⟩
  have B1 := Lib.hid hb
  have C1 := Lib.hid hb
  have M1 := Lib.hid hm.mods
  clear hm
  clear hb
  go_wp2_with fail
  refine (KC.out _ (HV1.out.later B1.out)).mono ?_
  rintro e w2 ⟨rfl, hb⟩
  have B2 := Lib.hid (B1.out.trans (hb.mono B1.out.size))
  have C2 := Lib.hid hb
  clear hb
  go_wp2_with fail
  refine (RC.out _ (HV1.out.later B2.out)).mono ?_
  rintro e w3 ⟨rfl, hb⟩
  have B3 := Lib.hid (B2.out.trans (hb.mono B2.out.size))
  have C3 := Lib.hid hb
  clear hb
  go_wp2_with fail
  refine (KD.out _ (HV1.out.later B3.out)).mono ?_
  rintro e w4 ⟨rfl, hb⟩
  have B4 := Lib.hid (B3.out.trans (hb.mono B3.out.size))
  have C4 := Lib.hid hb
  clear hb
  go_wp2_with fail
  refine (RD.out _ (HV1.out.later B4.out)).mono ?_
  rintro e w5 ⟨rfl, hb⟩
  have B5 := Lib.hid (B4.out.trans (hb.mono B4.out.size))
  have C5 := Lib.hid hb
  clear hb
  go_wp2_with fail
  refine (KS.out _ (HV1.out.later B5.out)).mono ?_
  rintro e w6 ⟨s, vs6, rfl, hb, hm⟩
  have B6 := Lib.hid (B5.out.trans (hb.mono B5.out.size))
  have C6 := Lib.hid hb
  have S6 := Lib.hid hm
  clear hm
  rw [hk3]
  clear hb
  go_wp2_with fail
  refine (RS.out _ (HV1.out.later B6.out)).mono ?_
  rintro e w7 ⟨t, rfl, hb, hm⟩
  have B7 := Lib.hid (B6.out.trans (hb.mono B6.out.size))
  have C7 := Lib.hid hb
  have T7 := Lib.hid hm
  clear hm
  rw [hk3]
  clear hb
  go_wp2_with fail
  refine (KK.out _ (HV1.out.later B7.out)).mono ?_
  rintro e w8 ⟨rfl, hb⟩
  have B8 := Lib.hid (B7.out.trans (hb.mono B7.out.size))
  have C8 := Lib.hid hb
  clear hb
  go_wp2_with fail
  refine (RK.out _ (HV1.out.later B8.out)).mono ?_
  rintro e w9 ⟨rfl, hb⟩
  have B9 := Lib.hid (B8.out.trans (hb.mono B8.out.size))
  have C9 := Lib.hid hb
  clear hb
  go_wp2_with fail
  refine (KM.out _ (HV1.out.later B9.out) (HV2.out.later B9.out)).mono ?_
  rintro e w10 ⟨rfl, hb⟩
  have B10 := Lib.hid (B9.out.trans (hb.mono B9.out.size))
  have C10 := Lib.hid hb
  clear hb
  go_wp2_with fail
  refine (RM.out _ (HV1.out.later B10.out) (HV2.out.later B10.out)).mono ?_
  rintro e w11 ⟨rfl, hb⟩
  have B11 := Lib.hid (B10.out.trans (hb.mono B10.out.size))
  have C11 := Lib.hid hb
  clear hb
  go_wp2_with fail
  refine (KN.out _ (HV1.out.later B11.out)).mono ?_
  rintro e wx ⟨rfl, rfl⟩
  go_wp2_with fail
  refine (RN.out _ (HV1.out.later B11.out)).mono ?_
  rintro e wx ⟨rfl, rfl⟩
  have D11 : Hid (Below w7.heap.size w7 w11) := Lib.hid (C8.out.trans ((C9.out.trans ((C10.out.trans (C11.out.mono C10.out.size)).mono C9.out.size)).mono C8.out.size))
  have S11 := Lib.hid ((S6.out.later C7.out).later D11.out)
  go_wp2_with fail
  refine (K6.out _ _ _ S11.out.mods (T7.out.later D11.out)).mono ?_
  rintro e w12 ⟨rfl, hb⟩
  have B12 := Lib.hid (B11.out.trans (hb.mono B11.out.size))
  have C12 := Lib.hid hb
  clear hb
  have S12 := Lib.hid (S11.out.later C12.out)
  have E5 : Hid (Below w1.heap.size w1 w5) := Lib.hid (C2.out.trans ((C3.out.trans ((C4.out.trans (C5.out.mono C4.out.size)).mono C3.out.size)).mono C2.out.size))
  have E12 : Hid (Below w5.heap.size w5 w12) := Lib.hid (C6.out.trans ((C7.out.trans ((D11.out.trans (C12.out.mono D11.out.size)).mono C7.out.size)).mono C6.out.size))
  go_wp2_with fail
  refine (K9.out w5.heap.size w6.heap.size _ _ _ S12.out S6.out.isIn).mono ?_
  rintro e w13 ⟨rfl, hb, hf⟩
  have E13 := Lib.hid (E12.out.trans hb)
  have B13 := Lib.hid (B5.out.trans (E13.out.mono B5.out.size))
  have N1 := Lib.hid ((M1.out.later E5.out).later E13.out)
  clear hb hf
  go_wp2_with fail
  refine (K7.out _ _ _ (HV1.out.later B13.out) N1.out).mono ?_
  rintro e w14 ⟨rfl, hb⟩
  have B14 := Lib.hid (B13.out.trans (hb.mono B13.out.size))
  have C14 := Lib.hid hb
  clear hb
  go_wp2_with fail
  go_ret
  exact ⟨rfl, B14.out⟩
end Go.Proofs.Ytjjjopopalcokaa
