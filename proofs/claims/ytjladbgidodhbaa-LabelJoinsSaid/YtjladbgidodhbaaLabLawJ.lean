/-
  LabelJoins, walked.
-/
import Derived.Test.YtjladbgidodhbaaLabAlive
namespace Go.Proofs.Ytjladbgidodhbaa
open Go.RowKit Go.Shelf
open LM
set_option linter.unusedVariables false
set_option linter.unusedSimpArgs false
attribute [local go_sem] Oper.semAt_some

theorem join_fact {p s : Bs} (hp : chk p = 0) (h : joiE p s = 0) : stepB s = true ∧ chk (joiS p s) = 0 ∧ cutL (joiS p s) = cutL p ++ [s] := by
  have hs : joiS p s = pathL (cutL p ++ [s]) := by rw [joiS, if_pos h]
  rw [joiE, if_pos hp] at h
  by_cases h2 : stepB s = true
  · rw [if_pos h2] at h
    refine ⟨h2, by rw [hs]; exact h, ?_⟩
    rw [hs]
    refine cutL_pathL (fun x hx => ?_)
    rw [List.mem_append, List.mem_singleton] at hx
    rcases hx with hx | rfl
    · exact cut_steps hp x hx
    · exact ⟨step_no h2, step_ne h2⟩
  · rw [if_neg h2] at h; exact absurd h (by decide)
theorem join_errs {p s : Bs} (hp : chk p = 0) (h : joiE p s ≠ 0) : joiE p s = 12 ∨ joiE p s = 4 := by
  rw [joiE, if_pos hp] at h ⊢
  by_cases h2 : stepB s = true
  · rw [if_pos h2] at h ⊢
    rcases chk_vals (pathL (cutL p ++ [s])) with h3 | h3 | h3
    · exact absurd h3 h
    · exact .inr h3
    · exact .inl h3
  · rw [if_neg h2]; exact .inl rfl
set_option maxRecDepth 100000
set_option maxHeartbeats 2000000 in
theorem joins_not (p s : ByteArray) (hf : fitB (lA p) (lA ByteArray.empty) = false) (w : World) (hl : Len w) : Calls Try.prog 6 #[.string p, .string s] w fun e w' => e = .returned (.bool true) ∧ Below w.heap.size w w' := by
  have KF := Lib.hid (fun w => fit_any p ByteArray.empty false hf w)
  have B0 := Lib.hid (Below.refl w.heap.size w)
  have L_0 := Lib.hid hl
  clear hl hf
  go_enter Try.func6, Try.ntmps6
  go_wp2_with fail
  refine (alive_any _ L_0.out).mono ?_
  rintro e w1 ⟨rfl, hb⟩
  have B1 := Lib.hid (B0.out.trans (hb.mono B0.out.size))
  have L_1 := Lib.hid (L_0.out.later hb)
  clear hb B0 L_0
  go_wp2_with fail
  refine (KF.out _).mono ?_
  rintro e w2 ⟨rfl, hb⟩
  have B2 := Lib.hid (B1.out.trans (hb.mono B1.out.size))
  have L_2 := Lib.hid (L_1.out.later hb)
  clear hb B1 L_1
  go_wp2_with fail
  go_ret
  exact ⟨rfl, B2.out⟩
set_option maxHeartbeats 2000000 in
theorem joins_long (p s : ByteArray) (hf : fitB (lA p) (lA ByteArray.empty) = true) (hs : 5000 < s.size) (w : World) (hl : Len w) : Calls Try.prog 6 #[.string p, .string s] w fun e w' => e = .returned (.bool true) ∧ Below w.heap.size w w' := by
  have KF := Lib.hid (fun w => fit_any p ByteArray.empty true hf w)
  have B0 := Lib.hid (Below.refl w.heap.size w)
  have L_0 := Lib.hid hl
  have h1 : (5000 : Int) < s.size := by omega
  have h2 : decide ((5000 : Int) < s.size) = true := decide_eq_true h1
  clear hl hf
  go_enter Try.func6, Try.ntmps6
  go_wp2_with fail
  refine (alive_any _ L_0.out).mono ?_
  rintro e w1 ⟨rfl, hb⟩
  have B1 := Lib.hid (B0.out.trans (hb.mono B0.out.size))
  have L_1 := Lib.hid (L_0.out.later hb)
  clear hb B0 L_0
  go_wp2_with fail
  refine (KF.out _).mono ?_
  rintro e w2 ⟨rfl, hb⟩
  have B2 := Lib.hid (B1.out.trans (hb.mono B1.out.size))
  have L_2 := Lib.hid (L_1.out.later hb)
  clear hb B1 L_1
  go_wp2_with fail
  go_ret
  exact ⟨rfl, B2.out⟩
set_option maxHeartbeats 2000000 in
theorem joins_err (p s js : ByteArray) (je : Int) (hf : fitB (lA p) (lA ByteArray.empty) = true) (hs : ¬ 5000 < s.size) (h0 : je ≠ 0) (hv : je = 12 ∨ je = 4)
    (h1 : ∀ w, Len w → Calls Try.prog 22 #[.string p, .string s] w fun e w' => e = .returned (.tuple #[.string js, .int .i64 je]) ∧ Below w.heap.size w w') (w : World) (hl : Len w) : Calls Try.prog 6 #[.string p, .string s] w fun e w' => e = .returned (.bool true) ∧ Below w.heap.size w w' := by
  have KF := Lib.hid (fun w => fit_any p ByteArray.empty true hf w)
  have K1 := Lib.hid h1
  have B0 := Lib.hid (Below.refl w.heap.size w)
  have L_0 := Lib.hid hl
  have z1 : ¬ (5000 : Int) < s.size := by omega
  have z2 : decide ((5000 : Int) < s.size) = false := by rw [decide_eq_false_iff_not]; omega
  clear hl hf h1 h0
  rcases hv with rfl | rfl
  · go_enter Try.func6, Try.ntmps6
    go_wp2_with fail
    refine (alive_any _ L_0.out).mono ?_
    rintro e w1 ⟨rfl, hb⟩
    have B1 := Lib.hid (B0.out.trans (hb.mono B0.out.size))
    have L_1 := Lib.hid (L_0.out.later hb)
    clear hb B0 L_0
    go_wp2_with fail
    refine (KF.out _).mono ?_
    rintro e w2 ⟨rfl, hb⟩
    have B2 := Lib.hid (B1.out.trans (hb.mono B1.out.size))
    have L_2 := Lib.hid (L_1.out.later hb)
    clear hb B1 L_1
    go_wp2_with fail
    refine (K1.out _ L_2.out).mono ?_
    rintro e w3 ⟨rfl, hb⟩
    have B3 := Lib.hid (B2.out.trans (hb.mono B2.out.size))
    have L_3 := Lib.hid (L_2.out.later hb)
    clear hb B2 L_2
    go_wp2_with fail
    go_ret
    exact ⟨rfl, B3.out⟩
  · go_enter Try.func6, Try.ntmps6
    go_wp2_with fail
    refine (alive_any _ L_0.out).mono ?_
    rintro e w1 ⟨rfl, hb⟩
    have B1 := Lib.hid (B0.out.trans (hb.mono B0.out.size))
    have L_1 := Lib.hid (L_0.out.later hb)
    clear hb B0 L_0
    go_wp2_with fail
    refine (KF.out _).mono ?_
    rintro e w2 ⟨rfl, hb⟩
    have B2 := Lib.hid (B1.out.trans (hb.mono B1.out.size))
    have L_2 := Lib.hid (L_1.out.later hb)
    clear hb B1 L_1
    go_wp2_with fail
    refine (K1.out _ L_2.out).mono ?_
    rintro e w3 ⟨rfl, hb⟩
    have B3 := Lib.hid (B2.out.trans (hb.mono B2.out.size))
    have L_3 := Lib.hid (L_2.out.later hb)
    clear hb B2 L_2
    go_wp2_with fail
    go_ret
    exact ⟨rfl, B3.out⟩
set_option maxHeartbeats 4000000 in
theorem joins_main (p s js : ByteArray) (m : Nat) (hf : fitB (lA p) (lA ByteArray.empty) = true) (hs : ¬ 5000 < s.size) (xs ys : List Bs) (hx1 : xs.length = m + 1) (hx2 : ∀ h : m < xs.length, sV xs[m] = .string s) (hm : m ≤ 200000)
    (h1 : ∀ w, Len w → Calls Try.prog 22 #[.string p, .string s] w fun e w' => e = .returned (.tuple #[.string js, .int .i64 0]) ∧ Below w.heap.size w w')
    (h2 : ∀ w, Len w → Calls Try.prog 13 #[.string js] w fun e w' => e = .returned (.tuple #[.string p, .int .i64 0]) ∧ Below w.heap.size w w')
    (h3 : ∀ w, Len w → Calls Try.prog 11 #[.string js] w fun e w' => (∃ a cap, e = .returned (.tuple #[.slice a (m + 1) cap, .int .i64 0]) ∧ Sl w' a cap xs) ∧ Below w.heap.size w w')
    (h4 : ∀ w, Len w → Calls Try.prog 11 #[.string p] w fun e w' => (∃ a cap, e = .returned (.tuple #[.slice a m cap, .int .i64 0]) ∧ Sl w' a cap ys) ∧ Below w.heap.size w w')
    (h5 : ∀ w, Len w → Calls Try.prog 24 #[.string js, .string p] w fun e w' => e = .returned (.tuple #[.bool true, .int .i64 0]) ∧ Below w.heap.size w w')
    (h6 : ∀ w, Len w → Calls Try.prog 28 #[.string p, .string js] w fun e w' => e = .returned (.tuple #[.int .i64 (-1), .int .i64 0]) ∧ Below w.heap.size w w') (w : World) (hl : Len w) : Calls Try.prog 6 #[.string p, .string s] w fun e w' => e = .returned (.bool true) ∧ Below w.heap.size w w' := by
  have KF := Lib.hid (fun w => fit_any p ByteArray.empty true hf w)
  have HX0 : Hid (xs ≠ []) := Lib.hid (fun e => by rw [e] at hx1; simp at hx1)
  have HX1 := Lib.hid hx1
  have HX2 := Lib.hid hx2
  have K1 := Lib.hid h1
  have K2 := Lib.hid h2
  have K3 := Lib.hid h3
  have K4 := Lib.hid h4
  have K5 := Lib.hid h5
  have K6 := Lib.hid h6
  have B0 := Lib.hid (Below.refl w.heap.size w)
  have L_0 := Lib.hid hl
  have z1 : ¬ (5000 : Int) < s.size := by omega
  have z2 : decide ((5000 : Int) < s.size) = false := by rw [decide_eq_false_iff_not]; omega
  clear hl hf h1 h2 h3 h4 h5 h6 hx1 hx2
  go_enter Try.func6, Try.ntmps6
  go_wp2_with fail
  refine (alive_any _ L_0.out).mono ?_
  rintro e w1 ⟨rfl, hb⟩
  have B1 := Lib.hid (B0.out.trans (hb.mono B0.out.size))
  have L_1 := Lib.hid (L_0.out.later hb)
  clear hb B0 L_0
  go_wp2_with fail
  refine (KF.out _).mono ?_
  rintro e w2 ⟨rfl, hb⟩
  have B2 := Lib.hid (B1.out.trans (hb.mono B1.out.size))
  have L_2 := Lib.hid (L_1.out.later hb)
  clear hb B1 L_1
  go_wp2_with fail
  refine (K1.out _ L_2.out).mono ?_
  rintro e w3 ⟨rfl, hb⟩
  have B3 := Lib.hid (B2.out.trans (hb.mono B2.out.size))
  have L_3 := Lib.hid (L_2.out.later hb)
  clear hb B2 L_2
  go_wp2_with fail
  refine (K2.out _ L_3.out).mono ?_
  rintro e w4 ⟨rfl, hb⟩
  have B4 := Lib.hid (B3.out.trans (hb.mono B3.out.size))
  have L_4 := Lib.hid (L_3.out.later hb)
  clear hb B3 L_3
  go_wp2_with fail
  refine (K3.out _ L_4.out).mono ?_
  rintro e w5 ⟨⟨a, cap, rfl, hS⟩, hb⟩
  have B5 := Lib.hid (B4.out.trans (hb.mono B4.out.size))
  have L_5 := Lib.hid (L_4.out.later hb)
  clear hb B4 L_4
  have A_5 := Lib.hid hS
  clear hS
  go_wp2_with fail
  refine (K4.out _ L_5.out).mono ?_
  rintro e w6 ⟨⟨b, cap2, rfl, hS⟩, hb⟩
  have B6 := Lib.hid (B5.out.trans (hb.mono B5.out.size))
  have L_6 := Lib.hid (L_5.out.later hb)
  have A_6 := Lib.hid (A_5.out.later hb)
  clear hS hb B5 L_5 A_5
  go_wp2_with fail
  refine (K5.out _ L_6.out).mono ?_
  rintro e w7 ⟨rfl, hb⟩
  have B7 := Lib.hid (B6.out.trans (hb.mono B6.out.size))
  have L_7 := Lib.hid (L_6.out.later hb)
  have A_7 := Lib.hid (A_6.out.later hb)
  clear hb B6 L_6 A_6
  go_wp2_with fail
  refine (K6.out _ L_7.out).mono ?_
  rintro e w8 ⟨rfl, hb⟩
  have B8 := Lib.hid (B7.out.trans (hb.mono B7.out.size))
  have L_8 := Lib.hid (L_7.out.later hb)
  have A_8 := Lib.hid (A_7.out.later hb)
  clear hb B7 L_7 A_7
  obtain ⟨g, rfl, hR⟩ := A_8.out.row HX0.out
  have c1 := hR.at m (by rw [HX1.out]; omega)
  rw [HX2.out (by rw [HX1.out]; omega)] at c1
  have c2 := hR.lt
  have c3 := hR.le
  rw [HX1.out] at c3
  clear hR
  go_wp2_with fail
  go_ret
  exact ⟨rfl, B8.out⟩
theorem joins_walk (p s : ByteArray) (w : World) (hl : Len w) : Calls Try.prog 6 #[.string p, .string s] w fun e w' => e = .returned (.bool true) ∧ Below w.heap.size w w' := by
  cases hf : fitB (lA p) (lA ByteArray.empty)
  · exact joins_not p s hf w hl
  · have hp := (fit_yes.1 hf).1
    have hps := chk_size hp
    by_cases hs : 5000 < s.size
    · exact joins_long p s hf hs w hl
    · by_cases h0 : joiE (lA p) (lA s) = 0
      · obtain ⟨f1, f2, f3⟩ := join_fact hp h0
        have hjl : (bA (joiS (lA p) (lA s))).size ≤ 4000 := by rw [bA_size]; exact (chk_zero.1 f2).1
        have hm := cutL_few (s := p) (by omega)
        obtain ⟨j, hj⟩ : ∃ j, joiS (lA p) (lA s) = j := ⟨_, rfl⟩
        rw [hj] at f2 f3 hjl
        have e0 : parE j = 0 := by rw [parE, if_pos f2, if_neg (by rw [f3]; simp)]
        have e1 : bA (parS j) = p := by rw [parS, if_pos f2, f3, List.dropLast_concat, pathL_cutL, bA_lA]
        have hb : both j (lA p) = 0 := both_zero.2 ⟨f2, hp⟩
        have hb2 : both (lA p) j = 0 := both_zero.2 ⟨hp, f2⟩
        refine joins_main p s (bA j) (cutL (lA p)).length hf hs (cutL (lA p) ++ [lA s]) (cutL (lA p)) (by simp) (by intro h; simp [bA_lA]) hm ?_ ?_ ?_ ?_ ?_ ?_ w hl
        · intro w hl
          have := join_any p s (by omega) (by omega) w hl
          rwa [h0, hj] at this
        · intro w hl
          have := parent_any (bA j) (by omega) w hl
          rwa [lA_bA, e0, e1] at this
        · intro w hl
          exact steps_api (bA j) (by omega) 0 (by rw [lA_bA]; exact f2) (cutL (lA p) ++ [lA s]) _ (by rw [lA_bA, stpR, if_pos f2, f3]) (by simp) w hl
        · intro w hl
          exact steps_api p (by omega) 0 hp (cutL (lA p)) _ (by rw [stpR, if_pos hp]) rfl w hl
        · intro w hl
          have := labunder_any (bA j) p (by omega) (by omega) w hl
          rw [lA_bA, hb] at this
          rwa [show undR j (lA p) = true by rw [undR, hb, undB_iff.2 (by rw [f3]; exact List.prefix_append _ _)]; rfl] at this
        · intro w hl
          have := labcmp_any p (bA j) (by omega) (by omega) w hl
          rw [lA_bA, hb2] at this
          rwa [show cmpR (lA p) j = -1 by rw [cmpR, if_pos hb2, cmpP, f3, lexC_prefix cmpS_ord, if_neg (by simp)]] at this
      · exact joins_err p s _ _ hf hs h0 (join_errs hp h0) (fun w hl => join_any p s (by omega) (by omega) w hl) w hl
end Go.Proofs.Ytjladbgidodhbaa
