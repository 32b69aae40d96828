/-
  What Parent, Last and Join of package label hand back.
-/
import Derived.Test.YtjladbgidodhbaaLabStepsF
import Derived.Lib.QuietBelow
import Derived.BigQuiet
namespace Go.Proofs.Ytjladbgidodhbaa
open Go.RowKit Go.Shelf
open LM
set_option linter.unusedVariables false
set_option linter.unusedSimpArgs false
attribute [local go_sem] Oper.semAt_some

theorem par_off {p : Bs} (h : parE p ≠ 0) : parS p = [] ∧ lasN p = [] ∧ lasI p = 0 := by
  unfold parE at h
  unfold parS lasN lasI
  by_cases hc : chk p = 0
  · rw [if_pos hc] at h ⊢
    rw [if_pos hc, if_pos hc]
    by_cases h0 : cutL p = []
    · rw [lasL, h0]; decide
    · rw [if_neg h0] at h; exact absurd rfl h
  · rw [if_neg hc, if_neg hc, if_neg hc]; exact ⟨rfl, rfl, rfl⟩
theorem par_on {p : Bs} (h : parE p = 0) : parS p = parU p ∧ lasN p = stN (lasL p) ∧ lasI p = stI (lasL p) := by
  unfold parE at h
  unfold parS lasN lasI parU
  by_cases hc : chk p = 0
  · rw [if_pos hc, if_pos hc, if_pos hc]; exact ⟨rfl, rfl, rfl⟩
  · rw [if_neg hc] at h; exact absurd h hc
theorem parU_len (p : Bs) : (parU p).length ≤ p.length := pathL_drop
theorem lasL_len (p : Bs) : (lasL p).length ≤ p.length := by
  unfold lasL
  cases h : (cutL p).getLast? with
  | none => simp
  | some x => exact cutL_len (List.mem_of_getLast? h)
theorem stN_len (x : Bs) : (stN x).length ≤ x.length := by
  unfold stN; split
  · exact (cut_le x 91).1
  · simp
set_option maxHeartbeats 400000 in
theorem parent_err (s : ByteArray) (hs : s.size ≤ 100000) (c : Int) (hc : parE (lA s) = c) (h0 : c ≠ 0) (w : World) (hl : Len w) :
    Calls Try.prog 13 #[.string s] w fun e w' => e = .returned (.tuple #[.string ByteArray.empty, .int .i64 c]) ∧ Below w.heap.size w w' := by
  have K1 := Lib.hid (fun w hl => below_root s hs w hl)
  rw [hc] at K1
  have B0 := Lib.hid (Below.refl w.heap.size w)
  have L_0 := Lib.hid hl
  have h1 : (c != 0) = true := bne_iff_ne.2 h0
  clear hc hl
  go_enter Try.func13, Try.ntmps13
  go_wp2_with fail
  refine (K1.out _ L_0.out).mono ?_
  rintro e w1 ⟨rfl, hb⟩
  have B1 := Lib.hid (B0.out.trans (hb.mono B0.out.size))
  have L_1 := Lib.hid (L_0.out.later hb)
  clear hb B0 L_0
  go_wp2_with fail
  go_ret2
  exact ⟨rfl, B1.out⟩
set_option maxHeartbeats 400000 in
theorem parent_ok (s : ByteArray) (hs : s.size ≤ 100000) (hc : parE (lA s) = 0) (w : World) (hl : Len w) :
    Calls Try.prog 13 #[.string s] w fun e w' => e = .returned (.tuple #[.string (bA (parU (lA s))), .int .i64 0]) ∧ Below w.heap.size w w' := by
  have K1 := Lib.hid (fun w hl => below_root s hs w hl)
  rw [hc] at K1
  have K2 := Lib.hid (fun w => split_any s hs w)
  have hpl : (parU (lA s)).length ≤ 200000 := by have := parU_len (lA s); rw [lA_len] at this; omega
  obtain ⟨u, hu⟩ : ∃ u, parU (lA s) = u := ⟨_, rfl⟩
  obtain ⟨v, hv⟩ : ∃ v, lasL (lA s) = v := ⟨_, rfl⟩
  rw [hu, hv] at K2
  rw [hu] at hpl ⊢
  have K3 := Lib.hid (fun w => clone_lib (bA u) (by rw [bA_size]; exact hpl) w)
  have B0 := Lib.hid (Below.refl w.heap.size w)
  have L_0 := Lib.hid hl
  clear hc hl hu hv hpl
  go_enter Try.func13, Try.ntmps13
  go_wp2_with fail
  refine (K1.out _ L_0.out).mono ?_
  rintro e w1 ⟨rfl, hb⟩
  have B1 := Lib.hid (B0.out.trans (hb.mono B0.out.size))
  have L_1 := Lib.hid (L_0.out.later hb)
  clear hb B0 L_0
  go_wp2_with fail
  refine (K2.out _).mono ?_
  rintro e w2 ⟨rfl, hb⟩
  have B2 := Lib.hid (B1.out.trans (hb.mono B1.out.size))
  have L_2 := Lib.hid (L_1.out.later hb)
  clear hb B1 L_1
  go_wp2_with fail
  refine (K3.out _).mono ?_
  rintro e w3 ⟨rfl, hb⟩
  have B3 := Lib.hid (B2.out.trans (hb.mono B2.out.size))
  have L_3 := Lib.hid (L_2.out.later hb)
  clear hb B2 L_2
  go_wp2_with fail
  go_ret2
  exact ⟨rfl, B3.out⟩
theorem parent_any (s : ByteArray) (hs : s.size ≤ 100000) (w : World) (hl : Len w) :
    Calls Try.prog 13 #[.string s] w fun e w' => e = .returned (.tuple #[.string (bA (parS (lA s))), .int .i64 (parE (lA s))]) ∧ Below w.heap.size w w' := by
  by_cases hc : parE (lA s) = 0
  · rw [(par_on hc).1, hc]; exact parent_ok s hs hc w hl
  · rw [(par_off hc).1]; exact parent_err s hs _ rfl hc w hl
set_option maxHeartbeats 400000 in
theorem last_err (s : ByteArray) (hs : s.size ≤ 100000) (c : Int) (hc : parE (lA s) = c) (h0 : c ≠ 0) (w : World) (hl : Len w) :
    Calls Try.prog 15 #[.string s] w fun e w' => e = .returned (.tuple #[.string ByteArray.empty, .int .i64 0, .int .i64 c]) ∧ Below w.heap.size w w' := by
  have K1 := Lib.hid (fun w hl => below_root s hs w hl)
  rw [hc] at K1
  have B0 := Lib.hid (Below.refl w.heap.size w)
  have L_0 := Lib.hid hl
  have h1 : (c != 0) = true := bne_iff_ne.2 h0
  clear hc hl
  go_enter Try.func15, Try.ntmps15
  go_wp2_with fail
  refine (K1.out _ L_0.out).mono ?_
  rintro e w1 ⟨rfl, hb⟩
  have B1 := Lib.hid (B0.out.trans (hb.mono B0.out.size))
  have L_1 := Lib.hid (L_0.out.later hb)
  clear hb B0 L_0
  go_wp2_with fail
  go_ret3
  exact ⟨rfl, B1.out⟩
set_option maxHeartbeats 1000000 in
theorem last_ok (s : ByteArray) (hs : s.size ≤ 100000) (hc : parE (lA s) = 0) (w : World) (hl : Len w) :
    Calls Try.prog 15 #[.string s] w fun e w' => e = .returned (.tuple #[.string (bA (stN (lasL (lA s)))), .int .i64 (stI (lasL (lA s))), .int .i64 0]) ∧ Below w.heap.size w w' := by
  have K1 := Lib.hid (fun w hl => below_root s hs w hl)
  rw [hc] at K1
  have K2 := Lib.hid (fun w => split_any s hs w)
  have hpl : (lasL (lA s)).length ≤ 200000 := by have := lasL_len (lA s); rw [lA_len] at this; omega
  obtain ⟨u, hu⟩ : ∃ u, parU (lA s) = u := ⟨_, rfl⟩
  obtain ⟨v, hv⟩ : ∃ v, lasL (lA s) = v := ⟨_, rfl⟩
  rw [hu, hv] at K2
  rw [hv] at hpl ⊢
  have K3 := Lib.hid (fun w hl => parse_l v hpl w hl)
  have hnl := Nat.le_trans (stN_len v) hpl
  obtain ⟨n, hn⟩ : ∃ n, stN v = n := ⟨_, rfl⟩
  obtain ⟨i, hi⟩ : ∃ i, stI v = i := ⟨_, rfl⟩
  obtain ⟨t, ht⟩ : ∃ t, stepB v = t := ⟨_, rfl⟩
  rw [hn, hi, ht] at K3
  rw [hn] at hnl
  rw [hn, hi]
  have K4 := Lib.hid (fun w => clone_lib (bA n) (by rw [bA_size]; exact hnl) w)
  have B0 := Lib.hid (Below.refl w.heap.size w)
  have L_0 := Lib.hid hl
  clear hc hl hu hv hpl hn hi ht hnl
  go_enter Try.func15, Try.ntmps15
  go_wp2_with fail
  refine (K1.out _ L_0.out).mono ?_
  rintro e w1 ⟨rfl, hb⟩
  have B1 := Lib.hid (B0.out.trans (hb.mono B0.out.size))
  have L_1 := Lib.hid (L_0.out.later hb)
  clear hb B0 L_0
  go_wp2_with fail
  refine (K2.out _).mono ?_
  rintro e w2 ⟨rfl, hb⟩
  have B2 := Lib.hid (B1.out.trans (hb.mono B1.out.size))
  have L_2 := Lib.hid (L_1.out.later hb)
  clear hb B1 L_1
  go_wp2_with fail
  refine (K3.out _ L_2.out).mono ?_
  rintro e w3 ⟨rfl, hb⟩
  have B3 := Lib.hid (B2.out.trans (hb.mono B2.out.size))
  have L_3 := Lib.hid (L_2.out.later hb)
  clear hb B2 L_2
  go_wp2_with fail
  obtain ⟨wq, hwq⟩ : ∃ x, x = w3.alloc (.cells #[.string (bA n), .int .i64 i] 66) := ⟨_, rfl⟩
  have T1 : Two wq w3.heap.size (.string (bA n)) (.int .i64 i) 66 := by rw [hwq]; exact heap_alloc_new w3 _
  have BQ : Hid (Below w.heap.size w wq) := Lib.hid (by rw [hwq]; exact B3.out.alloc B3.out.size _)
  rw [← hwq]
  clear hwq
  have a0 := T1.c0
  have a1 := T1.c1
  have a2 := T1.lt
  have r0 := fun d os => cell_regrown a0 d os
  have r1 := fun d os => cell_regrown a1 d os
  clear T1
  refine wp_region_quiet_below (by kernel_rfl) (by kernel_rfl) ?_
  repeat (any_goals (first | go_big_quiet_step ((go_at_call 35; exact Calls.regrown_of (K4.out _))) | quiet_step ((go_at_call 35; exact Calls.regrown_of (K4.out _)))))
  refine wpQuiet_nil ?_
  intro _ hw'
  obtain ⟨⟨dq, osq⟩, hw''⟩ := hw'
  subst hw''
  clear r0 r1 a0 a1
  go_wp2_with fail
  go_ret3
  exact ⟨rfl, BQ.out.trans ((below_regrown _ _ _).mono BQ.out.size)⟩
theorem last_any (s : ByteArray) (hs : s.size ≤ 100000) (w : World) (hl : Len w) :
    Calls Try.prog 15 #[.string s] w fun e w' => e = .returned (.tuple #[.string (bA (lasN (lA s))), .int .i64 (lasI (lA s)), .int .i64 (parE (lA s))]) ∧ Below w.heap.size w w' := by
  by_cases hc : parE (lA s) = 0
  · rw [(par_on hc).2.1, (par_on hc).2.2, hc]; exact last_ok s hs hc w hl
  · rw [(par_off hc).2.1, (par_off hc).2.2]; exact last_err s hs _ rfl hc w hl

/-! ### Join -/
theorem chk_step {x : Bs} (h : stepB x = true) : chk x = 0 := by
  have hne := step_ne h
  have hno := step_no h
  have hcut : cutL x = [x] := by rw [cutL_ne hne, splitA_no _ _ hno]; rfl
  have := step_len h
  exact chk_zero.2 ⟨by omega, by rw [hcut]; simp, fun y hy => by rw [hcut, List.mem_singleton] at hy; rw [hy]; exact h⟩
theorem join_root {s : Bs} (h : stepB s = true) : joiE [] s = 0 ∧ joiS [] s = s := by
  have e : pathL (cutL [] ++ [s]) = s := by simp [cutL_nil, pathL, tailL]
  have : joiE [] s = 0 := by rw [joiE, if_pos chk_nil, if_pos h, e]; exact chk_step h
  exact ⟨this, by rw [joiS, if_pos this, e]⟩
theorem join_path {p : Bs} (h : p ≠ []) (s : Bs) : pathL (cutL p ++ [s]) = p ++ 47 :: s := by
  rw [pathL_snoc, if_neg (fun e => h (cutL_eq_nil.1 e)), pathL_cutL]
set_option maxHeartbeats 1000000 in
theorem join_any (p s : ByteArray) (hp : p.size ≤ 50000) (hs : s.size ≤ 40000) (w : World) (hl : Len w) :
    Calls Try.prog 22 #[.string p, .string s] w fun e w' => e = .returned (.tuple #[.string (bA (joiS (lA p) (lA s))), .int .i64 (joiE (lA p) (lA s))]) ∧ Below w.heap.size w w' := by
  have B0 := Lib.hid (Below.refl w.heap.size w)
  have L_0 := Lib.hid hl
  obtain ⟨c, hc⟩ : ∃ c, chk (lA p) = c := ⟨_, rfl⟩
  have K1 := Lib.hid (fun w hl => check_v p (by omega) c hc w hl)
  by_cases h0 : c = 0
  · subst h0
    have K2 := Lib.hid (fun w hl => parse_l (lA s) (by rw [lA_len]; omega) w hl)
    rw [bA_lA] at K2
    obtain ⟨nn, hnn⟩ : ∃ z, stN (lA s) = z := ⟨_, rfl⟩
    obtain ⟨ni, hni⟩ : ∃ z, stI (lA s) = z := ⟨_, rfl⟩
    rw [hnn, hni] at K2
    cases hst : stepB (lA s)
    · have HE : joiE (lA p) (lA s) = 12 := by rw [joiE, if_pos hc, if_neg (by rw [hst]; simp)]
      have HS : bA (joiS (lA p) (lA s)) = ByteArray.empty := by rw [joiS, HE]; rfl
      rw [HE, HS]
      rw [hst] at K2
      clear hc hl hst HE HS hnn hni
      go_enter Try.func22, Try.ntmps22
      go_wp2_with fail
      refine (K1.out _ L_0.out).mono ?_
      rintro e w1 ⟨rfl, hb⟩
      have B1 := Lib.hid (B0.out.trans (hb.mono B0.out.size))
      have L_1 := Lib.hid (L_0.out.later hb)
      clear hb B0 L_0
      go_wp2_with fail
      refine (K2.out _ L_1.out).mono ?_
      rintro e w2 ⟨rfl, hb⟩
      have B2 := Lib.hid (B1.out.trans (hb.mono B1.out.size))
      have L_2 := Lib.hid (L_1.out.later hb)
      clear hb B1 L_1
      go_wp2_with fail
      go_ret2
      exact ⟨rfl, B2.out.alloc B2.out.size _⟩
    · rw [hst] at K2
      by_cases hz : 0 < p.size
      · have hne := lA_ne hz
        have hem := str_ne hz
        have hj := join_path hne (lA s)
        have hbs : p ++ ⟨#[47]⟩ ++ s = bA (lA p ++ 47 :: lA s) := by
          have := bA_slash (lA p) (lA s)
          rwa [bA_lA, bA_lA] at this
        obtain ⟨d, hd⟩ : ∃ d, chk (lA p ++ 47 :: lA s) = d := ⟨_, rfl⟩
        have K3 : Hid (∀ w, Len w → Calls Try.prog 19 #[.string (p ++ ⟨#[47]⟩ ++ s)] w fun e w' => e = .returned (.int .i64 d) ∧ Below w.heap.size w w') := Lib.hid (fun w hl => by
          rw [hbs]
          exact check_v _ (by rw [bA_size]; have := lA_len p; have := lA_len s; simp; omega) d (by rw [lA_bA]; exact hd) w hl)
        have HE : joiE (lA p) (lA s) = d := by rw [joiE, if_pos hc, if_pos hst, hj, hd]
        by_cases hd0 : d = 0
        · have HS : bA (joiS (lA p) (lA s)) = p ++ ⟨#[47]⟩ ++ s := by rw [joiS, HE, if_pos hd0, hj, hbs]
          rw [HE, HS]
          clear hc hl hst HE HS hnn hni hne hj hbs hd
          subst hd0
          go_enter Try.func22, Try.ntmps22
          go_wp2_with fail
          refine (K1.out _ L_0.out).mono ?_
          rintro e w1 ⟨rfl, hb⟩
          have B1 := Lib.hid (B0.out.trans (hb.mono B0.out.size))
          have L_1 := Lib.hid (L_0.out.later hb)
          clear hb B0 L_0
          go_wp2_with fail
          refine (K2.out _ L_1.out).mono ?_
          rintro e w2 ⟨rfl, hb⟩
          have B2 := Lib.hid (B1.out.trans (hb.mono B1.out.size))
          have L_2 := Lib.hid (L_1.out.later hb)
          clear hb B1 L_1
          go_wp2_with fail
          refine (K3.out _ (by exact L_2.out.later ((Below.refl _ _).alloc (Nat.le_refl _) _))).mono ?_
          rintro e w3 ⟨rfl, hb⟩
          have B3 := Lib.hid ((B2.out.alloc (by have := B2.out.size; simp <;> omega) _).trans (hb.mono (by have := B2.out.size; simp <;> omega)))
          have L_3 := Lib.hid ((L_2.out.later (((Below.refl _ _).alloc (by first | exact Nat.le_refl _ | (simp <;> omega)) _))).later hb)
          clear hb B2 L_2
          go_wp2_with fail
          go_ret2
          exact ⟨rfl, B3.out⟩
        · have HS : bA (joiS (lA p) (lA s)) = ByteArray.empty := by rw [joiS, HE, if_neg hd0]; rfl
          rw [HE, HS]
          have h1 : (d != 0) = true := bne_iff_ne.2 hd0
          clear hc hl hst HE HS hnn hni hne hj hbs hd
          go_enter Try.func22, Try.ntmps22
          go_wp2_with fail
          refine (K1.out _ L_0.out).mono ?_
          rintro e w1 ⟨rfl, hb⟩
          have B1 := Lib.hid (B0.out.trans (hb.mono B0.out.size))
          have L_1 := Lib.hid (L_0.out.later hb)
          clear hb B0 L_0
          go_wp2_with fail
          refine (K2.out _ L_1.out).mono ?_
          rintro e w2 ⟨rfl, hb⟩
          have B2 := Lib.hid (B1.out.trans (hb.mono B1.out.size))
          have L_2 := Lib.hid (L_1.out.later hb)
          clear hb B1 L_1
          go_wp2_with fail
          refine (K3.out _ (by exact L_2.out.later ((Below.refl _ _).alloc (Nat.le_refl _) _))).mono ?_
          rintro e w3 ⟨rfl, hb⟩
          have B3 := Lib.hid ((B2.out.alloc (by have := B2.out.size; simp <;> omega) _).trans (hb.mono (by have := B2.out.size; simp <;> omega)))
          have L_3 := Lib.hid ((L_2.out.later (((Below.refl _ _).alloc (by first | exact Nat.le_refl _ | (simp <;> omega)) _))).later hb)
          clear hb B2 L_2
          go_wp2_with fail
          go_ret2
          exact ⟨rfl, B3.out⟩
      · obtain rfl := str_nil hz
        have hE := join_root hst
        have HE : joiE (lA ByteArray.empty) (lA s) = 0 := hE.1
        have HS : bA (joiS (lA ByteArray.empty) (lA s)) = s := by
          have : joiS (lA ByteArray.empty) (lA s) = lA s := hE.2
          rw [this, bA_lA]
        rw [HE, HS]
        have K3 := Lib.hid (fun w => clone_lib s (by omega) w)
        clear hc hl hst HE HS hnn hni hE
        go_enter Try.func22, Try.ntmps22
        go_wp2_with fail
        refine (K1.out _ L_0.out).mono ?_
        rintro e w1 ⟨rfl, hb⟩
        have B1 := Lib.hid (B0.out.trans (hb.mono B0.out.size))
        have L_1 := Lib.hid (L_0.out.later hb)
        clear hb B0 L_0
        go_wp2_with fail
        refine (K2.out _ L_1.out).mono ?_
        rintro e w2 ⟨rfl, hb⟩
        have B2 := Lib.hid (B1.out.trans (hb.mono B1.out.size))
        have L_2 := Lib.hid (L_1.out.later hb)
        clear hb B1 L_1
        go_wp2_with fail
        refine (K3.out _).mono ?_
        rintro e w3 ⟨rfl, hb⟩
        have B3 := Lib.hid ((B2.out.alloc (by have := B2.out.size; simp <;> omega) _).trans (hb.mono (by have := B2.out.size; simp <;> omega)))
        have L_3 := Lib.hid ((L_2.out.later (((Below.refl _ _).alloc (by first | exact Nat.le_refl _ | (simp <;> omega)) _))).later hb)
        clear hb B2 L_2
        go_wp2_with fail
        go_ret2
        exact ⟨rfl, B3.out⟩
  · have h1 : (c != 0) = true := bne_iff_ne.2 h0
    have HE : joiE (lA p) (lA s) = c := by rw [joiE, if_neg (by rw [hc]; exact h0), hc]
    have HS : bA (joiS (lA p) (lA s)) = ByteArray.empty := by rw [joiS, HE, if_neg h0]; rfl
    rw [HE, HS]
    clear hc hl HE HS
    go_enter Try.func22, Try.ntmps22
    go_wp2_with fail
    refine (K1.out _ L_0.out).mono ?_
    rintro e w1 ⟨rfl, hb⟩
    have B1 := Lib.hid (B0.out.trans (hb.mono B0.out.size))
    have L_1 := Lib.hid (L_0.out.later hb)
    clear hb B0 L_0
    go_wp2_with fail
    go_ret2
    exact ⟨rfl, B1.out⟩
end Go.Proofs.Ytjladbgidodhbaa
