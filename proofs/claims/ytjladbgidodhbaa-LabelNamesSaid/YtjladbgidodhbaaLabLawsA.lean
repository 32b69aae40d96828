/-
  LabelPaths and LabelPairs, walked.
-/
import Derived.Test.YtjladbgidodhbaaLabMore
namespace Go.Proofs.Ytjladbgidodhbaa
open Go.RowKit Go.Shelf
open LM
set_option linter.unusedVariables false
set_option linter.unusedSimpArgs false
attribute [local go_sem] Oper.semAt_some

theorem stpR_few {s : ByteArray} (hs : s.size ≤ 100000) : (stpR (lA s)).length ≤ 200000 := by
  unfold stpR; split
  · exact cutL_few hs
  · simp
set_option maxHeartbeats 1000000 in
theorem paths_long (s : ByteArray) (h : 5000 < s.size) (w : World) : Calls Try.prog 3 #[.string s] w fun e w' => e = .returned (.bool true) ∧ Below w.heap.size w w' := by
  have h1 : (5000 : Int) < s.size := by omega
  go_enter Try.func3, Try.ntmps3
  go_wp2_with fail
  go_ret
  exact ⟨rfl, Below.refl _ _⟩
set_option maxHeartbeats 2000000 in
theorem paths_short (s : ByteArray) (h : ¬ 5000 < s.size) (w : World) (hl : Len w) : Calls Try.prog 3 #[.string s] w fun e w' => e = .returned (.bool true) ∧ Below w.heap.size w w' := by
  have hs : s.size ≤ 100000 := by omega
  obtain ⟨c, hc⟩ : ∃ c, chk (lA s) = c := ⟨_, rfl⟩
  obtain ⟨xs, hx⟩ : ∃ xs, stpR (lA s) = xs := ⟨_, rfl⟩
  obtain ⟨n, hn⟩ : ∃ n, xs.length = n := ⟨_, rfl⟩
  have hn2 : n ≤ 200000 := by rw [← hn, ← hx]; exact stpR_few hs
  have K1 := Lib.hid (fun w hl => steps_api s hs c hc xs n hx hn w hl)
  have K2 := Lib.hid (fun w => refsteps_any s hs c hc xs n hx hn w)
  have K3 := Lib.hid (fun w hl => parent_any s hs w hl)
  have K4 := Lib.hid (fun w => refparent_any s hs w)
  have K5 := Lib.hid (fun w hl => last_any s hs w hl)
  have K6 := Lib.hid (fun w => reflast_any s hs w)
  have K7 := Lib.hid (fun w => name_any s (by omega) w)
  have K8 := Lib.hid (fun w => refname_any s hs w)
  have K9 := Lib.hid (fun w hl => check_v s hs c hc w hl)
  have K10 := Lib.hid (fun w => refcheck_v s hs c hc w)
  obtain ⟨ps, hps⟩ : ∃ z, bA (parS (lA s)) = z := ⟨_, rfl⟩
  obtain ⟨pe, hpe⟩ : ∃ z, parE (lA s) = z := ⟨_, rfl⟩
  obtain ⟨ln, hln⟩ : ∃ z, bA (lasN (lA s)) = z := ⟨_, rfl⟩
  obtain ⟨li, hli⟩ : ∃ z, lasI (lA s) = z := ⟨_, rfl⟩
  obtain ⟨nb, hnb⟩ : ∃ z, nameB (lA s) = z := ⟨_, rfl⟩
  rw [hps, hpe] at K3 K4
  rw [hln, hli, hpe] at K5 K6
  rw [hnb] at K7 K8
  have B0 := Lib.hid (Below.refl w.heap.size w)
  have L_0 := Lib.hid hl
  have HN := Lib.hid hn
  have h1 : ¬ (5000 : Int) < s.size := by omega
  clear hl hc hx hn hps hpe hln hli hnb
  go_enter Try.func3, Try.ntmps3
  go_wp2_with fail
  refine (K1.out _ L_0.out).mono ?_
  rintro e w1 ⟨⟨a, cap, rfl, hS⟩, hb⟩
  have B1 := Lib.hid (B0.out.trans (hb.mono B0.out.size))
  have L_1 := Lib.hid (L_0.out.later hb)
  clear hb B0 L_0
  have A_1 := Lib.hid hS
  clear hS
  go_wp2_with fail
  refine (K2.out _).mono ?_
  rintro e w2 ⟨⟨b, cap2, rfl, hS⟩, hb⟩
  have B2 := Lib.hid (B1.out.trans (hb.mono B1.out.size))
  have L_2 := Lib.hid (L_1.out.later hb)
  have A_2 := Lib.hid (A_1.out.later hb)
  clear hb B1 L_1 A_1
  have R_2 := Lib.hid hS
  clear hS
  go_wp2_with fail
  refine (K3.out _ L_2.out).mono ?_
  rintro e w3 ⟨rfl, hb⟩
  have B3 := Lib.hid (B2.out.trans (hb.mono B2.out.size))
  have L_3 := Lib.hid (L_2.out.later hb)
  have A_3 := Lib.hid (A_2.out.later hb)
  have R_3 := Lib.hid (R_2.out.later hb)
  clear hb B2 L_2 A_2 R_2
  go_wp2_with fail
  refine (K4.out _).mono ?_
  rintro e w4 ⟨rfl, hb⟩
  have B4 := Lib.hid (B3.out.trans (hb.mono B3.out.size))
  have L_4 := Lib.hid (L_3.out.later hb)
  have A_4 := Lib.hid (A_3.out.later hb)
  have R_4 := Lib.hid (R_3.out.later hb)
  clear hb B3 L_3 A_3 R_3
  go_wp2_with fail
  refine (K5.out _ L_4.out).mono ?_
  rintro e w5 ⟨rfl, hb⟩
  have B5 := Lib.hid (B4.out.trans (hb.mono B4.out.size))
  have L_5 := Lib.hid (L_4.out.later hb)
  have A_5 := Lib.hid (A_4.out.later hb)
  have R_5 := Lib.hid (R_4.out.later hb)
  clear hb B4 L_4 A_4 R_4
  go_wp2_with fail
  refine (K6.out _).mono ?_
  rintro e w6 ⟨rfl, hb⟩
  have B6 := Lib.hid (B5.out.trans (hb.mono B5.out.size))
  have L_6 := Lib.hid (L_5.out.later hb)
  have A_6 := Lib.hid (A_5.out.later hb)
  have R_6 := Lib.hid (R_5.out.later hb)
  clear hb B5 L_5 A_5 R_5
  go_wp2_with fail
  refine (K7.out _).mono ?_
  rintro e w7 ⟨rfl, hb⟩
  have B7 := Lib.hid (B6.out.trans (hb.mono B6.out.size))
  have L_7 := Lib.hid (L_6.out.later hb)
  have A_7 := Lib.hid (A_6.out.later hb)
  have R_7 := Lib.hid (R_6.out.later hb)
  clear hb B6 L_6 A_6 R_6
  go_wp2_with fail
  refine (K8.out _).mono ?_
  rintro e ws8 ⟨rfl, rfl⟩
  go_wp2_with fail
  refine (K9.out _ L_7.out).mono ?_
  rintro e w8 ⟨rfl, hb⟩
  have B8 := Lib.hid (B7.out.trans (hb.mono B7.out.size))
  have L_8 := Lib.hid (L_7.out.later hb)
  have A_8 := Lib.hid (A_7.out.later hb)
  have R_8 := Lib.hid (R_7.out.later hb)
  clear hb B7 L_7 A_7 R_7
  go_wp2_with fail
  refine (K10.out _).mono ?_
  rintro e w9 ⟨rfl, hb⟩
  have B9 := Lib.hid (B8.out.trans (hb.mono B8.out.size))
  have L_9 := Lib.hid (L_8.out.later hb)
  have A_9 := Lib.hid (A_8.out.later hb)
  have R_9 := Lib.hid (R_8.out.later hb)
  clear hb B8 L_8 A_8 R_8
  go_wp2_with fail
  refine (same_sl a b cap n cap2 xs HN.out hn2 _ A_9.out R_9.out).mono ?_
  rintro e w10 ⟨rfl, hb⟩
  have B10 := Lib.hid (B9.out.trans (hb.mono B9.out.size))
  have L_10 := Lib.hid (L_9.out.later hb)
  have A_10 := Lib.hid (A_9.out.later hb)
  have R_10 := Lib.hid (R_9.out.later hb)
  clear hb B9 L_9 A_9 R_9
  go_wp2_with fail
  go_ret
  exact ⟨rfl, B10.out⟩
theorem paths_walk (s : ByteArray) (w : World) (hl : Len w) : Calls Try.prog 3 #[.string s] w fun e w' => e = .returned (.bool true) ∧ Below w.heap.size w w' := by
  by_cases h : 5000 < s.size
  · exact paths_long s h w
  · exact paths_short s h w hl

set_option maxHeartbeats 1000000 in
theorem pairs_long1 (p q : ByteArray) (h : 5000 < p.size) (w : World) : Calls Try.prog 4 #[.string p, .string q] w fun e w' => e = .returned (.bool true) ∧ Below w.heap.size w w' := by
  have h1 : (5000 : Int) < p.size := by omega
  go_enter Try.func4, Try.ntmps4
  go_wp2_with fail
  go_ret
  exact ⟨rfl, Below.refl _ _⟩
set_option maxHeartbeats 1000000 in
theorem pairs_long2 (p q : ByteArray) (h0 : ¬ 5000 < p.size) (h : 5000 < q.size) (w : World) : Calls Try.prog 4 #[.string p, .string q] w fun e w' => e = .returned (.bool true) ∧ Below w.heap.size w w' := by
  have h1 : (5000 : Int) < q.size := by omega
  have h2 : ¬ (5000 : Int) < p.size := by omega
  have h3 : decide ((5000 : Int) < p.size) = false := by rw [decide_eq_false_iff_not]; omega
  go_enter Try.func4, Try.ntmps4
  go_wp2_with fail
  go_ret
  exact ⟨rfl, Below.refl _ _⟩
set_option maxHeartbeats 2000000 in
theorem pairs_short (p q : ByteArray) (h0 : ¬ 5000 < p.size) (h : ¬ 5000 < q.size) (w : World) (hl : Len w) : Calls Try.prog 4 #[.string p, .string q] w fun e w' => e = .returned (.bool true) ∧ Below w.heap.size w w' := by
  have K1 := Lib.hid (fun w hl => join_any p q (by omega) (by omega) w hl)
  have K2 := Lib.hid (fun w => refjoin_any p q (by omega) (by omega) w)
  have K3 := Lib.hid (fun w hl => labunder_any p q (by omega) (by omega) w hl)
  have K4 := Lib.hid (fun w => refunder_any p q (by omega) (by omega) w)
  have K5 := Lib.hid (fun w hl => labcommon_any p q (by omega) (by omega) w hl)
  have K6 := Lib.hid (fun w => refcommon_any p q (by omega) (by omega) w)
  have K7 := Lib.hid (fun w hl => labcmp_any p q (by omega) (by omega) w hl)
  have K8 := Lib.hid (fun w => refcompare_any p q (by omega) (by omega) w)
  obtain ⟨js, hjs⟩ : ∃ z, bA (joiS (lA p) (lA q)) = z := ⟨_, rfl⟩
  obtain ⟨je, hje⟩ : ∃ z, joiE (lA p) (lA q) = z := ⟨_, rfl⟩
  obtain ⟨bo, hbo⟩ : ∃ z, both (lA p) (lA q) = z := ⟨_, rfl⟩
  obtain ⟨un, hun⟩ : ∃ z, undR (lA p) (lA q) = z := ⟨_, rfl⟩
  obtain ⟨cs, hcs⟩ : ∃ z, bA (comR (lA p) (lA q)) = z := ⟨_, rfl⟩
  obtain ⟨cm, hcm⟩ : ∃ z, cmpR (lA p) (lA q) = z := ⟨_, rfl⟩
  rw [hjs, hje] at K1 K2
  rw [hun, hbo] at K3 K4
  rw [hcs, hbo] at K5 K6
  rw [hcm, hbo] at K7 K8
  have B0 := Lib.hid (Below.refl w.heap.size w)
  have L_0 := Lib.hid hl
  have h1 : ¬ (5000 : Int) < q.size := by omega
  have h2 : ¬ (5000 : Int) < p.size := by omega
  have h3 : decide ((5000 : Int) < p.size) = false := by rw [decide_eq_false_iff_not]; omega
  have h4 : decide ((5000 : Int) < q.size) = false := by rw [decide_eq_false_iff_not]; omega
  clear hl hjs hje hbo hun hcs hcm
  go_enter Try.func4, Try.ntmps4
  go_wp2_with fail
  refine (K1.out _ L_0.out).mono ?_
  rintro e w1 ⟨rfl, hb⟩
  have B1 := Lib.hid (B0.out.trans (hb.mono B0.out.size))
  have L_1 := Lib.hid (L_0.out.later hb)
  clear hb B0 L_0
  go_wp2_with fail
  refine (K2.out _).mono ?_
  rintro e w2 ⟨rfl, hb⟩
  have B2 := Lib.hid (B1.out.trans (hb.mono B1.out.size))
  have L_2 := Lib.hid (L_1.out.later hb)
  clear hb B1 L_1
  go_wp2_with fail
  refine (K3.out _ L_2.out).mono ?_
  rintro e w3 ⟨rfl, hb⟩
  have B3 := Lib.hid (B2.out.trans (hb.mono B2.out.size))
  have L_3 := Lib.hid (L_2.out.later hb)
  clear hb B2 L_2
  go_wp2_with fail
  refine (K4.out _).mono ?_
  rintro e w4 ⟨rfl, hb⟩
  have B4 := Lib.hid (B3.out.trans (hb.mono B3.out.size))
  have L_4 := Lib.hid (L_3.out.later hb)
  clear hb B3 L_3
  go_wp2_with fail
  refine (K5.out _ L_4.out).mono ?_
  rintro e w5 ⟨rfl, hb⟩
  have B5 := Lib.hid (B4.out.trans (hb.mono B4.out.size))
  have L_5 := Lib.hid (L_4.out.later hb)
  clear hb B4 L_4
  go_wp2_with fail
  refine (K6.out _).mono ?_
  rintro e w6 ⟨rfl, hb⟩
  have B6 := Lib.hid (B5.out.trans (hb.mono B5.out.size))
  have L_6 := Lib.hid (L_5.out.later hb)
  clear hb B5 L_5
  go_wp2_with fail
  refine (K7.out _ L_6.out).mono ?_
  rintro e w7 ⟨rfl, hb⟩
  have B7 := Lib.hid (B6.out.trans (hb.mono B6.out.size))
  have L_7 := Lib.hid (L_6.out.later hb)
  clear hb B6 L_6
  go_wp2_with fail
  refine (K8.out _).mono ?_
  rintro e w8 ⟨rfl, hb⟩
  have B8 := Lib.hid (B7.out.trans (hb.mono B7.out.size))
  have L_8 := Lib.hid (L_7.out.later hb)
  clear hb B7 L_7
  go_wp2_with fail
  go_ret
  exact ⟨rfl, B8.out⟩
theorem pairs_walk (p q : ByteArray) (w : World) (hl : Len w) : Calls Try.prog 4 #[.string p, .string q] w fun e w' => e = .returned (.bool true) ∧ Below w.heap.size w w' := by
  by_cases h : 5000 < p.size
  · exact pairs_long1 p q h w
  · by_cases h2 : 5000 < q.size
    · exact pairs_long2 p q h h2 w
    · exact pairs_short p q h h2 w hl
end Go.Proofs.Ytjladbgidodhbaa
