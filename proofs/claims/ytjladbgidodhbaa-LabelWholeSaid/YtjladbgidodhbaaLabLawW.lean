/-
  LabelWhole, walked.
-/
import Derived.Test.YtjladbgidodhbaaLabAlive
namespace Go.Proofs.Ytjladbgidodhbaa
open Go.RowKit Go.Shelf
open LM
set_option linter.unusedVariables false
set_option linter.unusedSimpArgs false
attribute [local go_sem] Oper.semAt_some

set_option maxRecDepth 100000
/-- The first steps of a path, put together, and one more. -/
theorem take_cut {xs : List Bs} (h : ∀ x ∈ xs, (47 : UInt8) ∉ x ∧ x ≠ []) (k : Nat) : cutL (pathL (xs.take k)) = xs.take k := cutL_pathL (fun x hx => h x (List.mem_of_mem_take hx))
theorem whole_step {p : Bs} (hp : chk p = 0) (k : Nat) (hk : k < (cutL p).length) :
    let a := pathL ((cutL p).take k); let b := pathL ((cutL p).take (k + 1))
    stepB (cutL p)[k] = true ∧ joiE a (cutL p)[k] = 0 ∧ joiS a (cutL p)[k] = b ∧ parE b = 0 ∧ lasN b = stN (cutL p)[k] ∧ lasI b = stI (cutL p)[k] ∧ a.length ≤ 4000 ∧ b.length ≤ 4000 := by
  intro a b
  obtain ⟨h1, h2, h3⟩ := chk_zero.1 hp
  have hs := cut_steps hp
  have ca : cutL a = (cutL p).take k := take_cut hs k
  have cb : cutL b = (cutL p).take (k + 1) := take_cut hs (k + 1)
  have la : ∀ j, (pathL ((cutL p).take j)).length ≤ 4000 := fun j => by
    have := pathL_mono (cutL p) j
    rw [pathL_cutL] at this; omega
  have ka : ∀ j, chk (pathL ((cutL p).take j)) = 0 := fun j => by
    refine chk_zero.2 ⟨la j, ?_, ?_⟩
    · rw [take_cut hs j, List.length_take]; omega
    · rw [take_cut hs j]; exact fun x hx => h3 x (List.mem_of_mem_take hx)
  have hx : stepB (cutL p)[k] = true := h3 _ (List.getElem_mem _)
  have hab : pathL (cutL a ++ [(cutL p)[k]]) = b := by
    rw [ca, ← List.take_succ_eq_append_getElem hk]
  have hje : joiE a (cutL p)[k] = 0 := by rw [joiE, if_pos (ka k), if_pos hx, hab]; exact ka (k + 1)
  have hl : lasL b = (cutL p)[k] := by rw [lasL, cb, List.take_succ_eq_append_getElem hk, List.getLast?_concat]; rfl
  have hne : cutL b ≠ [] := fun e => by
    rw [cb, List.take_succ_eq_append_getElem hk] at e
    have := congrArg List.length e
    simp only [List.length_append, List.length_singleton, List.length_nil] at this
    omega
  exact ⟨hx, hje, by rw [joiS, if_pos hje, hab], by rw [parE, if_pos (ka _), if_neg hne], by rw [lasN, if_pos (ka _), hl], by rw [lasI, if_pos (ka _), hl], la _, la _⟩
set_option maxHeartbeats 2000000 in
theorem whole_not (p : ByteArray) (hf1 : fitB (lA p) (lA ByteArray.empty) = false) (w : World) (hl : Len w) : Calls Try.prog 10 #[.string p] w fun e w' => e = .returned (.bool true) ∧ Below w.heap.size w w' := by
  have KF1 := Lib.hid (fun w => fit_any p ByteArray.empty false hf1 w)
  have B0 := Lib.hid (Below.refl w.heap.size w)
  have L_0 := Lib.hid hl
  clear hl hf1
  go_enter Try.func10, Try.ntmps10
  go_wp2_with fail
  refine (alive_any _ L_0.out).mono ?_
  rintro e w1 ⟨rfl, hb⟩
  have B1 := Lib.hid (B0.out.trans (hb.mono B0.out.size))
  have L_1 := Lib.hid (L_0.out.later hb)
  clear hb B0 L_0
  go_wp2_with fail
  refine (KF1.out _).mono ?_
  rintro e w2 ⟨rfl, hb⟩
  have B2 := Lib.hid (B1.out.trans (hb.mono B1.out.size))
  have L_2 := Lib.hid (L_1.out.later hb)
  clear hb B1 L_1
  go_wp2_with fail
  go_ret
  exact ⟨rfl, B2.out⟩
/-- What a round of the law's loop is told of its step. -/
structure WholeAt (x a b : Bs) : Prop where
  st : ∀ w, Calls Try.prog 33 #[.string (bA x)] w fun e w' => e = .returned (.tuple #[.string (bA (stN x)), .int .i64 (stI x), .bool true]) ∧ w = w'
  jo : ∀ w, Len w → Calls Try.prog 22 #[.string (bA a), .string (bA x)] w fun e w' => e = .returned (.tuple #[.string (bA b), .int .i64 0]) ∧ Below w.heap.size w w'
  la : ∀ w, Len w → Calls Try.prog 15 #[.string (bA b)] w fun e w' => e = .returned (.tuple #[.string (bA (stN x)), .int .i64 (stI x), .int .i64 0]) ∧ Below w.heap.size w w'
theorem whole_at {p : Bs} (hp : chk p = 0) (k : Nat) (hk : k < (cutL p).length) : WholeAt (cutL p)[k] (pathL ((cutL p).take k)) (pathL ((cutL p).take (k + 1))) := by
  obtain ⟨f1, f2, f3, f4, f5, f6, f7, f8⟩ := whole_step hp k hk
  have hl : (cutL p)[k].length ≤ 4000 := Nat.le_trans (cutL_len (List.getElem_mem _)) (chk_zero.1 hp).1
  refine ⟨fun w => ?_, fun w hw => ?_, fun w hw => ?_⟩
  · have := refstep_l (cutL p)[k] (by omega) w
    rwa [f1] at this
  · have := join_any (bA (pathL ((cutL p).take k))) (bA (cutL p)[k]) (by rw [bA_size]; omega) (by rw [bA_size]; omega) w hw
    rwa [lA_bA, lA_bA, f2, f3] at this
  · have := last_any (bA (pathL ((cutL p).take (k + 1)))) (by rw [bA_size]; omega) w hw
    rwa [lA_bA, f4, f5, f6] at this
set_option maxHeartbeats 4000000 in
theorem whole_main (p : ByteArray) (hf1 : fitB (lA p) (lA ByteArray.empty) = true) (xs : List Bs) (n : Nat) (hn : xs.length = n) (hn2 : n ≤ 40) (hp : pathL xs = lA p)
    (h1 : ∀ w, Len w → Calls Try.prog 11 #[.string p] w fun e w' => (∃ a cap, e = .returned (.tuple #[.slice a n cap, .int .i64 0]) ∧ Sl w' a cap xs) ∧ Below w.heap.size w w')
    (h2 : ∀ k (hk : k < xs.length), WholeAt xs[k] (pathL (xs.take k)) (pathL (xs.take (k + 1)))) (w : World) (hl : Len w) : Calls Try.prog 10 #[.string p] w fun e w' => e = .returned (.bool true) ∧ Below w.heap.size w w' := by
  have KF1 := Lib.hid (fun w => fit_any p ByteArray.empty true hf1 w)
  have K1 := Lib.hid h1
  have K2 := Lib.hid h2
  have HN := Lib.hid hn
  have HP : Hid (bA (pathL xs) = p) := Lib.hid (by rw [hp, bA_lA])
  have B0 := Lib.hid (Below.refl w.heap.size w)
  have L_0 := Lib.hid hl
  have z1 : ¬ (40 : Int) < n := by omega
  have z2 : decide ((40 : Int) < n) = false := decide_eq_false z1
  have z3 : decide (40 < n) = false := by rw [decide_eq_false_iff_not]; omega
  clear hl hf1 h1 h2 hn hp
  go_enter Try.func10, Try.ntmps10
  go_wp2_with fail
  refine (alive_any _ L_0.out).mono ?_
  rintro e w1 ⟨rfl, hb⟩
  have B1 := Lib.hid (B0.out.trans (hb.mono B0.out.size))
  have L_1 := Lib.hid (L_0.out.later hb)
  clear hb B0 L_0
  go_wp2_with fail
  refine (KF1.out _).mono ?_
  rintro e w2 ⟨rfl, hb⟩
  have B2 := Lib.hid (B1.out.trans (hb.mono B1.out.size))
  have L_2 := Lib.hid (L_1.out.later hb)
  clear hb B1 L_1
  go_wp2_with fail
  refine (K1.out _ L_2.out).mono ?_
  rintro e w3 ⟨⟨a, cap, rfl, hS⟩, hb⟩
  have B3 := Lib.hid (B2.out.trans (hb.mono B2.out.size))
  have L_3 := Lib.hid (L_2.out.later hb)
  clear hb B2 L_2
  have A_3 := Lib.hid hS
  clear hS
  go_wp2_with fail
  go_loopw [6, 7] (fun av iv wr => ∃ (k : Nat) (l : Bs), k ≤ n ∧ av = .string (bA l) ∧ iv = .int .i64 k ∧ l = pathL (xs.take k) ∧ Below w3.heap.size w3 wr) (fun _ iv _ => n - (intOf iv).toNat)
  case atStart => exact ⟨0, [], Nat.zero_le _, rfl, rfl, rfl, Below.refl _ _⟩
  case round =>
    obtain ⟨k, at0, hk, rfl, rfl, hat, hB⟩ := hrel
    have HB := Lib.hid hB
    have HAt := Lib.hid hat
    clear hB hat
    by_cases hlt : k < n
    · have hlx : k < xs.length := by rw [HN.out]; exact hlt
      obtain ⟨g, rfl, hR⟩ := (A_3.out.later HB.out).row (fun e => by rw [e] at hlx; simp at hlx)
      have c0 := hR.at k hlx
      have hW := K2.out k hlx
      have glt := hR.lt
      have hcap := hR.le
      rw [HN.out] at hcap
      have HR := Lib.hid hR
      clear hR
      obtain ⟨x, hx⟩ : ∃ x, xs[k] = x := ⟨_, rfl⟩
      obtain ⟨b, hb⟩ : ∃ b, pathL (xs.take (k + 1)) = b := ⟨_, rfl⟩
      rw [hx] at c0 hW
      rw [← HAt.out, hb] at hW
      have HBb := Lib.hid hb
      obtain ⟨s1, s2, s3⟩ := hW
      obtain ⟨nm, hnm⟩ : ∃ z, bA (stN x) = z := ⟨_, rfl⟩
      obtain ⟨ix, hix⟩ : ∃ z, stI x = z := ⟨_, rfl⟩
      rw [hnm, hix] at s1 s3
      have S1 := Lib.hid s1
      have S2 := Lib.hid s2
      have S3 := Lib.hid s3
      have k1 : (k : Int) < n := by omega
      have k0 : (0 : Int) ≤ k := by omega
      have LW := Lib.hid (L_3.out.later HB.out)
      clear s1 s2 s3 hx hb hnm hix
      go_wp2_with fail
      refine (S1.out _).mono ?_
      rintro e ws ⟨rfl, rfl⟩
      go_wp2_with fail
      refine (S2.out _ LW.out).mono ?_
      rintro e v1 ⟨rfl, hb⟩
      have HB1 := Lib.hid (HB.out.trans (hb.mono HB.out.size))
      have LW1 := Lib.hid (LW.out.later hb)
      clear hb
      go_wp2_with fail
      refine (S3.out _ LW1.out).mono ?_
      rintro e v2 ⟨rfl, hb⟩
      have HB2 := Lib.hid (HB1.out.trans (hb.mono HB1.out.size))
      clear hb
      go_wp2_with fail
      go_roundw
      case rel => exact ⟨k + 1, b, by omega, rfl, by go_num, HBb.out.symm, HB2.out⟩
      case measure => simp [intOf]; omega
    · obtain rfl : k = n := by omega
      have HE : Hid (bA at0 = p) := Lib.hid (by rw [HAt.out, List.take_of_length_le (by rw [HN.out]; exact Nat.le_refl _), HP.out])
      have h9 := HE.out
      clear HAt HE
      obtain ⟨pp, hpp⟩ : ∃ z, bA at0 = z := ⟨_, rfl⟩
      rw [hpp] at h9 ⊢
      subst h9
      go_wp2_with fail
      go_ret
      exact ⟨rfl, B3.out.trans (HB.out.mono B3.out.size)⟩
theorem whole_walk (p : ByteArray) (w : World) (hl : Len w) : Calls Try.prog 10 #[.string p] w fun e w' => e = .returned (.bool true) ∧ Below w.heap.size w w' := by
  cases hf1 : fitB (lA p) (lA ByteArray.empty)
  · exact whole_not p hf1 w hl
  · have hp := (fit_yes.1 hf1).1
    have hs := chk_size hp
    exact whole_main p hf1 (cutL (lA p)) _ rfl (chk_zero.1 hp).2.1 (pathL_cutL _) (fun w hl => steps_api p (by omega) 0 hp _ _ (by rw [stpR, if_pos hp]) rfl w hl) (fun k hk => whole_at hp k hk) w hl
end Go.Proofs.Ytjladbgidodhbaa
