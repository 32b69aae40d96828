/-
  What the reference's Compare, Join and Long hand back.
-/
import Derived.Test.YtjladbgidodhbaaLabRefG
namespace Go.Proofs.Ytjladbgidodhbaa
open Go.RowKit
open LM
set_option linter.unusedVariables false
set_option linter.unusedSimpArgs false

def SignIs (a b : Bool) (r : Int) : Prop := (if a = true then -1 else if b = true then 1 else 0) = r
theorem sign_is (a b : Bool) (w : World) : Calls Try.prog 52 #[.bool a, .bool b] w fun e w' => ∃ r, e = .returned (.int .i64 r) ∧ SignIs a b r ∧ w = w' :=
  (sign_any a b w).mono fun e w' ⟨h1, h2⟩ => ⟨_, h1, rfl, h2⟩
theorem shared_ne {a b : List Bs} (h1 : sharedL a b < a.length) (h2 : sharedL a b < b.length) : a[sharedL a b] ≠ b[sharedL a b] := fun e => by
  have := sharedL_step (Nat.le_refl _) h1 h2 e; omega
theorem cmpS_names {x y : Bs} (h : preL x ≠ preL y) : cmpS x y = if decide (cmpN (preL x) (preL y) < 0) = true then -1 else if (!decide (cmpN (preL x) (preL y) < 0)) = true then 1 else 0 := by
  have h0 : cmpN (preL x) (preL y) ≠ 0 := fun e => h (cmpN_eq.1 e)
  have hr := cmpN_ord.range (preL x) (preL y)
  unfold cmpS; rw [if_neg h0]
  by_cases h1 : cmpN (preL x) (preL y) < 0
  · simp [h1]; omega
  · simp [h1]; omega
theorem cmpS_index {x y : Bs} (h : preL x = preL y) : cmpS x y = if decide (indI x < indI y) = true then -1 else if decide (indI y < indI x) = true then 1 else 0 := by
  unfold cmpS
  rw [if_pos (by rw [h]; exact cmpN_ord.zero _)]
  unfold cmpI
  simp only [decide_eq_true_eq]
theorem row_cut (s : ByteArray) (hs : s.size ≤ 100000) (xs : List Bs) (n : Nat) (hx : cutL (lA s) = xs) (hn : xs.length = n) (h0 : 0 < n) (w : World) :
    Calls Try.prog 36 #[.string s] w fun e w' => ∃ g cap, e = .returned (.slice (some ⟨g, 0, none⟩) n cap) ∧ Row w' g cap xs ∧ Below w.heap.size w w' := by
  refine cut_row s hs (Nat.pos_of_ne_zero fun e => ?_) xs n hx hn w
  have : lA s = [] := List.length_eq_zero_iff.1 (by rw [lA_len]; exact e)
  rw [this] at hx
  rw [← hn, ← hx] at h0
  simp [cutL] at h0

set_option maxRecDepth 100000 in
set_option maxHeartbeats 2000000 in
theorem refcompare_any (p q : ByteArray) (hp : p.size ≤ 100000) (hq : q.size ≤ 100000) (w : World) :
    Calls Try.prog 29 #[.string p, .string q] w fun e w' => e = .returned (.tuple #[.int .i64 (cmpR (lA p) (lA q)), .int .i64 (both (lA p) (lA q))]) ∧ Below w.heap.size w w' := by
  have B0 := Lib.hid (Below.refl w.heap.size w)
  obtain ⟨c, hc⟩ : ∃ c, both (lA p) (lA q) = c := ⟨_, rfl⟩
  have K1 := Lib.hid (fun w => refboth_v p q hp hq c hc w)
  by_cases h0 : c = 0
  · subst h0
    obtain ⟨xs, hx⟩ : ∃ xs, cutL (lA p) = xs := ⟨_, rfl⟩
    obtain ⟨n, hn⟩ : ∃ n, xs.length = n := ⟨_, rfl⟩
    obtain ⟨ys, hy⟩ : ∃ ys, cutL (lA q) = ys := ⟨_, rfl⟩
    obtain ⟨m, hm⟩ : ∃ m, ys.length = m := ⟨_, rfl⟩
    obtain ⟨k, hk⟩ : ∃ k, sharedL xs ys = k := ⟨_, rfl⟩
    have hnb : n ≤ 200000 := by rw [← hn, ← hx]; exact cutL_few hp
    have hmb : m ≤ 200000 := by rw [← hm, ← hy]; exact cutL_few hq
    have hkn : k ≤ n := by rw [← hk, ← hn]; exact (sharedL_le xs ys).1
    have hkm : k ≤ m := by rw [← hk, ← hm]; exact (sharedL_le xs ys).2
    have K4 := Lib.hid (fun a b cap cap' w (hR : Sl w a cap xs) (hS : Sl w b cap' ys) => shared_sl a b cap n cap' m xs ys hn hm hnb hmb k hk w hR hS)
    have hval : cmpR (lA p) (lA q) = lexC cmpS xs ys := by rw [cmpR, if_pos hc, cmpP, hx, hy]
    rw [lex_shared (α := Unit) cmpS_ord] at hval
    have HC := Lib.hid hc
    by_cases hkk : k < n ∧ k < m
    · obtain ⟨k1, k2⟩ := hkk
      have hk2 : sharedL xs ys < xs.length ∧ sharedL xs ys < ys.length := by rw [hk, hn, hm]; exact ⟨k1, k2⟩
      have hne := shared_ne hk2.1 hk2.2
      rw [dif_pos hk2] at hval
      obtain ⟨x, hxx⟩ : ∃ x, xs[sharedL xs ys]'hk2.1 = x := ⟨_, rfl⟩
      obtain ⟨y, hyy⟩ : ∃ y, ys[sharedL xs ys]'hk2.2 = y := ⟨_, rfl⟩
      have hvx : stepB x = true := (chk_zero.1 (both_zero.1 hc).1).2.2 x (by rw [hx, ← hxx]; exact List.getElem_mem _)
      have hvy : stepB y = true := (chk_zero.1 (both_zero.1 hc).2).2.2 y (by rw [hy, ← hyy]; exact List.getElem_mem _)
      rw [hxx, hyy] at hne hval
      rw [if_neg (fun e => hne ((cmpS_eq hvx hvy).1 e))] at hval
      have HX : Hid (∀ g cap w, Row w g cap xs → w.cell? ⟨g, k, none⟩ = some (sV x)) := Lib.hid (fun g cap w hR => by subst hk; rw [hR.at _ hk2.1, hxx])
      have HY : Hid (∀ g cap w, Row w g cap ys → w.cell? ⟨g, k, none⟩ = some (sV y)) := Lib.hid (fun g cap w hR => by subst hk; rw [hR.at _ hk2.2, hyy])
      have hxl : x.length ≤ 100000 := by have := step_len hvx; omega
      have hyl : y.length ≤ 100000 := by have := step_len hvy; omega
      have K2 := Lib.hid (fun w => row_cut p hp xs n hx hn (by omega) w)
      have K3 := Lib.hid (fun w => row_cut q hq ys m hy hm (by omega) w)
      have hN := Lib.hid hn
      have hM := Lib.hid hm
      obtain ⟨u, hu⟩ : ∃ u, preL x = u := ⟨_, rfl⟩
      obtain ⟨v, hv⟩ : ∃ v, preL y = v := ⟨_, rfl⟩
      obtain ⟨i, hi⟩ : ∃ i, indI x = i := ⟨_, rfl⟩
      obtain ⟨j, hj⟩ : ∃ j, indI y = j := ⟨_, rfl⟩
      have K5 : Hid (∀ w, Calls Try.prog 33 #[.string (bA x)] w fun e w' => e = .returned (.tuple #[.string (bA u), .int .i64 i, .bool true]) ∧ w = w') := Lib.hid (fun w => by
        have := refstep_l x hxl w
        rwa [(stN_yes hvx).1, (stN_yes hvx).2, hvx, hu, hi] at this)
      have K6 : Hid (∀ w, Calls Try.prog 33 #[.string (bA y)] w fun e w' => e = .returned (.tuple #[.string (bA v), .int .i64 j, .bool true]) ∧ w = w') := Lib.hid (fun w => by
        have := refstep_l y hyl w
        rwa [(stN_yes hvy).1, (stN_yes hvy).2, hvy, hv, hj] at this)
      have t1 : ((k : Int) == n) = false := by rw [beq_eq_false_iff_ne]; omega
      have t2 : ((k : Int) == m) = false := by rw [beq_eq_false_iff_ne]; omega
      by_cases huv : u = v
      · have HV : Hid (cmpR (lA p) (lA q) = if decide (i < j) = true then -1 else if decide (j < i) = true then 1 else 0) := Lib.hid (by rw [hval, cmpS_index (by rw [hu, hv, huv]), hi, hj])
        subst huv
        clear hval hne hvx hvy hxx hyy hk2 hxl hyl hu hv hi hj hc hx hn hy hm hk hkn hkm
        go_enter Try.func29, Try.ntmps29
        go_wp2_with fail
        refine (K1.out _).mono ?_
        rintro e w1 ⟨rfl, hb⟩
        have B1 := Lib.hid (B0.out.trans (hb.mono B0.out.size))
        clear hb B0 
        go_wp2_with fail
        refine (K2.out _).mono ?_
        rintro e w2 ⟨g, capg, rfl, hR, hb⟩
        have B2 := Lib.hid (B1.out.trans (hb.mono B1.out.size))
        have hcapg := hR.le
        rw [hN.out] at hcapg
        have R_2 := Lib.hid hR
        clear hb hR B1
        go_wp2_with fail
        refine (K3.out _).mono ?_
        rintro e w3 ⟨h, caph, rfl, hR, hb⟩
        have B3 := Lib.hid (B2.out.trans (hb.mono B2.out.size))
        have hcaph := hR.le
        rw [hM.out] at hcaph
        have R_3 := Lib.hid (R_2.out.later hb)
        have S_3 := Lib.hid hR
        clear hb hR B2 R_2
        go_wp2_with fail
        refine (K4.out _ _ _ _ _ (.inr ⟨_, rfl, R_3.out⟩) (.inr ⟨_, rfl, S_3.out⟩)).mono ?_
        rintro e w4 ⟨rfl, hb⟩
        have B4 := Lib.hid (B3.out.trans (hb.mono B3.out.size))
        have R_4 := Lib.hid (R_3.out.later hb)
        have S_4 := Lib.hid (S_3.out.later hb)
        clear hb B3 R_3 S_3
        have hcx := HX.out _ _ _ R_4.out
        have hcy := HY.out _ _ _ S_4.out
        have z0 : (0 : Int) ≤ k := by omega
        have z1 : (k : Int) < n := by omega
        have z2 : (k : Int) < m := by omega
        go_wp2_with fail
        refine (K5.out _).mono ?_
        rintro e ws ⟨rfl, rfl⟩
        go_wp2_with fail
        refine (K6.out _).mono ?_
        rintro e ws ⟨rfl, rfl⟩
        go_wp2_with fail
        refine (sign_is _ _ _).mono ?_
        rintro e ws ⟨r, rfl, hr, rfl⟩
        have HSg := Lib.hid hr
        clear hr
        go_wp2_with fail
        go_ret2
        exact ⟨by rw [HV.out.trans HSg.out, HC.out]; rfl, B4.out⟩
      · obtain ⟨e1, e2, e3⟩ := bA_ne huv
        obtain ⟨t, ht⟩ : ∃ t, decide (cmpN u v < 0) = t := ⟨_, rfl⟩
        have HV : Hid (cmpR (lA p) (lA q) = if t = true then -1 else if (!t) = true then 1 else 0) := Lib.hid (by rw [hval, cmpS_names (by rw [hu, hv]; exact huv), hu, hv, ht])
        have e4 : Op.bytesLess (bA u).toList (bA v).toList = t := by rw [bytesLess_val, ht]
        clear hval hne hvx hvy hxx hyy hk2 hxl hyl hu hv hi hj hc hx hn hy hm hk hkn hkm ht huv
        go_enter Try.func29, Try.ntmps29
        go_wp2_with fail
        refine (K1.out _).mono ?_
        rintro e w1 ⟨rfl, hb⟩
        have B1 := Lib.hid (B0.out.trans (hb.mono B0.out.size))
        clear hb B0 
        go_wp2_with fail
        refine (K2.out _).mono ?_
        rintro e w2 ⟨g, capg, rfl, hR, hb⟩
        have B2 := Lib.hid (B1.out.trans (hb.mono B1.out.size))
        have hcapg := hR.le
        rw [hN.out] at hcapg
        have R_2 := Lib.hid hR
        clear hb hR B1
        go_wp2_with fail
        refine (K3.out _).mono ?_
        rintro e w3 ⟨h, caph, rfl, hR, hb⟩
        have B3 := Lib.hid (B2.out.trans (hb.mono B2.out.size))
        have hcaph := hR.le
        rw [hM.out] at hcaph
        have R_3 := Lib.hid (R_2.out.later hb)
        have S_3 := Lib.hid hR
        clear hb hR B2 R_2
        go_wp2_with fail
        refine (K4.out _ _ _ _ _ (.inr ⟨_, rfl, R_3.out⟩) (.inr ⟨_, rfl, S_3.out⟩)).mono ?_
        rintro e w4 ⟨rfl, hb⟩
        have B4 := Lib.hid (B3.out.trans (hb.mono B3.out.size))
        have R_4 := Lib.hid (R_3.out.later hb)
        have S_4 := Lib.hid (S_3.out.later hb)
        clear hb B3 R_3 S_3
        have hcx := HX.out _ _ _ R_4.out
        have hcy := HY.out _ _ _ S_4.out
        have z0 : (0 : Int) ≤ k := by omega
        have z1 : (k : Int) < n := by omega
        have z2 : (k : Int) < m := by omega
        go_wp2_with fail
        refine (K5.out _).mono ?_
        rintro e ws ⟨rfl, rfl⟩
        go_wp2_with fail
        refine (K6.out _).mono ?_
        rintro e ws ⟨rfl, rfl⟩
        go_wp2_with fail
        refine (sign_is _ _ _).mono ?_
        rintro e ws ⟨r, rfl, hr, rfl⟩
        have HSg := Lib.hid hr
        clear hr
        go_wp2_with fail
        go_ret2
        exact ⟨by rw [HV.out.trans HSg.out, HC.out]; rfl, B4.out⟩
    · have hk2 : ¬ (sharedL xs ys < xs.length ∧ sharedL xs ys < ys.length) := by rw [hk, hn, hm]; exact hkk
      rw [dif_neg hk2, hn, hm] at hval
      have HV : Hid (cmpR (lA p) (lA q) = if decide ((n : Int) < m) = true then -1 else if decide ((m : Int) < n) = true then 1 else 0) := Lib.hid (by rw [hval]; simp)
      have HV2 : Hid (cmpR (lA p) (lA q) = if decide (n < m) = true then -1 else if decide (m < n) = true then 1 else 0) := Lib.hid (by rw [hval]; simp)
      have K2 := Lib.hid (fun w => cut_sl p hp xs n hx hn w)
      have K3 := Lib.hid (fun w => cut_sl q hq ys m hy hm w)
      clear hval hc hx hn hy hm hk hk2
      by_cases t1 : k = n
      · have t2 : ((k : Int) == n) = true := by rw [beq_iff_eq]; omega
        have T1 := Lib.hid t1
        clear t1 hkk hkn hkm
        go_enter Try.func29, Try.ntmps29
        go_wp2_with fail
        refine (K1.out _).mono ?_
        rintro e w1 ⟨rfl, hb⟩
        have B1 := Lib.hid (B0.out.trans (hb.mono B0.out.size))
        clear hb B0 
        go_wp2_with fail
        refine (K2.out _).mono ?_
        rintro e w2 ⟨⟨a, cap, rfl, hS⟩, hb⟩
        have B2 := Lib.hid (B1.out.trans (hb.mono B1.out.size))
        clear hb B1 
        have S_2 := Lib.hid hS
        clear hS
        go_wp2_with fail
        refine (K3.out _).mono ?_
        rintro e w3 ⟨⟨b, cap', rfl, hS⟩, hb⟩
        have B3 := Lib.hid (B2.out.trans (hb.mono B2.out.size))
        have S_3 := Lib.hid (S_2.out.later hb)
        clear hb B2 S_2
        have T_3 := Lib.hid hS
        clear hS
        go_wp2_with fail
        refine (K4.out a b cap cap' _ S_3.out T_3.out).mono ?_
        rintro e w4 ⟨rfl, hb⟩
        have B4 := Lib.hid (B3.out.trans (hb.mono B3.out.size))
        have S_4 := Lib.hid (S_3.out.later hb)
        have T_4 := Lib.hid (T_3.out.later hb)
        clear hb B3 S_3 T_3
        go_wp2_with fail
        refine (sign_is _ _ _).mono ?_
        rintro e ws ⟨r, rfl, hr, rfl⟩
        have HSg := Lib.hid hr
        clear hr
        go_wp2_with fail
        go_ret2
        exact ⟨by first | (rw [HV.out.trans HSg.out, HC.out]; rfl) | (rw [HV2.out.trans HSg.out, HC.out]; rfl), B4.out⟩
      · have t2 : ((k : Int) == n) = false := by rw [beq_eq_false_iff_ne]; omega
        have t3 : ((k : Int) == m) = true := by rw [beq_iff_eq]; omega
        have T1 := Lib.hid t1
        clear t1 hkk hkn hkm
        go_enter Try.func29, Try.ntmps29
        go_wp2_with fail
        refine (K1.out _).mono ?_
        rintro e w1 ⟨rfl, hb⟩
        have B1 := Lib.hid (B0.out.trans (hb.mono B0.out.size))
        clear hb B0 
        go_wp2_with fail
        refine (K2.out _).mono ?_
        rintro e w2 ⟨⟨a, cap, rfl, hS⟩, hb⟩
        have B2 := Lib.hid (B1.out.trans (hb.mono B1.out.size))
        clear hb B1 
        have S_2 := Lib.hid hS
        clear hS
        go_wp2_with fail
        refine (K3.out _).mono ?_
        rintro e w3 ⟨⟨b, cap', rfl, hS⟩, hb⟩
        have B3 := Lib.hid (B2.out.trans (hb.mono B2.out.size))
        have S_3 := Lib.hid (S_2.out.later hb)
        clear hb B2 S_2
        have T_3 := Lib.hid hS
        clear hS
        go_wp2_with fail
        refine (K4.out a b cap cap' _ S_3.out T_3.out).mono ?_
        rintro e w4 ⟨rfl, hb⟩
        have B4 := Lib.hid (B3.out.trans (hb.mono B3.out.size))
        have S_4 := Lib.hid (S_3.out.later hb)
        have T_4 := Lib.hid (T_3.out.later hb)
        clear hb B3 S_3 T_3
        go_wp2_with fail
        refine (sign_is _ _ _).mono ?_
        rintro e ws ⟨r, rfl, hr, rfl⟩
        have HSg := Lib.hid hr
        clear hr
        go_wp2_with fail
        go_ret2
        exact ⟨by first | (rw [HV.out.trans HSg.out, HC.out]; rfl) | (rw [HV2.out.trans HSg.out, HC.out]; rfl), B4.out⟩
  · have h1 : (c != 0) = true := bne_iff_ne.2 h0
    have HU : Hid (cmpR (lA p) (lA q) = 0) := Lib.hid (by rw [cmpR, hc, if_neg h0])
    have HC := Lib.hid hc
    clear hc
    go_enter Try.func29, Try.ntmps29
    go_wp2_with fail
    refine (K1.out _).mono ?_
    rintro e w1 ⟨rfl, hb⟩
    have B1 := Lib.hid (B0.out.trans (hb.mono B0.out.size))
    clear hb B0 
    go_wp2_with fail
    refine (K1.out _).mono ?_
    rintro e w2 ⟨rfl, hb⟩
    have B2 := Lib.hid (B1.out.trans (hb.mono B1.out.size))
    clear hb B1 
    go_wp2_with fail
    go_ret2
    exact ⟨by rw [HU.out, HC.out]; rfl, B2.out⟩
end Go.Proofs.Ytjladbgidodhbaa
