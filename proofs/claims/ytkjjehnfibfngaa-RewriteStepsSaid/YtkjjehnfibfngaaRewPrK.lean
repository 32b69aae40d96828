/-
  What the package's Run and Step hand back.
-/
import Derived.Test.YtkjjehnfibfngaaRewPrJ
import Derived.Test.YtkjjehnfibfngaaRewStM
namespace Go.Proofs.Ytkjjehnfibfngaa
open Go.RowKit
open WM RM
set_option linter.unusedVariables false
set_option linter.unusedSimpArgs false

theorem sp_st {l : List Rw} (hl : rchk l = 0) {u : List Md} (hu : chk u = 0) : spC l u = stC l u ∧ spL l u = stL l u := by
  obtain ⟨h1, h2⟩ := st_valid hl hu
  exact ⟨by rw [h1]; rfl, by rw [h2]; rfl⟩
theorem chk_args {u : List Md} (h : chk u = 0) : ∀ m ∈ u, m.a.length ≤ 10 := fun m hm => by
  have := (fine_args4 (List.all_eq_true.1 (chk_zero.1 h).2.1 m hm)).1
  omega
/-- How Run ends. -/
def PuEnd (l : List Rw) (wd : List Md) (n : Int) (w : World) (e : Ending) (w' : World) : Prop := ∃ v vs, e = .returned (.tuple #[v, .int .i64 (ruC l wd n)]) ∧ Below w.heap.size w w' ∧ ModFr w' w.heap.size v (ruL l wd n) vs
/-- Where the loop stands. -/
structure PnAt (w : World) (l : List Rw) (wd : List Md) (n i : Nat) (u : List Md) (v : Value) (wr : World) : Prop where
  hi : i ≤ n
  below : Below w.heap.size w wr
  own : ∃ vs, ModFr wr w.heap.size v u vs
  ok : chk u = 0
  eq : runF l n wd = runF l (n - i) u
set_option maxRecDepth 100000 in
set_option maxHeartbeats 6400000 in
theorem prun_any (v : Value) (l : List Rw) (hmax : l.length ≤ 9223372036854775807) (hs : ∀ r ∈ l, RwSm r) (wv : Value) (wd : List Md) (hwl : wd.length ≤ 9223372036854775807) (hwa : ∀ m ∈ wd, m.a.length ≤ 9223372036854775807) (n : Int) (w : World) (hv : Rws w v l) (hw : Mods w wv wd) (hnil : NilOr wv) :
    Calls Try.prog 16 #[v, wv, .int .i64 n] w (PuEnd l wd n w) := by
  obtain ⟨p, cap, rfl⟩ := hv.slice
  obtain ⟨p2, cap2, rfl⟩ := hw.slice
  have HV := Lib.hid hv
  have HW := Lib.hid hw
  have KC := Lib.hid (fun w h => prcheck_any (.slice p l.length cap) l hmax hs w h)
  have KW := Lib.hid (fun w h => pcheck_any (.slice p2 wd.length cap2) wd hwl hwa w h)
  clear hv hw hwa
  by_cases h0 : rchk l = 0
  · by_cases h1 : chk wd = 0
    · have H0 := Lib.hid h0
      have H1 := Lib.hid h1
      have hr0 := rchk_zero h0
      have hwd := chk_zero.1 h1
      have KT := Lib.hid (fun (w : World) (h : Mods w (.slice p2 wd.length cap2) wd) => ptwin_any (.slice p2 wd.length cap2) wd (by omega) (fun m hm => by have := chk_args h1 m hm; omega) w h hnil)
      have KS := Lib.hid (fun (wv : Value) (u : List Md) (us : List Value) (hu : chk u = 0) (b0 : Nat) (w : World) hb h1 h2 => pstep_any p cap l hmax hs (fun r hr => (hr0.2 r hr).1) (fun r hr => ((many_no hr0.1).2 r hr).2) wv u us (chk_zero.1 hu).1 (fun m hm => List.all_eq_true.1 (chk_zero.1 hu).2.1 m hm) b0 w hb h1 h2)
      rw [h0] at KC
      rw [h1] at KW
      clear h0 h1 hr0 hwd hs hnil
      by_cases h2 : n < 0
      · have HE : Hid (∀ w', Below w.heap.size w w' → PuEnd l wd n w (.returned (.tuple #[.slice none 0 0, .int .i64 2])) w') := Lib.hid (fun w' hb => by
          have h5 := ru_arg (n := n) H0.out H1.out (.inl h2)
          exact ⟨_, [], by rw [h5.1], hb, by rw [h5.2]; exact modFr_nil _ _⟩)
        go_enter Try.func16, Try.ntmps16
        go_wp2_with fail
        refine (KC.out _ HV.out).mono ?_
        rintro e w1 ⟨rfl, hb⟩
        have B1 := Lib.hid hb
        clear hb
        go_wp2_with fail
        refine (KW.out _ (HW.out.later B1.out)).mono ?_
        rintro e w2 ⟨rfl, hb⟩
        have B2 := Lib.hid (B1.out.trans (hb.mono B1.out.size))
        clear hb
        go_wp2_with fail
        go_ret2
        exact HE.out _ B2.out
      · by_cases h3 : 30 < n
        · have HE : Hid (∀ w', Below w.heap.size w w' → PuEnd l wd n w (.returned (.tuple #[.slice none 0 0, .int .i64 2])) w') := Lib.hid (fun w' hb => by
            have h5 := ru_arg (n := n) H0.out H1.out (.inr h3)
            exact ⟨_, [], by rw [h5.1], hb, by rw [h5.2]; exact modFr_nil _ _⟩)
          go_enter Try.func16, Try.ntmps16
          go_wp2_with fail
          refine (KC.out _ HV.out).mono ?_
          rintro e w1 ⟨rfl, hb⟩
          have B1 := Lib.hid hb
          clear hb
          go_wp2_with fail
          refine (KW.out _ (HW.out.later B1.out)).mono ?_
          rintro e w2 ⟨rfl, hb⟩
          have B2 := Lib.hid (B1.out.trans (hb.mono B1.out.size))
          clear hb
          go_wp2_with fail
          go_ret2
          exact HE.out _ B2.out
        · obtain ⟨N, hN⟩ : ∃ N : Nat, n = (N : Int) := ⟨n.toNat, by omega⟩
          subst hN
          have HR : Hid (∀ c u, runF l N wd = (c, u) → ruC l wd (N : Int) = c ∧ ruL l wd (N : Int) = if c = 0 then u else []) := Lib.hid (fun c u h => ru_run H0.out H1.out (by omega) h)
          go_enter Try.func16, Try.ntmps16
          go_wp2_with fail
          refine (KC.out _ HV.out).mono ?_
          rintro e w1 ⟨rfl, hb⟩
          have B1 := Lib.hid hb
          clear hb
          go_wp2_with fail
          refine (KW.out _ (HW.out.later B1.out)).mono ?_
          rintro e w2 ⟨rfl, hb⟩
          have B2 := Lib.hid (B1.out.trans (hb.mono B1.out.size))
          clear hb
          go_wp2_with fail
          refine (KT.out _ (HW.out.later B2.out)).mono ?_
          rintro e w3 ⟨v3, vs3, rfl, hb, hmo⟩
          have S3 : Hid (PnAt w l wd N 0 wd v3 w3) := Lib.hid ⟨Nat.zero_le _, B2.out.trans (hb.mono B2.out.size), ⟨vs3, hmo.mono B2.out.size⟩, H1.out, rfl⟩
          clear hb hmo
          go_wp2_with fail
          go_loopw [10, 32] (fun v i wr => ∃ (i' : Nat) (u : List Md), i = .int .i64 (i' : Nat) ∧ PnAt w l wd N i' u v wr) (fun _ i _ => N - (intOf i).toNat)
          case atStart => exact ⟨0, wd, rfl, S3.out⟩
          case round =>
            rename World => wo
            obtain ⟨i, u, rfl, hS⟩ := hrel
            have HSt := Lib.hid hS
            have hi := hS.hi
            have hsz := hS.below.size
            obtain ⟨vs, hm⟩ := hS.own
            obtain ⟨q, c, hq⟩ := fr_slice hm.row
            subst hq
            have HMF := Lib.hid hm
            have HOk := Lib.hid hS.ok
            clear hS hm
            by_cases hlt : i < N
            · have k1 : (i : Int) < (N : Int) := by omega
              have HEq : Hid (runF l N wd = runF l (N - (i + 1) + 1) u) := Lib.hid (by rw [HSt.out.eq]; congr 1; omega)
              have KS1 := Lib.hid (KS.out (.slice q u.length c) u vs HOk.out w.heap.size wo hsz (HV.out.later HSt.out.below) HMF.out)
              unfold SpEnd at KS1
              obtain ⟨hsp1, hsp2⟩ := sp_st H0.out HOk.out
              rw [hsp1, hsp2] at KS1
              clear hsp1 hsp2
              by_cases h5 : stC l u = 0
              · have HN : Hid (∀ w' v' vs', Below wo.heap.size wo w' → ModFr w' w.heap.size v' (stL l u) vs' → PnAt w l wd N (i + 1) (stL l u) v' w') := Lib.hid (fun w' v' vs' hb hm =>
                  ⟨hlt, HSt.out.below.trans (hb.mono hsz), ⟨vs', hm⟩, stL_chk H0.out HOk.out, by rw [HEq.out, run_ok h5]⟩)
                rw [h5] at KS1
                clear h5
                go_wp2_with fail
                refine KS1.out.mono ?_
                rintro e w4 ⟨v4, vs4, rfl, hb, hm⟩
                have HT := Lib.hid (HN.out _ _ _ hb hm)
                clear hb hm
                go_wp2_with fail
                go_roundw
                case rel => exact ⟨i + 1, _, by go_num, HT.out⟩
                case measure => simp [intOf]; omega
              · have HE : Hid (∀ w', Below wo.heap.size wo w' → PuEnd l wd (N : Int) w (.returned (.tuple #[.slice none 0 0, .int .i64 (stC l u)])) w') := Lib.hid (fun w' hb => by
                  have h6 := HR.out _ _ (HEq.out.trans (run_no h5))
                  rw [if_neg h5] at h6
                  exact ⟨_, [], by rw [h6.1], HSt.out.below.trans (hb.mono hsz), by rw [h6.2]; exact modFr_nil _ _⟩)
                obtain ⟨z, hz⟩ : ∃ z, stC l u = z := ⟨_, rfl⟩
                rw [hz] at KS1 HE h5
                have h6 : (z != 0) = true := by rw [bne_iff_ne]; exact h5
                clear h5 hz
                go_wp2_with fail
                refine KS1.out.mono ?_
                rintro e w4 ⟨v4, vs4, rfl, hb, hm⟩
                have B4 := Lib.hid hb
                clear hb hm
                go_wp2_with fail
                go_ret2
                exact HE.out _ B4.out
            · obtain rfl : i = N := by omega
              have k1 : ¬ (i : Int) < (i : Int) := by omega
              have HE : Hid (PuEnd l wd (i : Int) w (.returned (.tuple #[.slice q u.length c, .int .i64 0])) wo) := Lib.hid (by
                have h6 := HR.out 0 u (by rw [HSt.out.eq, Nat.sub_self]; rfl)
                rw [if_pos rfl] at h6
                exact ⟨_, vs, by rw [h6.1], HSt.out.below, by rw [h6.2]; exact HMF.out⟩)
              go_wp2_with fail
              go_ret2
              exact HE.out
    · have HE : Hid (∀ w', Below w.heap.size w w' → PuEnd l wd n w (.returned (.tuple #[.slice none 0 0, .int .i64 (chk wd)])) w') := Lib.hid (fun w' hb => ⟨_, [], by rw [(ru_word h0 h1).1], hb, by rw [(ru_word h0 h1).2]; exact modFr_nil _ _⟩)
      rw [h0] at KC
      obtain ⟨c, hc⟩ : ∃ c, chk wd = c := ⟨_, rfl⟩
      rw [hc] at KW HE h1
      have h2 : (c != 0) = true := by rw [bne_iff_ne]; exact h1
      clear h0 h1 hc
      go_enter Try.func16, Try.ntmps16
      go_wp2_with fail
      refine (KC.out _ HV.out).mono ?_
      rintro e w1 ⟨rfl, hb⟩
      have B1 := Lib.hid hb
      clear hb
      go_wp2_with fail
      refine (KW.out _ (HW.out.later B1.out)).mono ?_
      rintro e w2 ⟨rfl, hb⟩
      have B2 := Lib.hid (B1.out.trans (hb.mono B1.out.size))
      clear hb
      go_wp2_with fail
      go_ret2
      exact HE.out _ B2.out
  · have HE : Hid (∀ w', Below w.heap.size w w' → PuEnd l wd n w (.returned (.tuple #[.slice none 0 0, .int .i64 (rchk l)])) w') := Lib.hid (fun w' hb => ⟨_, [], by rw [(ru_rules h0).1], hb, by rw [(ru_rules h0).2]; exact modFr_nil _ _⟩)
    obtain ⟨c, hc⟩ : ∃ c, rchk l = c := ⟨_, rfl⟩
    rw [hc] at KC HE h0
    have h2 : (c != 0) = true := by rw [bne_iff_ne]; exact h0
    clear h0 hc
    go_enter Try.func16, Try.ntmps16
    go_wp2_with fail
    refine (KC.out _ HV.out).mono ?_
    rintro e w1 ⟨rfl, hb⟩
    have B1 := Lib.hid hb
    clear hb
    go_wp2_with fail
    go_ret2
    exact HE.out _ B1.out
theorem ru_one (l : List Rw) (wd : List Md) : ruC l wd 1 = stC l wd ∧ ruL l wd 1 = stL l wd := by
  have hr : runF l 1 wd = if stC l wd ≠ 0 then (stC l wd, []) else (0, stL l wd) := by
    rw [runF]
    split
    · rfl
    · rw [runF]
  have e : ruC l wd 1 = stC l wd := by
    unfold ruC
    by_cases h0 : rchk l = 0
    · by_cases h1 : chk wd = 0
      · rw [if_neg (by simp [h0]), if_neg (by simp [h1]), if_neg (by omega)]
        show (runF l 1 wd).1 = _
        rw [hr]
        split
        · rfl
        · rename_i h; simp at h; exact h.symm
      · rw [if_neg (by simp [h0]), if_pos h1, (st_word h0 h1).1]
    · rw [if_pos h0, (st_rules h0).1]
  refine ⟨e, ?_⟩
  unfold ruL
  rw [e]
  by_cases h : stC l wd = 0
  · rw [if_pos h]
    show (runF l 1 wd).2 = _
    rw [hr, if_neg (by simp [h])]
  · rw [if_neg h]
    unfold stL; rw [if_neg h]
/-- How Step ends. -/
def PsEnd (l : List Rw) (wd : List Md) (w : World) (e : Ending) (w' : World) : Prop := ∃ v vs, e = .returned (.tuple #[v, .int .i64 (stC l wd)]) ∧ Below w.heap.size w w' ∧ ModFr w' w.heap.size v (stL l wd) vs
set_option maxRecDepth 100000 in
set_option maxHeartbeats 1600000 in
theorem pstep1_any (v : Value) (l : List Rw) (hmax : l.length ≤ 9223372036854775807) (hs : ∀ r ∈ l, RwSm r) (wv : Value) (wd : List Md) (hwl : wd.length ≤ 9223372036854775807) (hwa : ∀ m ∈ wd, m.a.length ≤ 9223372036854775807) (w : World) (hv : Rws w v l) (hw : Mods w wv wd) (hnil : NilOr wv) :
    Calls Try.prog 14 #[v, wv] w (PsEnd l wd w) := by
  have K := Lib.hid (prun_any v l hmax hs wv wd hwl hwa 1 w hv hw hnil)
  obtain ⟨p, cap, rfl⟩ := hv.slice
  obtain ⟨p2, cap2, rfl⟩ := hw.slice
  unfold PuEnd at K
  rw [(ru_one l wd).1, (ru_one l wd).2] at K
  clear hv hw hs hwa hnil
  obtain ⟨c, hc⟩ : ∃ c, stC l wd = c := ⟨_, rfl⟩
  have HC := Lib.hid hc
  rw [hc] at K
  clear hc
  go_enter Try.func14, Try.ntmps14
  go_wp2_with fail
  refine K.out.mono ?_
  rintro e w1 ⟨v1, vs, rfl, hb, hm⟩
  have HE : Hid (PsEnd l wd w (.returned (.tuple #[v1, .int .i64 c])) w1) := Lib.hid ⟨_, vs, by rw [HC.out], hb, hm⟩
  clear hb hm
  go_wp2_with fail
  go_ret2
  exact HE.out
end Go.Proofs.Ytkjjehnfibfngaa
