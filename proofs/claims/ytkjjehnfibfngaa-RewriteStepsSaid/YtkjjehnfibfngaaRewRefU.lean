/-
  What the reference's Run hands back.
-/
import Derived.Test.YtkjjehnfibfngaaRewRefS
namespace Go.Proofs.Ytkjjehnfibfngaa
open Go.RowKit
open WM RM
set_option linter.unusedVariables false
set_option linter.unusedSimpArgs false

theorem succ_args {l : List Rw} (hs : ∀ r ∈ l, RwSm r) {m : Md} (hm : m.a.length ≤ 10) {d : List Md} (h : succM l m = some d) : ∀ x ∈ d, x.a.length ≤ 10 := by
  unfold succM at h
  split at h
  · split at h
    · rename_i r hr
      unfold made at h
      split at h
      · have := Option.some.inj h
        subst this
        intro x hx
        rw [List.mem_map] at hx
        obtain ⟨s, hs2, rfl⟩ := hx
        have := ((hs r (List.mem_of_getElem? hr)).2.2.2 s hs2).1
        simpa [mkM] using this
      · simp at h
    · simp at h
  · have := Option.some.inj h
    subst this
    intro x hx
    rw [List.mem_singleton] at hx
    subst hx; exact hm
theorem stepL_args {l : List Rw} (hs : ∀ r ∈ l, RwSm r) : ∀ (w : List Md) (d : List Md), (∀ m ∈ w, m.a.length ≤ 10) → stepL l w = some d → ∀ x ∈ d, x.a.length ≤ 10
  | [], d, _, h => by simp [stepL] at h; subst h; simp
  | m :: w, d, hw, h => by
    simp only [stepL] at h
    cases h1 : succM l m with
    | none => rw [h1] at h; simp at h
    | some a =>
      cases h2 : stepL l w with
      | none => rw [h1, h2] at h; simp at h
      | some b =>
        rw [h1, h2] at h
        have := Option.some.inj h
        subst this
        intro x hx
        rcases List.mem_append.1 hx with h3 | h3
        · exact succ_args hs (hw m (by simp)) h1 x h3
        · exact stepL_args hs w b (fun y hy => hw y (by simp [hy])) h2 x h3
theorem stL_small {l : List Rw} (hs : ∀ r ∈ l, RwSm r) {w : List Md} (hw : ∀ m ∈ w, m.a.length ≤ 10) : (stL l w).length ≤ 2000 ∧ ∀ m ∈ stL l w, m.a.length ≤ 10 := by
  unfold stL
  by_cases h : stC l w = 0
  · rw [if_pos h]
    cases hd : stepL l w with
    | none => simp
    | some d =>
      refine ⟨?_, stepL_args hs w d hw hd⟩
      unfold stC at h
      rw [hd] at h
      by_cases h1 : rchk l = 0
      · by_cases h2 : chk w = 0
        · simp only [h1, h2, ne_eq, not_true_eq_false, if_false] at h
          show d.length ≤ 2000
          split at h
          · omega
          · omega
        · rw [if_neg (by simp [h1]), if_pos h2] at h; exact absurd h h2
      · rw [if_pos h1] at h; exact absurd h h1
  · rw [if_neg h]; simp
theorem ru_rules {l : List Rw} {w : List Md} {n : Int} (h : rchk l ≠ 0) : ruC l w n = rchk l ∧ ruL l w n = [] := by
  have e : ruC l w n = rchk l := by unfold ruC; rw [if_pos h]
  exact ⟨e, by unfold ruL; rw [e, if_neg h]⟩
theorem ru_word {l : List Rw} {w : List Md} {n : Int} (h : rchk l = 0) (h2 : chk w ≠ 0) : ruC l w n = chk w ∧ ruL l w n = [] := by
  have e : ruC l w n = chk w := by unfold ruC; rw [if_neg (by simp [h]), if_pos h2]
  exact ⟨e, by unfold ruL; rw [e, if_neg h2]⟩
theorem ru_arg {l : List Rw} {w : List Md} {n : Int} (h : rchk l = 0) (h2 : chk w = 0) (h3 : n < 0 ∨ 30 < n) : ruC l w n = 2 ∧ ruL l w n = [] := by
  have e : ruC l w n = 2 := by unfold ruC; rw [if_neg (by simp [h]), if_neg (by simp [h2]), if_pos h3]
  exact ⟨e, by unfold ruL; rw [e]; rfl⟩
theorem ru_run {l : List Rw} {w : List Md} {n : Int} (h : rchk l = 0) (h2 : chk w = 0) (h3 : ¬ (n < 0 ∨ 30 < n)) {c : Int} {u : List Md} (hr : runF l n.toNat w = (c, u)) : ruC l w n = c ∧ ruL l w n = if c = 0 then u else [] := by
  have e : ruC l w n = c := by unfold ruC; rw [if_neg (by simp [h]), if_neg (by simp [h2]), if_neg h3, hr]
  exact ⟨e, by unfold ruL; rw [e, hr]⟩
theorem run_ok {l : List Rw} {u : List Md} {n : Nat} (h : stC l u = 0) : runF l (n + 1) u = runF l n (stL l u) := by rw [runF, if_neg (by simp [h])]
theorem run_no {l : List Rw} {u : List Md} {n : Nat} (h : stC l u ≠ 0) : runF l (n + 1) u = (stC l u, []) := by rw [runF, if_pos h]
theorem own_sl3 {w : World} {base n size : Nat} {e : TypeId} {v : Value} {xs : List Value} (h : w.ownsRow base e size v n xs) : ∃ p c, v = .slice p n c ∧ n ≤ c := by
  rcases h.2 with ⟨h1, h2⟩ | ⟨g, cap, cur, h1, _, _, h3, _⟩
  · exact ⟨none, 0, by rw [h1, h2], by omega⟩
  · exact ⟨_, _, h1, h3⟩
/-- How Run ends. -/
def RuEnd (l : List Rw) (wd : List Md) (n : Int) (w : World) (e : Ending) (w' : World) : Prop := ∃ v vs, e = .returned (.tuple #[v, .int .i64 (ruC l wd n)]) ∧ Below w.heap.size w w' ∧ ModFr w' w.heap.size v (ruL l wd n) vs
/-- Where the loop stands. -/
structure RnAt (w : World) (l : List Rw) (wd : List Md) (n i : Nat) (u : List Md) (v : Value) (wr : World) : Prop where
  hi : i ≤ n
  below : Below w.heap.size w wr
  own : ∃ vs, ModFr wr w.heap.size v u vs
  len : u.length ≤ 2100
  args : ∀ m ∈ u, m.a.length ≤ 10
  eq : runF l n wd = runF l (n - i) u
set_option maxRecDepth 100000 in
set_option maxHeartbeats 6400000 in
theorem refrun_any (KF : FineR) (v : Value) (l : List Rw) (hmax : l.length ≤ 9223372036854775807) (hs : ∀ r ∈ l, RwSm r) (wv : Value) (wd : List Md) (hwl : wd.length ≤ 2100) (hwa : ∀ m ∈ wd, m.a.length ≤ 10) (n : Int) (w : World) (hv : Rws w v l) (hw : Mods w wv wd) :
    Calls Try.prog 17 #[v, wv, .int .i64 n] w (RuEnd l wd n w) := by
  obtain ⟨p, cap, rfl⟩ := hv.slice
  obtain ⟨p2, cap2, rfl⟩ := hw.slice
  have HV := Lib.hid hv
  have HW := Lib.hid hw
  have KC := Lib.hid (fun w h => refcheck_any KF (.slice p l.length cap) l hmax hs w h)
  have KW := Lib.hid (fun w h => check_any (.slice p2 wd.length cap2) wd hwl hwa w h)
  have KT := Lib.hid (fun w h => twin_any (.slice p2 wd.length cap2) wd hwl hwa w h)
  have KS := Lib.hid (fun (q : Option Addr) (c : Nat) (u : List Md) h1 h2 h3 w h h' => refstep_any KF (.slice p l.length cap) l hmax hs q c u h1 h2 h3 w h h')
  have HS := Lib.hid hs
  have HL := Lib.hid hwl
  have HWA := Lib.hid hwa
  clear hv hw hs hwa
  by_cases h0 : rchk l = 0
  · by_cases h1 : chk wd = 0
    · have H0 := Lib.hid h0
      have H1 := Lib.hid h1
      rw [h0] at KC
      rw [h1] at KW
      clear h0 h1
      by_cases h2 : n < 0
      · have HE : Hid (∀ w', Below w.heap.size w w' → RuEnd l wd n w (.returned (.tuple #[.slice none 0 0, .int .i64 2])) w') := Lib.hid (fun w' hb => by
          have h5 := ru_arg (n := n) H0.out H1.out (.inl h2)
          exact ⟨_, [], by rw [h5.1], hb, by rw [h5.2]; exact modFr_nil _ _⟩)
        go_enter Try.func17, Try.ntmps17
        go_wp2_with fail
        refine (KC.out _ HV.out).mono ?_
        rintro e w1 ⟨rfl, hb⟩
        have B1 := Lib.hid hb
        clear hb
        go_wp2_with fail
        refine (KW.out _ (HW.out.later B1.out)).mono ?_
        rintro e w2 ⟨rfl, hb⟩
        have B2 := Lib.hid (B1.out.trans (hb.mono B1.out.size))
        clear hb
        go_wp2_with fail
        go_ret2
        exact HE.out _ B2.out
      · by_cases h3 : 30 < n
        · have HE : Hid (∀ w', Below w.heap.size w w' → RuEnd l wd n w (.returned (.tuple #[.slice none 0 0, .int .i64 2])) w') := Lib.hid (fun w' hb => by
            have h5 := ru_arg (n := n) H0.out H1.out (.inr h3)
            exact ⟨_, [], by rw [h5.1], hb, by rw [h5.2]; exact modFr_nil _ _⟩)
          go_enter Try.func17, Try.ntmps17
          go_wp2_with fail
          refine (KC.out _ HV.out).mono ?_
          rintro e w1 ⟨rfl, hb⟩
          have B1 := Lib.hid hb
          clear hb
          go_wp2_with fail
          refine (KW.out _ (HW.out.later B1.out)).mono ?_
          rintro e w2 ⟨rfl, hb⟩
          have B2 := Lib.hid (B1.out.trans (hb.mono B1.out.size))
          clear hb
          go_wp2_with fail
          go_ret2
          exact HE.out _ B2.out
        · obtain ⟨N, hN⟩ : ∃ N : Nat, n = (N : Int) := ⟨n.toNat, by omega⟩
          subst hN
          have HR : Hid (∀ c u, runF l N wd = (c, u) → ruC l wd (N : Int) = c ∧ ruL l wd (N : Int) = if c = 0 then u else []) := Lib.hid (fun c u h => ru_run H0.out H1.out (by omega) h)
          go_enter Try.func17, Try.ntmps17
          go_wp2_with fail
          refine (KC.out _ HV.out).mono ?_
          rintro e w1 ⟨rfl, hb⟩
          have B1 := Lib.hid hb
          clear hb
          go_wp2_with fail
          refine (KW.out _ (HW.out.later B1.out)).mono ?_
          rintro e w2 ⟨rfl, hb⟩
          have B2 := Lib.hid (B1.out.trans (hb.mono B1.out.size))
          clear hb
          go_wp2_with fail
          refine (KT.out _ (HW.out.later B2.out)).mono ?_
          rintro e w3 ⟨v3, vs3, rfl, hb, hmo⟩
          have S3 : Hid (RnAt w l wd N 0 wd v3 w3) := Lib.hid ⟨Nat.zero_le _, B2.out.trans (hb.mono B2.out.size), ⟨vs3, (modFr_of_own hmo).mono B2.out.size⟩, HL.out, HWA.out, rfl⟩
          clear hb hmo
          go_wp2_with fail
          go_loopw [1, 8] (fun v i wr => ∃ (i' : Nat) (u : List Md), i = .int .i64 (i' : Nat) ∧ RnAt w l wd N i' u v wr) (fun _ i _ => N - (intOf i).toNat)
          case atStart => exact ⟨0, wd, rfl, S3.out⟩
          case round =>
            obtain ⟨i, u, rfl, hS⟩ := hrel
            have HSt := Lib.hid hS
            have hi := hS.hi
            have hsz := hS.below.size
            obtain ⟨vs, hm⟩ := hS.own
            obtain ⟨q, c, hq, hqc⟩ := own_sl3 hm.row
            subst hq
            have HMF := Lib.hid hm
            clear hS hm
            by_cases hlt : i < N
            · have k1 : (i : Int) < (N : Int) := by omega
              have HEq : Hid (runF l N wd = runF l (N - (i + 1) + 1) u) := Lib.hid (by rw [HSt.out.eq]; congr 1; omega)
              have KS1 := Lib.hid (KS.out q c u hqc HSt.out.len HSt.out.args wr (HV.out.later HSt.out.below) HMF.out.mods)
              unfold RsEnd at KS1
              by_cases h5 : stC l u = 0
              · have HN : Hid (∀ w' v' vs', Below wr.heap.size wr w' → ModFr w' wr.heap.size v' (stL l u) vs' → RnAt w l wd N (i + 1) (stL l u) v' w') := Lib.hid (fun w' v' vs' hb hm => by
                  obtain ⟨g1, g2⟩ := stL_small HS.out HSt.out.args
                  exact ⟨hlt, HSt.out.below.trans (hb.mono hsz), ⟨vs', hm.mono hsz⟩, by omega, g2, by rw [HEq.out, run_ok h5]⟩)
                rw [h5] at KS1
                clear h5
                go_wp2_with fail
                refine KS1.out.mono ?_
                rintro e w4 ⟨v4, vs4, rfl, hb, hm⟩
                have HT := Lib.hid (HN.out _ _ _ hb hm)
                clear hb hm
                go_wp2_with fail
                go_roundw
                case rel => exact ⟨i + 1, _, by go_num, HT.out⟩
                case measure => simp [intOf]; omega
              · have HE : Hid (∀ w', Below wr.heap.size wr w' → RuEnd l wd (N : Int) w (.returned (.tuple #[.slice none 0 0, .int .i64 (stC l u)])) w') := Lib.hid (fun w' hb => by
                  have h6 := HR.out _ _ (HEq.out.trans (run_no h5))
                  rw [if_neg h5] at h6
                  exact ⟨_, [], by rw [h6.1], HSt.out.below.trans (hb.mono hsz), by rw [h6.2]; exact modFr_nil _ _⟩)
                obtain ⟨z, hz⟩ : ∃ z, stC l u = z := ⟨_, rfl⟩
                rw [hz] at KS1 HE h5
                have h6 : (z != 0) = true := by rw [bne_iff_ne]; exact h5
                clear h5 hz
                go_wp2_with fail
                refine KS1.out.mono ?_
                rintro e w4 ⟨v4, vs4, rfl, hb, hm⟩
                have B4 := Lib.hid hb
                clear hb hm
                go_wp2_with fail
                go_ret2
                exact HE.out _ B4.out
            · obtain rfl : i = N := by omega
              have k1 : ¬ (i : Int) < (i : Int) := by omega
              have HE : Hid (RuEnd l wd (i : Int) w (.returned (.tuple #[.slice q u.length c, .int .i64 0])) wr) := Lib.hid (by
                have h6 := HR.out 0 u (by rw [HSt.out.eq, Nat.sub_self]; rfl)
                rw [if_pos rfl] at h6
                exact ⟨_, vs, by rw [h6.1], HSt.out.below, by rw [h6.2]; exact HMF.out⟩)
              go_wp2_with fail
              go_ret2
              exact HE.out
    · have HE : Hid (∀ w', Below w.heap.size w w' → RuEnd l wd n w (.returned (.tuple #[.slice none 0 0, .int .i64 (chk wd)])) w') := Lib.hid (fun w' hb => ⟨_, [], by rw [(ru_word h0 h1).1], hb, by rw [(ru_word h0 h1).2]; exact modFr_nil _ _⟩)
      rw [h0] at KC
      obtain ⟨c, hc⟩ : ∃ c, chk wd = c := ⟨_, rfl⟩
      rw [hc] at KW HE h1
      have h2 : (c != 0) = true := by rw [bne_iff_ne]; exact h1
      clear h0 h1 hc
      go_enter Try.func17, Try.ntmps17
      go_wp2_with fail
      refine (KC.out _ HV.out).mono ?_
      rintro e w1 ⟨rfl, hb⟩
      have B1 := Lib.hid hb
      clear hb
      go_wp2_with fail
      refine (KW.out _ (HW.out.later B1.out)).mono ?_
      rintro e w2 ⟨rfl, hb⟩
      have B2 := Lib.hid (B1.out.trans (hb.mono B1.out.size))
      clear hb
      go_wp2_with fail
      refine (KW.out _ (HW.out.later B2.out)).mono ?_
      rintro e w3 ⟨rfl, hb⟩
      have B3 := Lib.hid (B2.out.trans (hb.mono B2.out.size))
      clear hb
      go_wp2_with fail
      go_ret2
      exact HE.out _ B3.out
  · have HE : Hid (∀ w', Below w.heap.size w w' → RuEnd l wd n w (.returned (.tuple #[.slice none 0 0, .int .i64 (rchk l)])) w') := Lib.hid (fun w' hb => ⟨_, [], by rw [(ru_rules h0).1], hb, by rw [(ru_rules h0).2]; exact modFr_nil _ _⟩)
    obtain ⟨c, hc⟩ : ∃ c, rchk l = c := ⟨_, rfl⟩
    rw [hc] at KC HE h0
    have h2 : (c != 0) = true := by rw [bne_iff_ne]; exact h0
    clear h0 hc
    go_enter Try.func17, Try.ntmps17
    go_wp2_with fail
    refine (KC.out _ HV.out).mono ?_
    rintro e w1 ⟨rfl, hb⟩
    have B1 := Lib.hid hb
    clear hb
    go_wp2_with fail
    refine (KC.out _ (HV.out.later B1.out)).mono ?_
    rintro e w2 ⟨rfl, hb⟩
    have B2 := Lib.hid (B1.out.trans (hb.mono B1.out.size))
    clear hb
    go_wp2_with fail
    go_ret2
    exact HE.out _ B2.out
end Go.Proofs.Ytkjjehnfibfngaa
