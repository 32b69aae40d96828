/-
  The walk of WordBrackets.
-/
import Derived.Test.YtjjjopopalcokaaDoorWordLawB
import Derived.Test.YtjjjopopalcokaaDoorWordBrM
namespace Go.Proofs.YtjjjopopalcokaaDoor
open Go.RowKit
open WM
set_option linter.unusedVariables false
set_option linter.unusedSimpArgs false

theorem clC_other {l : List Md} (h0 : chk l = 0) {i : Nat} (hi : i < l.length) (hc : braB l[i].c = false) : clC l (i : Int) = 2 := by
  have h1 : ¬ atB l (i : Int) = true := by
    intro h
    obtain ⟨k, hk, hk2, hk3⟩ := atB_iff.1 h
    obtain rfl : i = k := by omega
    rw [hc] at hk3; exact absurd hk3 (by simp)
  unfold clC; rw [if_neg (by simpa using h0), if_neg h1]
theorem cl_other {l : List Md} {i k : Nat} (h : IsCl l k i) (hik : i < k) : ∃ hk : k < l.length, l[k].c = 93 := by
  obtain ⟨hk, hi, h⟩ := h
  rcases h with ⟨_, g, _⟩ | ⟨g, _⟩
  · omega
  · exact ⟨hk, g⟩
theorem cl_shut {l : List Md} {i k : Nat} (h : IsCl l i k) (hc : ∀ hi : i < l.length, l[i].c = 93) : ∃ hk : k < l.length, k < i ∧ l[k].c = 91 := by
  obtain ⟨hi, hk, h⟩ := h
  rcases h with ⟨g, _⟩ | ⟨_, g, g2, _⟩
  · rw [hc hi] at g; exact absurd g (by decide)
  · exact ⟨hk, g, g2⟩
theorem mods_sub {w : World} {b off len cap cap2 : Nat} {l : List Md} (h : Mods w (.slice (some ⟨b, off, none⟩) len cap) l) {i k : Nat} (hk : k < l.length) (hik : i < k) :
    Mods w (.slice (some ⟨b, off + (i + 1) * 2, none⟩) (k - (i + 1)) cap2) (sub l i k) := by
  cases h with
  | none _ _ => simp at hk
  | some _ _ _ _ hpos hb hx =>
    have e := sub_len (l := l) (i := i) (k := k) (by omega)
    rcases Nat.eq_zero_or_pos (k - (i + 1)) with h0 | h0
    · rw [h0]
      have : sub l i k = [] := List.eq_nil_of_length_eq_zero (by rw [e, h0])
      rw [this]; exact .none _ _
    · have := Mods.some (w := w) b (off + (i + 1) * 2) cap2 (sub l i k) (by rw [e]; exact h0) hb (by
        intro j hj
        rw [e] at hj
        obtain ⟨h1, v, h2, h3, h4⟩ := hx (i + 1 + j) (by omega)
        rw [sub_get (by omega) hj]
        have ea : off + (i + 1) * 2 + j * 2 = off + (i + 1 + j) * 2 := by omega
        rw [ea]
        exact ⟨h1, v, h2, h3, h4⟩)
      rwa [e] at this
theorem dpI_rng {l : List Md} (h0 : chk l = 0) : 0 ≤ dpI l ∧ dpI l ≤ l.length := by
  unfold dpI; rw [if_pos h0]
  exact ⟨dmax_nonneg _ _, dmax_le (chk_zero.1 h0).2.2.1 _ (Nat.le_refl _)⟩
set_option maxRecDepth 100000 in
set_option maxHeartbeats 3200000 in
theorem brackets_walk (p : Option Addr) (len cap : Nat) (hlc : len ≤ cap) (l : List Md) (hmax : l.length ≤ 9223372036854775807) (hargs : ∀ m ∈ l, m.a.length ≤ 9223372036854775807) (w : World) (hv : Mods w (.slice p len cap) l) (he : Env w) :
    Calls Tryd.prog 6 #[.slice p len cap] w fun e w' => e = .returned (.bool true) ∧ Below w.heap.size w w' := by
  obtain rfl : len = l.length := by
    obtain ⟨q, c, e⟩ := hv.slice
    simp only [Value.slice.injEq] at e
    exact e.2.1
  have KV := Lib.hid (lawvalid_any (.slice p l.length cap) l hmax hargs w hv)
  have KA := Lib.hid alive_any
  have HE := Lib.hid he
  have HV := Lib.hid hv
  cases hvb : validB l with
  | false =>
    rw [hvb] at KV
    clear hv he hargs hvb
    go_enter Tryd.func6, Tryd.ntmps6
    go_wp2_with fail
    refine KV.out.mono ?_
    rintro e w1 ⟨rfl, hb⟩
    have B1 := Lib.hid hb
    clear hb
    go_wp2_with fail
    refine (KA.out _ (HE.out.later B1.out)).mono ?_
    rintro e w2 ⟨rfl, hb⟩
    have B2 := Lib.hid (B1.out.trans (hb.mono B1.out.size))
    clear hb
    go_wp2_with fail
    go_ret
    exact ⟨rfl, B2.out⟩
  | true =>
    obtain ⟨hg, h0⟩ := validB_yes hvb
    rw [hvb] at KV
    have hsm : l.length ≤ 2000 := (chk_zero.1 h0).1
    have H0 := Lib.hid h0
    have HA := Lib.hid hargs
    have KC := Lib.hid (fun i w h => uclose_any (.slice p l.length cap) l hmax hargs i w h)
    have KD := Lib.hid (fun w h => pdepth_any (.slice p l.length cap) l hmax hargs w h)
    have HDD : Hid (dpI l = bm l l.length) := Lib.hid (by rw [bm_all h0]; unfold dpI; rw [if_pos h0])
    rw [h0] at KD
    clear hv he hargs hvb hg h0
    go_enter Tryd.func6, Tryd.ntmps6
    go_wp2_with fail
    refine KV.out.mono ?_
    rintro e w1 ⟨rfl, hb⟩
    have B1 := Lib.hid hb
    clear hb
    go_wp2_with fail
    go_loopw [3, 4] (fun m i wr => ∃ k : Nat, k ≤ l.length ∧ i = .int .i64 k ∧ m = .int .i64 (bm l k) ∧ Below w.heap.size w wr) (fun _ i _ => l.length - (intOf i).toNat)
    case atStart => exact ⟨0, Nat.zero_le _, rfl, rfl, B1.out⟩
    case round =>
      obtain ⟨i, hi, rfl, rfl, hB⟩ := hrel
      have HB := Lib.hid hB
      clear hB
      by_cases hlt : i < l.length
      · have k1 : (i : Int) < (l.length : Int) := by omega
        have HVr := Lib.hid (HV.out.later HB.out)
        obtain ⟨b, off, cap', q, d, hp, e0, _, _, lb⟩ := HV.out.at hlt
        obtain rfl : p = some ⟨b, off, none⟩ := by cases hp; rfl
        clear hp
        have hb0 := bm_nonneg l i
        have hb1 : bm l i ≤ 2000 := by
          have h1 := bm_le H0.out i hi
          have h2 := dmax_le (chk_zero.1 H0.out).2.2.1 l.length (Nat.le_refl _)
          omega
        have sz := HB.out.size
        by_cases h91 : l[i].c = 91
        · obtain ⟨k, hk⟩ := isCl_ex H0.out hlt (by rw [h91]; rfl)
          obtain ⟨hik, _⟩ := cl_open hk fun _ => h91
          have hs := cl_sym H0.out hk
          obtain ⟨hkl, h93⟩ := cl_other hs hik
          obtain ⟨b', off', cap'', q', d', hp', f0, _, _, _⟩ := HV.out.at hkl
          obtain ⟨rfl, rfl⟩ : b = b' ∧ off = off' := by cases hp'; exact ⟨rfl, rfl⟩
          clear hp'
          have c1 : w.cell? ⟨b, off + i * 2, none⟩ = some (.int .u8 91) := by rw [e0, h91]; rfl
          have c2 : w.cell? ⟨b, off + k * 2, none⟩ = some (.int .u8 93) := by rw [f0, h93]; rfl
          have HX := Lib.hid (bm_open hlt h91 hk)
          have hsc := sub_chk H0.out hk fun _ => h91
          have hdr := dpI_rng hsc
          rw [sub_len (by omega)] at hdr
          have KC1 := Lib.hid (fun w h => KC.out (i : Int) w h)
          have KC2 := Lib.hid (fun w h => KC.out (k : Int) w h)
          rw [(cl_val H0.out hk).1, (cl_val H0.out hk).2] at KC1
          rw [(cl_val H0.out hs).1, (cl_val H0.out hs).2] at KC2
          have KD2 := Lib.hid (fun v w h => pdepth_any v (sub l i k) (by rw [sub_len (by omega)]; omega) (fun m hm => HA.out m (sub_mem m hm)) w h)
          rw [hsc] at KD2
          have HS := Lib.hid (fun (w : World) (c2 : Nat) (h : Mods w (.slice (some ⟨b, off, none⟩) l.length cap) l) => mods_sub (cap2 := c2) h hkl hik)
          generalize sub l i k = L2 at *
          obtain ⟨dd, hdd⟩ : ∃ dd, dpI L2 = dd := ⟨_, rfl⟩
          rw [hdd] at KD2 hdr HX
          obtain ⟨m, hm⟩ : ∃ m, bm l i = m := ⟨_, rfl⟩
          rw [hm] at hb0 hb1 HX ⊢
          have k2 : (k : Int) < (l.length : Int) := by omega
          have k3 : ¬ ((k : Int) < 0) := by omega
          have k4 : ¬ ((l.length : Int) ≤ (k : Int)) := by omega
          have k5 : (i : Int) < (k : Int) := by omega
          have k6 : (k : Int) ≤ (cap : Int) := by omega
          have k7 : cap - (i + 1) ≠ 0 := by omega
          have k8 : (i : Int) + 1 ≤ (k : Int) := by omega
          clear hk hs hik h91 h93 hsc hdd hm e0 f0
          go_wp2_with fail
          refine (KC1.out _ HVr.out).mono ?_
          rintro e w2 ⟨rfl, hb⟩
          have B2 := Lib.hid (HB.out.trans (hb.mono sz))
          have s2 := B2.out.size
          have f1 := (B2.out.cell (p := ⟨b, off + i * 2, none⟩) lb).trans c1
          have f2 := (B2.out.cell (p := ⟨b, off + k * 2, none⟩) lb).trans c2
          clear hb
          go_wp2_with fail
          go_quiet (fail)
          go_wp2_with fail
          refine (KC2.out _ (HV.out.later (below_drewN B2.out _))).mono ?_
          rintro e w3 ⟨rfl, hb⟩
          have B3 := Lib.hid ((below_drewN B2.out _).trans (hb.mono s2))
          have s3 := B3.out.size
          have g1 := (B3.out.cell (p := ⟨b, off + i * 2, none⟩) lb).trans c1
          have g2 := (B3.out.cell (p := ⟨b, off + k * 2, none⟩) lb).trans c2
          clear hb
          go_wp2_with fail
          refine (KD2.out _ _ (HS.out _ _ (HV.out.later B3.out))).mono ?_
          rintro e w4 ⟨rfl, hb⟩
          have B4 := Lib.hid (B3.out.trans (hb.mono s3))
          clear hb
          go_wp2_with fail
          go_roundw
          case rel => exact ⟨i + 1, by omega, by go_num, by rw [HX.out], B4.out⟩
          case measure => simp [intOf]; omega
        · by_cases h93 : l[i].c = 93
          · obtain ⟨k, hk⟩ := isCl_ex H0.out hlt (by rw [h93]; rfl)
            obtain ⟨hkl, hki, hk91⟩ := cl_shut hk fun _ => h93
            have hs := cl_sym H0.out hk
            obtain ⟨b', off', cap'', q', d', hp', f0, _, _, _⟩ := HV.out.at hkl
            obtain ⟨rfl, rfl⟩ : b = b' ∧ off = off' := by cases hp'; exact ⟨rfl, rfl⟩
            clear hp'
            have c1 : w.cell? ⟨b, off + i * 2, none⟩ = some (.int .u8 93) := by rw [e0, h93]; rfl
            have c2 : w.cell? ⟨b, off + k * 2, none⟩ = some (.int .u8 91) := by rw [f0, hk91]; rfl
            have HX := Lib.hid (bm_other hlt h91)
            have KC1 := Lib.hid (fun w h => KC.out (i : Int) w h)
            have KC2 := Lib.hid (fun w h => KC.out (k : Int) w h)
            rw [(cl_val H0.out hk).1, (cl_val H0.out hk).2] at KC1
            rw [(cl_val H0.out hs).1, (cl_val H0.out hs).2] at KC2
            obtain ⟨m, hm⟩ : ∃ m, bm l i = m := ⟨_, rfl⟩
            rw [hm] at hb0 hb1 HX ⊢
            have k2 : (k : Int) < (l.length : Int) := by omega
            have k3 : ¬ ((k : Int) < 0) := by omega
            have k4 : ¬ ((l.length : Int) ≤ (k : Int)) := by omega
            have k5 : ¬ (i : Int) < (k : Int) := by omega
            clear hk hs h91 h93 hk91 hm e0 f0
            go_wp2_with fail
            refine (KC1.out _ HVr.out).mono ?_
            rintro e w2 ⟨rfl, hb⟩
            have B2 := Lib.hid (HB.out.trans (hb.mono sz))
            have s2 := B2.out.size
            have f1 := (B2.out.cell (p := ⟨b, off + i * 2, none⟩) lb).trans c1
            have f2 := (B2.out.cell (p := ⟨b, off + k * 2, none⟩) lb).trans c2
            clear hb
            go_wp2_with fail
            go_quiet (fail)
            go_wp2_with fail
            refine (KC2.out _ (HV.out.later (below_drewN B2.out _))).mono ?_
            rintro e w3 ⟨rfl, hb⟩
            have B3 := Lib.hid ((below_drewN B2.out _).trans (hb.mono s2))
            have s3 := B3.out.size
            have g1 := (B3.out.cell (p := ⟨b, off + i * 2, none⟩) lb).trans c1
            have g2 := (B3.out.cell (p := ⟨b, off + k * 2, none⟩) lb).trans c2
            clear hb
            go_wp2_with fail
            go_roundw
            case rel => exact ⟨i + 1, by omega, by go_num, by rw [HX.out], B3.out⟩
            case measure => simp [intOf]; omega
          · have hbr : braB l[i].c = false := by unfold braB; simp [h91, h93]
            have KC1 := Lib.hid (fun w h => KC.out (i : Int) w h)
            rw [clC_other H0.out hlt hbr] at KC1
            have HX := Lib.hid (bm_other hlt h91)
            obtain ⟨x, hx⟩ : ∃ x, l[i].c = x := ⟨_, rfl⟩
            rw [hx] at h91 h93 e0
            obtain ⟨y, hy⟩ : ∃ y, clV l (i : Int) = y := ⟨_, rfl⟩
            rw [hy] at KC1
            have t1 : ((x.toNat : Int) != 91) = true := by
              rw [show (91 : Int) = ((91 : UInt8).toNat : Int) from rfl, u8_ne]; simp [h91]
            have t2 : ((x.toNat : Int) != 93) = true := by
              rw [show (93 : Int) = ((93 : UInt8).toNat : Int) from rfl, u8_ne]; simp [h93]
            obtain ⟨m, hm⟩ : ∃ m, bm l i = m := ⟨_, rfl⟩
            rw [hm] at hb0 hb1 HX ⊢
            clear h91 h93 hbr hm hx hy
            go_wp2_with fail
            refine (KC1.out _ HVr.out).mono ?_
            rintro e w2 ⟨rfl, hb⟩
            have B2 := Lib.hid (HB.out.trans (hb.mono sz))
            have s2 := B2.out.size
            have f1 := (B2.out.cell (p := ⟨b, off + i * 2, none⟩) lb).trans e0
            clear hb
            go_wp2_with fail
            go_roundw
            case rel => exact ⟨i + 1, by omega, by go_num, by rw [HX.out], B2.out⟩
            case measure => simp [intOf]; omega
      · obtain rfl : i = l.length := by omega
        have sz := HB.out.size
        have k1 : ¬ (l.length : Int) < (l.length : Int) := by omega
        have HVr := Lib.hid (HV.out.later HB.out)
        rw [HDD.out] at KD
        obtain ⟨m, hm⟩ : ∃ m, bm l l.length = m := ⟨_, rfl⟩
        rw [hm] at KD ⊢
        clear hm
        go_wp2_with fail
        refine (KD.out _ HVr.out).mono ?_
        rintro e w2 ⟨rfl, hb⟩
        have B2 := Lib.hid (HB.out.trans (hb.mono sz))
        clear hb
        go_wp2_with fail
        refine (KA.out _ (HE.out.later B2.out)).mono ?_
        rintro e w3 ⟨rfl, hb⟩
        have B3 := Lib.hid (B2.out.trans (hb.mono B2.out.size))
        clear hb
        go_wp2_with fail
        go_ret
        exact ⟨rfl, B3.out⟩
end Go.Proofs.YtjjjopopalcokaaDoor
