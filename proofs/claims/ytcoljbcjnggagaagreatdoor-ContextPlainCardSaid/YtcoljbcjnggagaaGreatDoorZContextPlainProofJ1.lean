/-
  The walk of ContextPlain.
-/
import Derived.Test.YtcoljbcjnggagaaGreatDoorZContextBackProofM17
namespace Go.Proofs.YtcoljbcjnggagaaGreatDoor
open Go.RowKit
open WM RM CM
set_option linter.unusedVariables false
set_option linter.unusedSimpArgs false

theorem same_yesP (v1 v2 : Value) (l : List Md) (h1 : l.length ≤ 9223372036854775807) (g1 : ∀ m ∈ l, m.a.length ≤ 9223372036854775807) (w : World) (i1 : Mods w v1 l) (i2 : Mods w v2 l) :
    Calls Tryz.prog 21 #[v1, v2] w fun e w' => e = .returned (.bool true) ∧ Below w.heap.size w w' := by
  have := same_any v1 v2 l l h1 h1 g1 g1 w i1 i2
  rwa [decide_eq_true rfl] at this
theorem csL_sm (g : Bs) (l : List Rw) (u : List Md) : (csL g l u).length ≤ 2000 ∧ ∀ m ∈ csL g l u, m.a.length ≤ 10 := by
  by_cases h0 : cchk g l = 0
  · by_cases h1 : chk u = 0
    · have h := csL_chk h0 h1
      exact ⟨(chk_zero.1 h).1, fun m hm => by have := (fine_args4 (List.all_eq_true.1 (chk_zero.1 h).2.1 m hm)).1; omega⟩
    · rw [(cs_word h0 h1).2]; simp
  · rw [(cs_rules h0).2]; simp
theorem bare_lr (l : List Rw) : ∀ r ∈ l.map bareR, r.l = 0 ∧ r.r = 0 := by
  intro r hr
  obtain ⟨x, _, rfl⟩ := List.mem_map.1 hr
  exact ⟨rfl, rfl⟩
set_option maxRecDepth 100000 in
set_option maxHeartbeats 6400000 in
theorem cplain_walk (v : Value) (l : List Rw) (hmax : l.length ≤ 9223372036854775807) (s : ByteArray) (hss : s.size ≤ 9223372036854775807) (wv : Value) (u : List Md) (hu : u.length ≤ 9223372036854775807) (hua : ∀ m ∈ u, m.a.length ≤ 9223372036854775807) (w : World) (hr : Rws w v l) (hnv : NilOr v) (hw : Mods w wv u) (hnw : NilOr wv) (he : Env w) :
    Calls Tryz.prog 4 #[v, .string s, wv] w fun e w' => e = .returned (.bool true) ∧ Below w.heap.size w w' := by
  have HE := Lib.hid he
  have KA := Lib.hid calive_any
  have KV := Lib.hid (cvalid_any v wv l s u hmax hss hu hua w hr hw)
  obtain ⟨p2, cap2, rfl⟩ := hw.slice
  have HW := Lib.hid hw
  have HR := Lib.hid hr
  have KS0 := Lib.hid (fun v' a b w h h' h2 => cpstep1_any v' (l.map bareR) a b s hss (.slice p2 u.length cap2) u hu hua w h h' h2 hnw)
  have KT0 := Lib.hid (fun v' a b w h h2 => pstep1_any v' (l.map bareR) a b (.slice p2 u.length cap2) u hu hua w h h2 hnw)
  clear hw he hnw
  have HG0 : Hid (∀ g, g = lA s → True) := Lib.hid (fun _ _ => trivial)
  generalize lA s = g at KV KS0
  cases hv : clawB g l u with
  | false =>
    rw [hv] at KV
    obtain ⟨p, cap, rfl⟩ := hr.slice
    clear hv hr
    go_enter Tryz.func4, Tryz.ntmps4
    go_wp2_with fail
    refine KV.out.mono ?_
    rintro e w1 ⟨rfl, hb⟩
    have B1 := Lib.hid hb
    clear hb
    go_wp2_with fail
    refine (KA.out _ (HE.out.later B1.out)).mono ?_
    rintro e w2 ⟨rfl, hb⟩
    have B2 := Lib.hid (B1.out.trans (hb.mono B1.out.size))
    clear hb
    go_wp2_with fail
    go_ret
    exact ⟨rfl, B2.out⟩
  | true =>
    rw [hv] at KV
    obtain ⟨hgr, _, hc0, _, hu3, h1⟩ := clawB_iff.1 hv
    obtain ⟨g1, g2⟩ := greatR_sm hgr
    obtain ⟨q1, q2, q3⟩ := cs_plain (g := g) (u := u) (bare_lr l) (cchk_bare hc0)
    have KS := Lib.hid (fun v' w h h' h2 => KS0.out v' (by rw [List.length_map]; exact g1) (sm_bare g2) w h h' h2)
    have KT := Lib.hid (fun v' w h h2 => KT0.out v' (by rw [List.length_map]; omega) (sm_bare g2) w h h2)
    unfold CptEnd at KS
    unfold PtEnd at KT
    rw [← q2, ← q3] at KT
    obtain ⟨s1, s2⟩ := csL_sm g (l.map bareR) u
    have KY := Lib.hid (fun x y w h h' => same_yesP x y (csL g (l.map bareR) u) (by omega) (fun m hm => by have := s2 m hm; omega) w h h')
    have hl50 := g1
    generalize csC g (l.map bareR) u = cc at KS KT
    generalize csL g (l.map bareR) u = d at KS KT KY
    have tcc : (cc == cc) = true := beq_self_eq_true _
    obtain ⟨j0, hj, hy0, hy1, hy2⟩ := info_parts info_rw
    have HM : Hid (maxLen = 9223372036854775807) := Lib.hid rfl
    clear hv hgr hc0 h1 g1 g2 q1 q2 q3 s1 s2 KS0 KT0
    rcases hnv with rfl | ⟨ad, n, c, rfl⟩
    · obtain ⟨p, cap, hp⟩ := hr.slice
      simp only [Value.slice.injEq] at hp
      obtain rfl : l = [] := List.length_eq_zero_iff.1 hp.2.1.symm
      have HOwn : Hid (∀ w1 : World, (w1.alloc (.cells #[] 28)).ownsRow w1.heap.size 28 7 (.slice (some ⟨w1.heap.size, 0, none⟩) 0 0) 0 []) := Lib.hid (fun w1 => World.ownsRow_made w1 #[] 0 (Nat.le_refl _) (Nat.zero_le _) rfl)
      clear hp hr
      go_enter Tryz.func4, Tryz.ntmps4
      go_wp2_with fail
      refine KV.out.mono ?_
      rintro e w1 ⟨rfl, hb⟩
      have B1 := Lib.hid hb
      have S0 : Hid (AlAt w1 [] (.slice (some ⟨w1.heap.size, 0, none⟩) ([] : List Rw).length 0) 0 (w1.alloc (.cells #[] 28))) := Lib.hid ⟨Nat.le_refl _, (Below.refl _ _).alloc (Nat.le_refl _) _, [], HOwn.out w1, RowR.nil _⟩
      clear hb
      go_wp2_with (at_builtin; refine j_append_nil rfl _ _ 29 rfl w1.heap.size 28 j0 7 Tryz.underlying29 hj (.slice (some ⟨w1.heap.size, 0, none⟩) 0 0) 0 [] rfl (HOwn.out w1) rfl ?_)
      obtain ⟨w2, hw2⟩ : ∃ W, W = w1.alloc (.cells #[] 28) := ⟨_, rfl⟩
      rw [← hw2] at S0 ⊢
      clear hw2
      have HRb := S0.out.fin
      obtain ⟨v9, hv9, hb9, hr9⟩ := HRb
      obtain rfl := Ending.returned.inj hv9
      have B2 := Lib.hid (B1.out.trans (hb9.mono B1.out.size))
      have R2 := Lib.hid hr9
      clear hv9 hb9 hr9
      go_wp2_with fail
      go_loop [8] (fun i => i = .int .i64 0) (fun _ => 0)
      case atStart => rfl
      case round =>
        subst hrel
        go_wp2_with fail
        refine (KS.out _ _ R2.out (.inr ⟨_, _, _, rfl⟩) (HW.out.later B2.out)).mono ?_
        rintro e w3 ⟨x3, vs3, rfl, hb, hm⟩
        have C3 := Lib.hid hb
        have B3 := Lib.hid (B2.out.trans (hb.mono B2.out.size))
        have M3 := Lib.hid hm.mods
        obtain ⟨p3, c3, rfl⟩ := hm.mods.slice
        clear hb hm
        go_wp2_with fail
        refine (KT.out _ _ (R2.out.later C3.out) (HW.out.later B3.out)).mono ?_
        rintro e w4 ⟨x4, vs4, rfl, hb, hm⟩
        have C4 := Lib.hid hb
        have B4 := Lib.hid (B3.out.trans (hb.mono B3.out.size))
        have M4 := Lib.hid hm.mods
        obtain ⟨p4, c4, rfl⟩ := hm.mods.slice
        clear hb hm
        go_wp2_with fail
        refine (KY.out _ _ _ (M3.out.later C4.out) M4.out).mono ?_
        rintro e w5 ⟨rfl, hb⟩
        have B5 := Lib.hid (B4.out.trans (hb.mono B4.out.size))
        clear hb
        go_wp2_with fail
        refine (KA.out _ (HE.out.later B5.out)).mono ?_
        rintro e w6 ⟨rfl, hb⟩
        have B6 := Lib.hid (B5.out.trans (hb.mono B5.out.size))
        clear hb
        go_wp2_with fail
        go_ret
        exact ⟨rfl, B6.out⟩
    · obtain ⟨p, cap, hp⟩ := hr.slice
      simp only [Value.slice.injEq] at hp
      obtain ⟨rfl, rfl, rfl⟩ := hp
      go_enter Tryz.func4, Tryz.ntmps4
      go_wp2_with fail
      refine KV.out.mono ?_
      rintro e w1 ⟨rfl, hb⟩
      have B1 := Lib.hid hb
      obtain ⟨news, hrow, hcells⟩ := rws_news (HR.out.later hb)
      have HRow := Lib.hid hrow
      have HCl2 := Lib.hid (hcells (w1.alloc (.cells #[] 28)) ((Below.refl _ _).alloc (Nat.le_refl _) _))
      have HOwn : Hid ((w1.alloc (.cells #[] 28)).ownsRow w1.heap.size 28 7 (.slice (some ⟨w1.heap.size, 0, none⟩) 0 0) 0 []) := Lib.hid (World.ownsRow_made w1 #[] 0 (Nat.le_refl _) (Nat.zero_le _) rfl)
      have BA : Hid (Below w1.heap.size w1 (w1.alloc (.cells #[] 28))) := Lib.hid ((Below.refl _ _).alloc (Nat.le_refl _) _)
      clear hb hrow hcells hr
      go_wp2_with (at_builtin; refine wpList_append_own_at _ rfl _ _ 29 rfl w1.heap.size 28 j0 (.agg #[.int .u8 0, .int .i64 0, .int .u8 0, .int .u8 0, .slice none 0 0, .int .i64 0, .slice none 0 0]) 7 80 Tryz.underlying29 hj hy0 hy1 hy2 rfl (by decide) (.slice (some ⟨w1.heap.size, 0, none⟩) 0 0) 0 [] rfl HOwn.out ad l.length c news rfl HRow.out.len HCl2.out HRow.out.ones (by rw [HM.out]; omega) (by omega) BA.out.size ?_; intro v2 w3 ho2 hg2 hn2 hb2)
      have S0 : Hid (AlAt w1 l v2 0 w3) := Lib.hid (by
        have hB := BA.out.grown hg2 BA.out.size (fun j e => by have h : w1.heap.size = j := Option.some.inj e; omega)
        exact ⟨Nat.zero_le _, hB, news, by simpa using ho2, by rw [mixR_zero]; exact HRow.out⟩)
      obtain ⟨p1, c1, rfl⟩ : ∃ p1 c1, v2 = .slice p1 l.length c1 := by
        obtain ⟨xs, h, _⟩ := S0.out.own
        exact own_sl h
      clear ho2 hg2 hn2 hb2
      go_wp2_with fail
      (go_loopw [8] (fun i wr => ∃ k : Nat, i = .int .i64 k ∧ AlAt w1 l (.slice p1 l.length c1) k wr) (fun i _ => l.length - (intOf i).toNat))
      case atStart => exact ⟨0, rfl, S0.out⟩
      case round =>
        obtain ⟨k, rfl, hO⟩ := hrel
        have HO := Lib.hid hO
        have n1 := hO.hi
        clear hO
        by_cases hlt : k < l.length
        · have k1 : (k : Int) < (l.length : Int) := by omega
          obtain ⟨xs, hown, hrow⟩ := HO.out.own
          obtain ⟨gg, rfl⟩ : ∃ g, p1 = some ⟨g, 0, none⟩ := by
            rcases hown.2 with ⟨_, h⟩ | ⟨g, c, cur, h, _⟩
            · omega
            · cases h; exact ⟨g, rfl⟩
          have hgb := (owns_lt hown gg rfl).1
          have hl7 := hrow.len
          rw [mixR_length] at hl7
          obtain ⟨_, _, a2, a3, _⟩ := hrow.cel k (by rw [mixR_length]; exact hlt)
          obtain ⟨q2, f2⟩ := own_cellAt hown a2
          obtain ⟨q3, f3⟩ := own_cellAt hown a3
          have q4 : (wr.setCell ⟨gg, k * 7 + 2, none⟩ (.int .u8 0)).cell? ⟨gg, k * 7 + 3, none⟩ = _ := (World.cell?_setCell_other wr ⟨gg, k * 7 + 2, none⟩ ⟨gg, k * 7 + 3, none⟩ _ (by simp)).trans q3
          have HT : Hid (AlAt w1 l (.slice (some ⟨gg, 0, none⟩) l.length c1) (k + 1) ((wr.setCell ⟨gg, k * 7 + 2, none⟩ (.int .u8 0)).setCell ⟨gg, k * 7 + 3, none⟩ (.int .u8 0))) := Lib.hid ⟨hlt, (HO.out.below.setCell hgb _).setCell hgb _, _, own_set (own_set hown (i := k * 7 + 2) (by omega) _) (i := k * 7 + 3) (by omega) _, rowR_bare hrow hlt⟩
          generalize (mixR l k)[k]'(by rw [mixR_length]; exact hlt) = rr at q2 q3 q4
          clear hown hrow a2 a3 hgb hl7
          go_wp2_with fail
          go_roundw
          case rel => exact ⟨k + 1, by go_num, HT.out⟩
          case measure => first | (simp [intOf]; done) | (simp [intOf]; omega)
        · obtain rfl : k = l.length := by omega
          have k1 : ¬ (l.length : Int) < (l.length : Int) := by omega
          obtain ⟨xs, hown, _⟩ := HO.out.own
          have hnb := nilOr_of_owned hown
          obtain ⟨v9, hv9, hb9, hr9⟩ := HO.out.fin
          obtain rfl := Ending.returned.inj hv9
          have B2 := Lib.hid (B1.out.trans (hb9.mono B1.out.size))
          have R2 := Lib.hid hr9
          have HNb := Lib.hid hnb
          clear hv9 hb9 hr9 hown hnb
          go_wp2_with fail
          refine (KS.out _ _ R2.out HNb.out (HW.out.later B2.out)).mono ?_
          rintro e w3 ⟨x3, vs3, rfl, hb, hm⟩
          have C3 := Lib.hid hb
          have B3 := Lib.hid (B2.out.trans (hb.mono B2.out.size))
          have M3 := Lib.hid hm.mods
          obtain ⟨p3, c3, rfl⟩ := hm.mods.slice
          clear hb hm
          go_wp2_with fail
          refine (KT.out _ _ (R2.out.later C3.out) (HW.out.later B3.out)).mono ?_
          rintro e w4 ⟨x4, vs4, rfl, hb, hm⟩
          have C4 := Lib.hid hb
          have B4 := Lib.hid (B3.out.trans (hb.mono B3.out.size))
          have M4 := Lib.hid hm.mods
          obtain ⟨p4, c4, rfl⟩ := hm.mods.slice
          clear hb hm
          go_wp2_with fail
          refine (KY.out _ _ _ (M3.out.later C4.out) M4.out).mono ?_
          rintro e w5 ⟨rfl, hb⟩
          have B5 := Lib.hid (B4.out.trans (hb.mono B4.out.size))
          clear hb
          go_wp2_with fail
          refine (KA.out _ (HE.out.later B5.out)).mono ?_
          rintro e w6 ⟨rfl, hb⟩
          have B6 := Lib.hid (B5.out.trans (hb.mono B5.out.size))
          clear hb
          go_wp2_with fail
          go_ret
          exact ⟨rfl, B6.out⟩
end Go.Proofs.YtcoljbcjnggagaaGreatDoor
