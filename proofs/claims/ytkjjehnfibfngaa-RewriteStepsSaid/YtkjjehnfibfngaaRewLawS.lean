/-
  The walk of RewriteSteps.
-/
import Derived.Test.YtkjjehnfibfngaaRewPrK
import Derived.Test.YtkjjehnfibfngaaRewSpoil
import Derived.Test.YtkjjehnfibfngaaRewRefU
import Derived.Test.YtkjjehnfibfngaaRewRefN
import Derived.Test.YtkjjehnfibfngaaRewRefG
namespace Go.Proofs.Ytkjjehnfibfngaa
open Go.RowKit
open WM RM
set_option linter.unusedVariables false
set_option linter.unusedSimpArgs false

theorem same_yes (v1 v2 : Value) (l : List Md) (h1 : l.length ≤ 9223372036854775807) (g1 : ∀ m ∈ l, m.a.length ≤ 9223372036854775807) (w : World) (i1 : Mods w v1 l) (i2 : Mods w v2 l) :
    Calls Try.prog 18 #[v1, v2] w fun e w' => e = .returned (.bool true) ∧ Below w.heap.size w w' := by
  have := same_any v1 v2 l l h1 h1 g1 g1 w i1 i2
  rwa [decide_eq_true rfl] at this
theorem run_small {l : List Rw} (hs : ∀ r ∈ l, RwSm r) : ∀ (n : Nat) (u : List Md), u.length ≤ 2100 → (∀ m ∈ u, m.a.length ≤ 10) → (runF l n u).2.length ≤ 2100 ∧ ∀ m ∈ (runF l n u).2, m.a.length ≤ 10
  | 0, u, h1, h2 => ⟨h1, h2⟩
  | n + 1, u, h1, h2 => by
    rw [runF]
    split
    · simp
    · obtain ⟨a, b⟩ := stL_small (w := u) hs h2
      exact run_small hs n _ (by omega) b
theorem ruL_small {l : List Rw} (hs : ∀ r ∈ l, RwSm r) {u : List Md} (h1 : u.length ≤ 2100) (h2 : ∀ m ∈ u, m.a.length ≤ 10) (n : Int) : (ruL l u n).length ≤ 2100 ∧ ∀ m ∈ ruL l u n, m.a.length ≤ 10 := by
  unfold ruL
  split
  · exact run_small hs _ u h1 h2
  · simp
set_option maxRecDepth 100000 in
set_option maxHeartbeats 3200000 in
theorem steps_walk (v : Value) (l : List Rw) (hmax : l.length ≤ 9223372036854775807) (wv : Value) (wd : List Md) (hwl : wd.length ≤ 9223372036854775807) (hwa : ∀ m ∈ wd, m.a.length ≤ 9223372036854775807) (n : Int) (w : World) (h1 : Rws w v l) (h2 : Mods w wv wd) (hnil : NilOr wv)
    (hcap : ∀ p len cap, wv = .slice p len cap → len ≤ cap) :
    Calls Try.prog 4 #[v, wv, .int .i64 n] w fun e w' => e = .returned (.bool true) ∧ Below w.heap.size w w' := by
  have KG := Lib.hid (refgreat_any v l hmax w h1)
  have KW := Lib.hid (great_any wv wd hwl w h2 hwa)
  obtain ⟨p, cap, rfl⟩ := h1.slice
  obtain ⟨p2, cap2, rfl⟩ := h2.slice
  have HV1 := Lib.hid h1
  have HV2 := Lib.hid h2
  have hlc : wd.length ≤ cap2 := hcap _ _ _ rfl
  clear h1 h2 hcap
  cases hg : greatR l with
  | true =>
    rw [hg] at KG
    clear hg
    go_enter Try.func4, Try.ntmps4
    go_wp2_with fail
    refine KG.out.mono ?_
    rintro e wx ⟨rfl, rfl⟩
    go_wp2_with fail
    go_ret
    exact ⟨rfl, Below.refl _ _⟩
  | false =>
    rw [hg] at KG
    obtain ⟨g1, g2⟩ := greatR_sm hg
    clear hg
    cases hg2 : greatB wd with
    | true =>
      rw [hg2] at KW
      clear hg2
      go_enter Try.func4, Try.ntmps4
      go_wp2_with fail
      refine KG.out.mono ?_
      rintro e wx ⟨rfl, rfl⟩
      go_wp2_with fail
      refine KW.out.mono ?_
      rintro e wx ⟨rfl, rfl⟩
      go_wp2_with fail
      go_ret
      exact ⟨rfl, Below.refl _ _⟩
    | false =>
      rw [hg2] at KW
      obtain ⟨lb, lbb⟩ := great_no hg2
      clear hg2
      by_cases hn : 6 < n ∧ n ≤ 30
      · obtain ⟨n1, n2⟩ := hn
        go_enter Try.func4, Try.ntmps4
        go_wp2_with fail
        refine KG.out.mono ?_
        rintro e wx ⟨rfl, rfl⟩
        go_wp2_with fail
        refine KW.out.mono ?_
        rintro e wx ⟨rfl, rfl⟩
        go_wp2_with fail
        go_ret
        exact ⟨rfl, Below.refl _ _⟩
      have KT := Lib.hid (fun w h => twin_any (.slice p2 wd.length cap2) wd lb lbb w h)
      have K1 := Lib.hid (fun w h h' => pstep1_any (.slice p l.length cap) l hmax g2 (.slice p2 wd.length cap2) wd hwl hwa w h h' hnil)
      have K2 := Lib.hid (fun w h h' => refstep_any fineR_any (.slice p l.length cap) l hmax g2 p2 cap2 wd hlc lb lbb w h h')
      have K3 := Lib.hid (fun w h h' => prun_any (.slice p l.length cap) l hmax g2 (.slice p2 wd.length cap2) wd hwl hwa n w h h' hnil)
      have K4 := Lib.hid (fun w h h' => refrun_any fineR_any (.slice p l.length cap) l hmax g2 (.slice p2 wd.length cap2) wd lb lbb n w h h')
      obtain ⟨s1, s2⟩ := stL_small (l := l) (w := wd) g2 lbb
      obtain ⟨u1, u2⟩ := ruL_small (l := l) g2 lb lbb n
      have K5 := Lib.hid (fun x y w h h' => same_yes x y (stL l wd) (by omega) (fun m hm => by have := s2 m hm; omega) w h h')
      have K6 := Lib.hid (fun x y w h h' => same_yes x y (ruL l wd n) (by omega) (fun m hm => by have := u2 m hm; omega) w h h')
      have K7 := Lib.hid (fun x y w h h' => same_yes x y wd hwl hwa w h h')
      have K8 := Lib.hid (fun base top v vs w h h' => spoil_any base top v (stL l wd) vs (by omega) (fun m hm => by have := s2 m hm; omega) w h h')
      have K9 := Lib.hid (fun base top v vs w h h' => spoil_any base top v (ruL l wd n) vs (by omega) (fun m hm => by have := u2 m hm; omega) w h h')
      obtain ⟨c, hc⟩ : ∃ c, stC l wd = c := ⟨_, rfl⟩
      obtain ⟨d, hd⟩ : ∃ c, ruC l wd n = c := ⟨_, rfl⟩
      have HC := Lib.hid hc
      have HD := Lib.hid hd
      have hcc : (c != c) = false := by simp
      have hdd : (d != d) = false := by simp
      have t6 : (decide (6 < n) && decide (n ≤ 30)) = false := by
        by_cases e : 6 < n
        · rw [decide_eq_true e, decide_eq_false (fun h => hn ⟨e, h⟩)]; rfl
        · rw [decide_eq_false e]; rfl
      unfold PsEnd at K1
      unfold RsEnd at K2
      unfold PuEnd at K3
      unfold RuEnd at K4
      rw [hc] at K1 K2
      rw [hd] at K3 K4
      clear g1 g2 lb lbb s1 s2 u1 u2 hc hd hwl hwa hnil hlc
      by_cases e6 : 6 < n
      · have e30 : ¬ n ≤ 30 := fun h => hn ⟨e6, h⟩
        clear hn t6
        go_enter Try.func4, Try.ntmps4
        go_wp2_with fail
        refine KG.out.mono ?_
        rintro e wx ⟨rfl, rfl⟩
        go_wp2_with fail
        refine KW.out.mono ?_
        rintro e wx ⟨rfl, rfl⟩
        go_wp2_with fail
        refine (KT.out _ HV2.out).mono ?_
        rintro e w1 ⟨was, vs1, rfl, hb, hm⟩
        have B1 := Lib.hid hb
        have M1 := Lib.hid hm.mods
        clear hm
        clear hb
        go_wp2_with fail
        refine (K1.out _ (HV1.out.later B1.out) (HV2.out.later B1.out)).mono ?_
        rintro e w2 ⟨a, vs2, rfl, hb, hm⟩
        have C2 := Lib.hid hb
        have B2 := Lib.hid (B1.out.trans (hb.mono B1.out.size))
        have A2 := Lib.hid hm
        clear hb hm
        go_wp2_with fail
        refine (K2.out _ (HV1.out.later B2.out) (HV2.out.later B2.out)).mono ?_
        rintro e w3 ⟨b, vs3, rfl, hb, hm⟩
        have C3 := Lib.hid hb
        have B3 := Lib.hid (B2.out.trans (hb.mono B2.out.size))
        have A3 := Lib.hid hm
        clear hb hm
        go_wp2_with fail
        refine (K3.out _ (HV1.out.later B3.out) (HV2.out.later B3.out)).mono ?_
        rintro e w4 ⟨x, vs4, rfl, hb, hm⟩
        have C4 := Lib.hid hb
        have B4 := Lib.hid (B3.out.trans (hb.mono B3.out.size))
        have A4 := Lib.hid hm
        clear hb hm
        go_wp2_with fail
        refine (K4.out _ (HV1.out.later B4.out) (HV2.out.later B4.out)).mono ?_
        rintro e w5 ⟨y, vs5, rfl, hb, hm⟩
        have C5 := Lib.hid hb
        have B5 := Lib.hid (B4.out.trans (hb.mono B4.out.size))
        have A5 := Lib.hid hm
        clear hb hm
        have D45 : Hid (Below w4.heap.size w4 w5) := C5
        have D35 := Lib.hid (C4.out.trans (C5.out.mono C4.out.size))
        have D25 := Lib.hid (C3.out.trans (D35.out.mono C3.out.size))
        have X5 := Lib.hid (A2.out.later D25.out)
        have Y5 := Lib.hid (A3.out.later D35.out)
        go_wp2_with fail
        refine (K5.out _ _ _ X5.out.mods Y5.out.mods).mono ?_
        rintro e w6 ⟨rfl, hb⟩
        have C6 := Lib.hid hb
        have B6 := Lib.hid (B5.out.trans (hb.mono B5.out.size))
        clear hb
        have P6 := Lib.hid ((A4.out.later D45.out).later C6.out)
        go_wp2_with fail
        refine (K6.out _ _ _ P6.out.mods (A5.out.mods.later C6.out)).mono ?_
        rintro e w7 ⟨rfl, hb⟩
        have C7 := Lib.hid hb
        have B7 := Lib.hid (B6.out.trans (hb.mono B6.out.size))
        clear hb
        have D27 := Lib.hid (D25.out.trans ((C6.out.trans (C7.out.mono C6.out.size)).mono D25.out.size))
        have D17 := Lib.hid (C2.out.trans (D27.out.mono C2.out.size))
        have X7 := Lib.hid (A2.out.later D27.out)
        have P7 := Lib.hid (P6.out.later C7.out)
        have z12 := C2.out.size
        have z23 := C3.out.size
        have z34 := C4.out.size
        go_wp2_with fail
        refine (K8.out w1.heap.size w2.heap.size _ _ _ X7.out A2.out.isIn).mono ?_
        rintro e w8 ⟨rfl, hb, hf⟩
        have D8 := Lib.hid (D17.out.trans hb)
        have P8 := Lib.hid (P7.out.far (fun k hk => hf k (by omega)))
        clear hb hf
        go_wp2_with fail
        refine (K9.out w3.heap.size w4.heap.size _ _ _ P8.out A4.out.isIn).mono ?_
        rintro e w9 ⟨rfl, hb, hf⟩
        have D9 := Lib.hid (D8.out.trans (hb.mono (by omega)))
        clear hb hf
        have B9 := Lib.hid (B1.out.trans (D9.out.mono B1.out.size))
        go_wp2_with fail
        refine (K7.out _ _ _ (HV2.out.later B9.out) (M1.out.later D9.out)).mono ?_
        rintro e w10 ⟨rfl, hb⟩
        have B10 := Lib.hid (B9.out.trans (hb.mono B9.out.size))
        clear hb
        go_wp2_with fail
        go_ret
        exact ⟨rfl, B10.out⟩
      · clear hn t6
        go_enter Try.func4, Try.ntmps4
        go_wp2_with fail
        refine KG.out.mono ?_
        rintro e wx ⟨rfl, rfl⟩
        go_wp2_with fail
        refine KW.out.mono ?_
        rintro e wx ⟨rfl, rfl⟩
        go_wp2_with fail
        refine (KT.out _ HV2.out).mono ?_
        rintro e w1 ⟨was, vs1, rfl, hb, hm⟩
        have B1 := Lib.hid hb
        have M1 := Lib.hid hm.mods
        clear hm
        clear hb
        go_wp2_with fail
        refine (K1.out _ (HV1.out.later B1.out) (HV2.out.later B1.out)).mono ?_
        rintro e w2 ⟨a, vs2, rfl, hb, hm⟩
        have C2 := Lib.hid hb
        have B2 := Lib.hid (B1.out.trans (hb.mono B1.out.size))
        have A2 := Lib.hid hm
        clear hb hm
        go_wp2_with fail
        refine (K2.out _ (HV1.out.later B2.out) (HV2.out.later B2.out)).mono ?_
        rintro e w3 ⟨b, vs3, rfl, hb, hm⟩
        have C3 := Lib.hid hb
        have B3 := Lib.hid (B2.out.trans (hb.mono B2.out.size))
        have A3 := Lib.hid hm
        clear hb hm
        go_wp2_with fail
        refine (K3.out _ (HV1.out.later B3.out) (HV2.out.later B3.out)).mono ?_
        rintro e w4 ⟨x, vs4, rfl, hb, hm⟩
        have C4 := Lib.hid hb
        have B4 := Lib.hid (B3.out.trans (hb.mono B3.out.size))
        have A4 := Lib.hid hm
        clear hb hm
        go_wp2_with fail
        refine (K4.out _ (HV1.out.later B4.out) (HV2.out.later B4.out)).mono ?_
        rintro e w5 ⟨y, vs5, rfl, hb, hm⟩
        have C5 := Lib.hid hb
        have B5 := Lib.hid (B4.out.trans (hb.mono B4.out.size))
        have A5 := Lib.hid hm
        clear hb hm
        have D45 : Hid (Below w4.heap.size w4 w5) := C5
        have D35 := Lib.hid (C4.out.trans (C5.out.mono C4.out.size))
        have D25 := Lib.hid (C3.out.trans (D35.out.mono C3.out.size))
        have X5 := Lib.hid (A2.out.later D25.out)
        have Y5 := Lib.hid (A3.out.later D35.out)
        go_wp2_with fail
        refine (K5.out _ _ _ X5.out.mods Y5.out.mods).mono ?_
        rintro e w6 ⟨rfl, hb⟩
        have C6 := Lib.hid hb
        have B6 := Lib.hid (B5.out.trans (hb.mono B5.out.size))
        clear hb
        have P6 := Lib.hid ((A4.out.later D45.out).later C6.out)
        go_wp2_with fail
        refine (K6.out _ _ _ P6.out.mods (A5.out.mods.later C6.out)).mono ?_
        rintro e w7 ⟨rfl, hb⟩
        have C7 := Lib.hid hb
        have B7 := Lib.hid (B6.out.trans (hb.mono B6.out.size))
        clear hb
        have D27 := Lib.hid (D25.out.trans ((C6.out.trans (C7.out.mono C6.out.size)).mono D25.out.size))
        have D17 := Lib.hid (C2.out.trans (D27.out.mono C2.out.size))
        have X7 := Lib.hid (A2.out.later D27.out)
        have P7 := Lib.hid (P6.out.later C7.out)
        have z12 := C2.out.size
        have z23 := C3.out.size
        have z34 := C4.out.size
        go_wp2_with fail
        refine (K8.out w1.heap.size w2.heap.size _ _ _ X7.out A2.out.isIn).mono ?_
        rintro e w8 ⟨rfl, hb, hf⟩
        have D8 := Lib.hid (D17.out.trans hb)
        have P8 := Lib.hid (P7.out.far (fun k hk => hf k (by omega)))
        clear hb hf
        go_wp2_with fail
        refine (K9.out w3.heap.size w4.heap.size _ _ _ P8.out A4.out.isIn).mono ?_
        rintro e w9 ⟨rfl, hb, hf⟩
        have D9 := Lib.hid (D8.out.trans (hb.mono (by omega)))
        clear hb hf
        have B9 := Lib.hid (B1.out.trans (D9.out.mono B1.out.size))
        go_wp2_with fail
        refine (K7.out _ _ _ (HV2.out.later B9.out) (M1.out.later D9.out)).mono ?_
        rintro e w10 ⟨rfl, hb⟩
        have B10 := Lib.hid (B9.out.trans (hb.mono B9.out.size))
        clear hb
        go_wp2_with fail
        go_ret
        exact ⟨rfl, B10.out⟩
end Go.Proofs.Ytkjjehnfibfngaa
