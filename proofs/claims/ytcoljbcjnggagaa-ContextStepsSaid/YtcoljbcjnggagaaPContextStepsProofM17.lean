/-
  Texts of the proof, merged: PConLawS, PConCap, PWordCap, PConRow.
-/
import Derived.Test.YtcoljbcjnggagaaPContextStepsProofM16
import Derived.Test.YtcoljbcjnggagaaPContextStepsProofM5
import Derived.Test.YtcoljbcjnggagaaPContextStepsProofM11
import Derived.Test.YtcoljbcjnggagaaRows
import Derived.ProofKit
import Derived.OpenShut
import Derived.ChangeSlices
import Derived.ChangeMaps5
import Derived.Deep.DeepHandedRow
import Derived.Deep.SlicePairs
import Derived.Lib.LaidTab
import Derived.Lib.SmallJoins
import Derived.Stop.LaidErr
import Derived.Stop.Joined
import Derived.JoinedCond
import GoSem.PinnedTables
namespace Go.Proofs.Ytcoljbcjnggagaa
open Go.RowKit
open WM RM CM
set_option linter.unusedVariables false
set_option linter.unusedSimpArgs false

theorem csame_yes (v1 v2 : Value) (l : List Md) (h1 : l.length ≤ 9223372036854775807) (g1 : ∀ m ∈ l, m.a.length ≤ 9223372036854775807) (w : World) (i1 : Mods w v1 l) (i2 : Mods w v2 l) :
    Calls Try.prog 20 #[v1, v2] w fun e w' => e = .returned (.bool true) ∧ Below w.heap.size w w' := by
  have := same_any v1 v2 l l h1 h1 g1 g1 w i1 i2
  rwa [decide_eq_true rfl] at this
theorem cfine_small {u : List Md} (h : chk u = 0) : u.length ≤ 2000 ∧ ∀ m ∈ u, m.a.length ≤ 10 :=
  ⟨(chk_zero.1 h).1, fun m hm => by have := (fine_args4 (List.all_eq_true.1 (chk_zero.1 h).2.1 m hm)).1; omega⟩
theorem csL_small (g : Bs) (l : List Rw) (u : List Md) : (csL g l u).length ≤ 2000 ∧ ∀ m ∈ csL g l u, m.a.length ≤ 10 := by
  by_cases h0 : cchk g l = 0
  · by_cases h1 : chk u = 0
    · exact cfine_small (csL_chk h0 h1)
    · rw [(cs_word h0 h1).2]; simp
  · rw [(cs_rules h0).2]; simp
theorem cruF_small (g : Bs) (l : List Rw) : ∀ (n : Nat) (u : List Md), u.length ≤ 2100 → (∀ m ∈ u, m.a.length ≤ 10) → (cruF g l n u).2.length ≤ 2100 ∧ ∀ m ∈ (cruF g l n u).2, m.a.length ≤ 10
  | 0, u, h1, h2 => ⟨h1, h2⟩
  | n + 1, u, h1, h2 => by
    rw [cruF]
    split
    · simp
    · obtain ⟨a, b⟩ := csL_small g l u
      exact cruF_small g l n _ (by omega) b
theorem cruL_small (g : Bs) (l : List Rw) {u : List Md} (h1 : u.length ≤ 2100) (h2 : ∀ m ∈ u, m.a.length ≤ 10) (n : Int) : (cruL g l u n).length ≤ 2100 ∧ ∀ m ∈ cruL g l u n, m.a.length ≤ 10 := by
  unfold cruL
  split
  · exact cruF_small g l _ u h1 h2
  · simp
set_option maxRecDepth 100000 in
set_option maxHeartbeats 3200000 in
theorem csteps_walk (v : Value) (l : List Rw) (hmax : l.length ≤ 9223372036854775807) (s : ByteArray) (hss : s.size ≤ 9223372036854775807) (wv : Value) (wd : List Md) (hwl : wd.length ≤ 9223372036854775807) (hwa : ∀ m ∈ wd, m.a.length ≤ 9223372036854775807) (n : Int) (w : World) (h1 : Rws w v l) (hnv : NilOr v) (h2 : Mods w wv wd) (hnil : NilOr wv)
    (hcap : ∀ p len cap, wv = .slice p len cap → len ≤ cap) :
    Calls Try.prog 4 #[v, .string s, wv, .int .i64 n] w fun e w' => e = .returned (.bool true) ∧ Below w.heap.size w w' := by
  have KG := Lib.hid (refgreat_any v l hmax w h1)
  have KW := Lib.hid (great_any wv wd hwl w h2 hwa)
  have KT0 := Lib.hid (fun h1 h2 w h => twin_any wv wd h1 h2 w h)
  have KA1 := Lib.hid (fun h1 h2 w h h' => cpstep1_any v l h1 h2 s hss wv wd hwl hwa w h hnv h' hnil)
  have KA3 := Lib.hid (fun h1 h2 w h h' => cprun_any v l h1 h2 s hss wv wd hwl hwa n w h hnv h' hnil)
  have KA4 := Lib.hid (fun h2 h3 h4 w h h' => crefrun_any v l hmax h2 s hss wv wd h3 h4 n w h h')
  obtain ⟨p, cap, rfl⟩ := h1.slice
  obtain ⟨p2, cap2, rfl⟩ := h2.slice
  have HV1 := Lib.hid h1
  have HV2 := Lib.hid h2
  have hlc : wd.length ≤ cap2 := hcap _ _ _ rfl
  have KA2 := Lib.hid (fun h2 h4 h5 w h h' => crefstep_any (.slice p l.length cap) l hmax h2 s hss p2 cap2 wd hlc h4 h5 w h h')
  have K7 := Lib.hid (fun x y w h h' => csame_yes x y wd hwl hwa w h h')
  clear h1 h2 hcap hnv hnil hwa
  generalize lA s = g at KA1 KA2 KA3 KA4
  cases hg : greatR l with
  | true =>
    rw [hg] at KG
    clear hg
    go_enter Try.func4, Try.ntmps4
    go_wp2_with fail
    refine KG.out.mono ?_
    rintro e wx ⟨rfl, rfl⟩
    go_wp2_with fail
    go_ret
    exact ⟨rfl, Below.refl _ _⟩
  | false =>
    rw [hg] at KG
    obtain ⟨g1, g2⟩ := greatR_sm hg
    clear hg
    cases hg2 : greatB wd with
    | true =>
      rw [hg2] at KW
      clear hg2
      go_enter Try.func4, Try.ntmps4
      go_wp2_with fail
      refine KG.out.mono ?_
      rintro e wx ⟨rfl, rfl⟩
      go_wp2_with fail
      refine KW.out.mono ?_
      rintro e wx ⟨rfl, rfl⟩
      go_wp2_with fail
      go_ret
      exact ⟨rfl, Below.refl _ _⟩
    | false =>
      rw [hg2] at KW
      obtain ⟨lb, lbb⟩ := great_no hg2
      clear hg2
      have KT := Lib.hid (KT0.out lb lbb)
      have K1 := Lib.hid (KA1.out g1 g2)
      have K2 := Lib.hid (KA2.out g2 lb lbb)
      have K3 := Lib.hid (KA3.out g1 g2)
      have K4 := Lib.hid (KA4.out g2 lb lbb)
      obtain ⟨s1, s2⟩ := csL_small g l wd
      obtain ⟨u1, u2⟩ := cruL_small g l lb lbb n
      have K5 := Lib.hid (fun x y w h h' => csame_yes x y (csL g l wd) (by omega) (fun m hm => by have := s2 m hm; omega) w h h')
      have K6 := Lib.hid (fun x y w h h' => csame_yes x y (cruL g l wd n) (by omega) (fun m hm => by have := u2 m hm; omega) w h h')
      have K8 := Lib.hid (fun base top v vs w h h' => cspoil_any base top v (csL g l wd) vs (by omega) (fun m hm => by have := s2 m hm; omega) w h h')
      have K9 := Lib.hid (fun base top v vs w h h' => cspoil_any base top v (cruL g l wd n) vs (by omega) (fun m hm => by have := u2 m hm; omega) w h h')
      obtain ⟨c, hc⟩ : ∃ c, csC g l wd = c := ⟨_, rfl⟩
      obtain ⟨d, hd⟩ : ∃ c, cruC g l wd n = c := ⟨_, rfl⟩
      have hcc : (c != c) = false := by simp
      have hdd : (d != d) = false := by simp
      unfold CptEnd at K1
      unfold CrsEnd at K2
      unfold CpuEnd at K3
      unfold CruEnd at K4
      rw [hc] at K1 K2
      rw [hd] at K3 K4
      clear g1 g2 lb lbb s1 s2 u1 u2 hc hd hlc KT0 KA1 KA2 KA3 KA4
      have early : Hid (∀ (_ : (60 : Int) < (wd.length : Int) ∧ (wd.length : Int) ≤ 2000), Calls Try.prog 4 #[.slice p l.length cap, .string s, .slice p2 wd.length cap2, .int .i64 n] w fun e w' => e = .returned (.bool true) ∧ Below w.heap.size w w') := Lib.hid (by
        rintro ⟨e1, e2⟩
        go_enter Try.func4, Try.ntmps4
        go_wp2_with fail
        refine KG.out.mono ?_
        rintro e wx ⟨rfl, rfl⟩
        go_wp2_with fail
        refine KW.out.mono ?_
        rintro e wx ⟨rfl, rfl⟩
        go_wp2_with fail
        go_ret
        exact ⟨rfl, Below.refl _ _⟩)
      by_cases c1 : (60 : Int) < (wd.length : Int)
      · by_cases c2 : (wd.length : Int) ≤ 2000
        · exact early.out ⟨c1, c2⟩
        · clear early
          by_cases c3 : (100 : Int) < (s.size : Int)
          · go_enter Try.func4, Try.ntmps4
            go_wp2_with fail
            refine KG.out.mono ?_
            rintro e wx ⟨rfl, rfl⟩
            go_wp2_with fail
            refine KW.out.mono ?_
            rintro e wx ⟨rfl, rfl⟩
            go_wp2_with fail
            go_ret
            exact ⟨rfl, Below.refl _ _⟩
          by_cases c4 : (4 : Int) < n
          · by_cases c5 : n ≤ 30
            · go_enter Try.func4, Try.ntmps4
              go_wp2_with fail
              refine KG.out.mono ?_
              rintro e wx ⟨rfl, rfl⟩
              go_wp2_with fail
              refine KW.out.mono ?_
              rintro e wx ⟨rfl, rfl⟩
              go_wp2_with fail
              go_ret
              exact ⟨rfl, Below.refl _ _⟩
            · go_enter Try.func4, Try.ntmps4
              go_wp2_with fail
              refine KG.out.mono ?_
              rintro e wx ⟨rfl, rfl⟩
              go_wp2_with fail
              refine KW.out.mono ?_
              rintro e wx ⟨rfl, rfl⟩
              go_wp2_with fail
              refine (KT.out _ HV2.out).mono ?_
              rintro e w1 ⟨was, vs1, rfl, hb, hm⟩
              have B1 := Lib.hid hb
              have M1 := Lib.hid hm.mods
              clear hm
              clear hb
              go_wp2_with fail
              refine (K1.out _ (HV1.out.later B1.out) (HV2.out.later B1.out)).mono ?_
              rintro e w2 ⟨a, vs2, rfl, hb, hm⟩
              have C2 := Lib.hid hb
              have B2 := Lib.hid (B1.out.trans (hb.mono B1.out.size))
              have A2 := Lib.hid hm
              clear hb hm
              go_wp2_with fail
              refine (K2.out _ (HV1.out.later B2.out) (HV2.out.later B2.out)).mono ?_
              rintro e w3 ⟨b, vs3, rfl, hb, hm⟩
              have C3 := Lib.hid hb
              have B3 := Lib.hid (B2.out.trans (hb.mono B2.out.size))
              have A3 := Lib.hid hm
              clear hb hm
              go_wp2_with fail
              refine (K3.out _ (HV1.out.later B3.out) (HV2.out.later B3.out)).mono ?_
              rintro e w4 ⟨x, vs4, rfl, hb, hm⟩
              have C4 := Lib.hid hb
              have B4 := Lib.hid (B3.out.trans (hb.mono B3.out.size))
              have A4 := Lib.hid hm
              clear hb hm
              go_wp2_with fail
              refine (K4.out _ (HV1.out.later B4.out) (HV2.out.later B4.out)).mono ?_
              rintro e w5 ⟨y, vs5, rfl, hb, hm⟩
              have C5 := Lib.hid hb
              have B5 := Lib.hid (B4.out.trans (hb.mono B4.out.size))
              have A5 := Lib.hid hm
              clear hb hm
              have D45 : Hid (Below w4.heap.size w4 w5) := C5
              have D35 := Lib.hid (C4.out.trans (C5.out.mono C4.out.size))
              have D25 := Lib.hid (C3.out.trans (D35.out.mono C3.out.size))
              have X5 := Lib.hid (A2.out.later D25.out)
              have Y5 := Lib.hid (A3.out.later D35.out)
              go_wp2_with fail
              refine (K5.out _ _ _ X5.out.mods Y5.out.mods).mono ?_
              rintro e w6 ⟨rfl, hb⟩
              have C6 := Lib.hid hb
              have B6 := Lib.hid (B5.out.trans (hb.mono B5.out.size))
              clear hb
              have P6 := Lib.hid ((A4.out.later D45.out).later C6.out)
              go_wp2_with fail
              refine (K6.out _ _ _ P6.out.mods (A5.out.mods.later C6.out)).mono ?_
              rintro e w7 ⟨rfl, hb⟩
              have C7 := Lib.hid hb
              have B7 := Lib.hid (B6.out.trans (hb.mono B6.out.size))
              clear hb
              have D27 := Lib.hid (D25.out.trans ((C6.out.trans (C7.out.mono C6.out.size)).mono D25.out.size))
              have D17 := Lib.hid (C2.out.trans (D27.out.mono C2.out.size))
              have X7 := Lib.hid (A2.out.later D27.out)
              have P7 := Lib.hid (P6.out.later C7.out)
              have z12 := C2.out.size
              have z23 := C3.out.size
              have z34 := C4.out.size
              go_wp2_with fail
              refine (K8.out w1.heap.size w2.heap.size _ _ _ X7.out A2.out.isIn).mono ?_
              rintro e w8 ⟨rfl, hb, hf⟩
              have D8 := Lib.hid (D17.out.trans hb)
              have P8 := Lib.hid (P7.out.far (fun k hk => hf k (by omega)))
              clear hb hf
              go_wp2_with fail
              refine (K9.out w3.heap.size w4.heap.size _ _ _ P8.out A4.out.isIn).mono ?_
              rintro e w9 ⟨rfl, hb, hf⟩
              have D9 := Lib.hid (D8.out.trans (hb.mono (by omega)))
              clear hb hf
              have B9 := Lib.hid (B1.out.trans (D9.out.mono B1.out.size))
              go_wp2_with fail
              refine (K7.out _ _ _ (HV2.out.later B9.out) (M1.out.later D9.out)).mono ?_
              rintro e w10 ⟨rfl, hb⟩
              have B10 := Lib.hid (B9.out.trans (hb.mono B9.out.size))
              clear hb
              go_wp2_with fail
              go_ret
              exact ⟨rfl, B10.out⟩
          · go_enter Try.func4, Try.ntmps4
            go_wp2_with fail
            refine KG.out.mono ?_
            rintro e wx ⟨rfl, rfl⟩
            go_wp2_with fail
            refine KW.out.mono ?_
            rintro e wx ⟨rfl, rfl⟩
            go_wp2_with fail
            refine (KT.out _ HV2.out).mono ?_
            rintro e w1 ⟨was, vs1, rfl, hb, hm⟩
            have B1 := Lib.hid hb
            have M1 := Lib.hid hm.mods
            clear hm
            clear hb
            go_wp2_with fail
            refine (K1.out _ (HV1.out.later B1.out) (HV2.out.later B1.out)).mono ?_
            rintro e w2 ⟨a, vs2, rfl, hb, hm⟩
            have C2 := Lib.hid hb
            have B2 := Lib.hid (B1.out.trans (hb.mono B1.out.size))
            have A2 := Lib.hid hm
            clear hb hm
            go_wp2_with fail
            refine (K2.out _ (HV1.out.later B2.out) (HV2.out.later B2.out)).mono ?_
            rintro e w3 ⟨b, vs3, rfl, hb, hm⟩
            have C3 := Lib.hid hb
            have B3 := Lib.hid (B2.out.trans (hb.mono B2.out.size))
            have A3 := Lib.hid hm
            clear hb hm
            go_wp2_with fail
            refine (K3.out _ (HV1.out.later B3.out) (HV2.out.later B3.out)).mono ?_
            rintro e w4 ⟨x, vs4, rfl, hb, hm⟩
            have C4 := Lib.hid hb
            have B4 := Lib.hid (B3.out.trans (hb.mono B3.out.size))
            have A4 := Lib.hid hm
            clear hb hm
            go_wp2_with fail
            refine (K4.out _ (HV1.out.later B4.out) (HV2.out.later B4.out)).mono ?_
            rintro e w5 ⟨y, vs5, rfl, hb, hm⟩
            have C5 := Lib.hid hb
            have B5 := Lib.hid (B4.out.trans (hb.mono B4.out.size))
            have A5 := Lib.hid hm
            clear hb hm
            have D45 : Hid (Below w4.heap.size w4 w5) := C5
            have D35 := Lib.hid (C4.out.trans (C5.out.mono C4.out.size))
            have D25 := Lib.hid (C3.out.trans (D35.out.mono C3.out.size))
            have X5 := Lib.hid (A2.out.later D25.out)
            have Y5 := Lib.hid (A3.out.later D35.out)
            go_wp2_with fail
            refine (K5.out _ _ _ X5.out.mods Y5.out.mods).mono ?_
            rintro e w6 ⟨rfl, hb⟩
            have C6 := Lib.hid hb
            have B6 := Lib.hid (B5.out.trans (hb.mono B5.out.size))
            clear hb
            have P6 := Lib.hid ((A4.out.later D45.out).later C6.out)
            go_wp2_with fail
            refine (K6.out _ _ _ P6.out.mods (A5.out.mods.later C6.out)).mono ?_
            rintro e w7 ⟨rfl, hb⟩
            have C7 := Lib.hid hb
            have B7 := Lib.hid (B6.out.trans (hb.mono B6.out.size))
            clear hb
            have D27 := Lib.hid (D25.out.trans ((C6.out.trans (C7.out.mono C6.out.size)).mono D25.out.size))
            have D17 := Lib.hid (C2.out.trans (D27.out.mono C2.out.size))
            have X7 := Lib.hid (A2.out.later D27.out)
            have P7 := Lib.hid (P6.out.later C7.out)
            have z12 := C2.out.size
            have z23 := C3.out.size
            have z34 := C4.out.size
            go_wp2_with fail
            refine (K8.out w1.heap.size w2.heap.size _ _ _ X7.out A2.out.isIn).mono ?_
            rintro e w8 ⟨rfl, hb, hf⟩
            have D8 := Lib.hid (D17.out.trans hb)
            have P8 := Lib.hid (P7.out.far (fun k hk => hf k (by omega)))
            clear hb hf
            go_wp2_with fail
            refine (K9.out w3.heap.size w4.heap.size _ _ _ P8.out A4.out.isIn).mono ?_
            rintro e w9 ⟨rfl, hb, hf⟩
            have D9 := Lib.hid (D8.out.trans (hb.mono (by omega)))
            clear hb hf
            have B9 := Lib.hid (B1.out.trans (D9.out.mono B1.out.size))
            go_wp2_with fail
            refine (K7.out _ _ _ (HV2.out.later B9.out) (M1.out.later D9.out)).mono ?_
            rintro e w10 ⟨rfl, hb⟩
            have B10 := Lib.hid (B9.out.trans (hb.mono B9.out.size))
            clear hb
            go_wp2_with fail
            go_ret
            exact ⟨rfl, B10.out⟩
      · clear early
        by_cases c3 : (100 : Int) < (s.size : Int)
        · go_enter Try.func4, Try.ntmps4
          go_wp2_with fail
          refine KG.out.mono ?_
          rintro e wx ⟨rfl, rfl⟩
          go_wp2_with fail
          refine KW.out.mono ?_
          rintro e wx ⟨rfl, rfl⟩
          go_wp2_with fail
          go_ret
          exact ⟨rfl, Below.refl _ _⟩
        by_cases c4 : (4 : Int) < n
        · by_cases c5 : n ≤ 30
          · go_enter Try.func4, Try.ntmps4
            go_wp2_with fail
            refine KG.out.mono ?_
            rintro e wx ⟨rfl, rfl⟩
            go_wp2_with fail
            refine KW.out.mono ?_
            rintro e wx ⟨rfl, rfl⟩
            go_wp2_with fail
            go_ret
            exact ⟨rfl, Below.refl _ _⟩
          · go_enter Try.func4, Try.ntmps4
            go_wp2_with fail
            refine KG.out.mono ?_
            rintro e wx ⟨rfl, rfl⟩
            go_wp2_with fail
            refine KW.out.mono ?_
            rintro e wx ⟨rfl, rfl⟩
            go_wp2_with fail
            refine (KT.out _ HV2.out).mono ?_
            rintro e w1 ⟨was, vs1, rfl, hb, hm⟩
            have B1 := Lib.hid hb
            have M1 := Lib.hid hm.mods
            clear hm
            clear hb
            go_wp2_with fail
            refine (K1.out _ (HV1.out.later B1.out) (HV2.out.later B1.out)).mono ?_
            rintro e w2 ⟨a, vs2, rfl, hb, hm⟩
            have C2 := Lib.hid hb
            have B2 := Lib.hid (B1.out.trans (hb.mono B1.out.size))
            have A2 := Lib.hid hm
            clear hb hm
            go_wp2_with fail
            refine (K2.out _ (HV1.out.later B2.out) (HV2.out.later B2.out)).mono ?_
            rintro e w3 ⟨b, vs3, rfl, hb, hm⟩
            have C3 := Lib.hid hb
            have B3 := Lib.hid (B2.out.trans (hb.mono B2.out.size))
            have A3 := Lib.hid hm
            clear hb hm
            go_wp2_with fail
            refine (K3.out _ (HV1.out.later B3.out) (HV2.out.later B3.out)).mono ?_
            rintro e w4 ⟨x, vs4, rfl, hb, hm⟩
            have C4 := Lib.hid hb
            have B4 := Lib.hid (B3.out.trans (hb.mono B3.out.size))
            have A4 := Lib.hid hm
            clear hb hm
            go_wp2_with fail
            refine (K4.out _ (HV1.out.later B4.out) (HV2.out.later B4.out)).mono ?_
            rintro e w5 ⟨y, vs5, rfl, hb, hm⟩
            have C5 := Lib.hid hb
            have B5 := Lib.hid (B4.out.trans (hb.mono B4.out.size))
            have A5 := Lib.hid hm
            clear hb hm
            have D45 : Hid (Below w4.heap.size w4 w5) := C5
            have D35 := Lib.hid (C4.out.trans (C5.out.mono C4.out.size))
            have D25 := Lib.hid (C3.out.trans (D35.out.mono C3.out.size))
            have X5 := Lib.hid (A2.out.later D25.out)
            have Y5 := Lib.hid (A3.out.later D35.out)
            go_wp2_with fail
            refine (K5.out _ _ _ X5.out.mods Y5.out.mods).mono ?_
            rintro e w6 ⟨rfl, hb⟩
            have C6 := Lib.hid hb
            have B6 := Lib.hid (B5.out.trans (hb.mono B5.out.size))
            clear hb
            have P6 := Lib.hid ((A4.out.later D45.out).later C6.out)
            go_wp2_with fail
            refine (K6.out _ _ _ P6.out.mods (A5.out.mods.later C6.out)).mono ?_
            rintro e w7 ⟨rfl, hb⟩
            have C7 := Lib.hid hb
            have B7 := Lib.hid (B6.out.trans (hb.mono B6.out.size))
            clear hb
            have D27 := Lib.hid (D25.out.trans ((C6.out.trans (C7.out.mono C6.out.size)).mono D25.out.size))
            have D17 := Lib.hid (C2.out.trans (D27.out.mono C2.out.size))
            have X7 := Lib.hid (A2.out.later D27.out)
            have P7 := Lib.hid (P6.out.later C7.out)
            have z12 := C2.out.size
            have z23 := C3.out.size
            have z34 := C4.out.size
            go_wp2_with fail
            refine (K8.out w1.heap.size w2.heap.size _ _ _ X7.out A2.out.isIn).mono ?_
            rintro e w8 ⟨rfl, hb, hf⟩
            have D8 := Lib.hid (D17.out.trans hb)
            have P8 := Lib.hid (P7.out.far (fun k hk => hf k (by omega)))
            clear hb hf
            go_wp2_with fail
            refine (K9.out w3.heap.size w4.heap.size _ _ _ P8.out A4.out.isIn).mono ?_
            rintro e w9 ⟨rfl, hb, hf⟩
            have D9 := Lib.hid (D8.out.trans (hb.mono (by omega)))
            clear hb hf
            have B9 := Lib.hid (B1.out.trans (D9.out.mono B1.out.size))
            go_wp2_with fail
            refine (K7.out _ _ _ (HV2.out.later B9.out) (M1.out.later D9.out)).mono ?_
            rintro e w10 ⟨rfl, hb⟩
            have B10 := Lib.hid (B9.out.trans (hb.mono B9.out.size))
            clear hb
            go_wp2_with fail
            go_ret
            exact ⟨rfl, B10.out⟩
        · go_enter Try.func4, Try.ntmps4
          go_wp2_with fail
          refine KG.out.mono ?_
          rintro e wx ⟨rfl, rfl⟩
          go_wp2_with fail
          refine KW.out.mono ?_
          rintro e wx ⟨rfl, rfl⟩
          go_wp2_with fail
          refine (KT.out _ HV2.out).mono ?_
          rintro e w1 ⟨was, vs1, rfl, hb, hm⟩
          have B1 := Lib.hid hb
          have M1 := Lib.hid hm.mods
          clear hm
          clear hb
          go_wp2_with fail
          refine (K1.out _ (HV1.out.later B1.out) (HV2.out.later B1.out)).mono ?_
          rintro e w2 ⟨a, vs2, rfl, hb, hm⟩
          have C2 := Lib.hid hb
          have B2 := Lib.hid (B1.out.trans (hb.mono B1.out.size))
          have A2 := Lib.hid hm
          clear hb hm
          go_wp2_with fail
          refine (K2.out _ (HV1.out.later B2.out) (HV2.out.later B2.out)).mono ?_
          rintro e w3 ⟨b, vs3, rfl, hb, hm⟩
          have C3 := Lib.hid hb
          have B3 := Lib.hid (B2.out.trans (hb.mono B2.out.size))
          have A3 := Lib.hid hm
          clear hb hm
          go_wp2_with fail
          refine (K3.out _ (HV1.out.later B3.out) (HV2.out.later B3.out)).mono ?_
          rintro e w4 ⟨x, vs4, rfl, hb, hm⟩
          have C4 := Lib.hid hb
          have B4 := Lib.hid (B3.out.trans (hb.mono B3.out.size))
          have A4 := Lib.hid hm
          clear hb hm
          go_wp2_with fail
          refine (K4.out _ (HV1.out.later B4.out) (HV2.out.later B4.out)).mono ?_
          rintro e w5 ⟨y, vs5, rfl, hb, hm⟩
          have C5 := Lib.hid hb
          have B5 := Lib.hid (B4.out.trans (hb.mono B4.out.size))
          have A5 := Lib.hid hm
          clear hb hm
          have D45 : Hid (Below w4.heap.size w4 w5) := C5
          have D35 := Lib.hid (C4.out.trans (C5.out.mono C4.out.size))
          have D25 := Lib.hid (C3.out.trans (D35.out.mono C3.out.size))
          have X5 := Lib.hid (A2.out.later D25.out)
          have Y5 := Lib.hid (A3.out.later D35.out)
          go_wp2_with fail
          refine (K5.out _ _ _ X5.out.mods Y5.out.mods).mono ?_
          rintro e w6 ⟨rfl, hb⟩
          have C6 := Lib.hid hb
          have B6 := Lib.hid (B5.out.trans (hb.mono B5.out.size))
          clear hb
          have P6 := Lib.hid ((A4.out.later D45.out).later C6.out)
          go_wp2_with fail
          refine (K6.out _ _ _ P6.out.mods (A5.out.mods.later C6.out)).mono ?_
          rintro e w7 ⟨rfl, hb⟩
          have C7 := Lib.hid hb
          have B7 := Lib.hid (B6.out.trans (hb.mono B6.out.size))
          clear hb
          have D27 := Lib.hid (D25.out.trans ((C6.out.trans (C7.out.mono C6.out.size)).mono D25.out.size))
          have D17 := Lib.hid (C2.out.trans (D27.out.mono C2.out.size))
          have X7 := Lib.hid (A2.out.later D27.out)
          have P7 := Lib.hid (P6.out.later C7.out)
          have z12 := C2.out.size
          have z23 := C3.out.size
          have z34 := C4.out.size
          go_wp2_with fail
          refine (K8.out w1.heap.size w2.heap.size _ _ _ X7.out A2.out.isIn).mono ?_
          rintro e w8 ⟨rfl, hb, hf⟩
          have D8 := Lib.hid (D17.out.trans hb)
          have P8 := Lib.hid (P7.out.far (fun k hk => hf k (by omega)))
          clear hb hf
          go_wp2_with fail
          refine (K9.out w3.heap.size w4.heap.size _ _ _ P8.out A4.out.isIn).mono ?_
          rintro e w9 ⟨rfl, hb, hf⟩
          have D9 := Lib.hid (D8.out.trans (hb.mono (by omega)))
          clear hb hf
          have B9 := Lib.hid (B1.out.trans (D9.out.mono B1.out.size))
          go_wp2_with fail
          refine (K7.out _ _ _ (HV2.out.later B9.out) (M1.out.later D9.out)).mono ?_
          rintro e w10 ⟨rfl, hb⟩
          have B10 := Lib.hid (B9.out.trans (hb.mono B9.out.size))
          clear hb
          go_wp2_with fail
          go_ret
          exact ⟨rfl, B10.out⟩
end Go.Proofs.Ytcoljbcjnggagaa
namespace Go.Proofs.Ytcoljbcjnggagaa
open Go.ChangeShapes Go.WideShapes Go.ChangeAt Go.RowKit Go.Joins Go.Deep
open WM RM
set_option linter.unusedVariables false
set_option linter.unusedSimpArgs false
set_option maxRecDepth 100000
section
variable {H : Type} {enc : TypeId × Value → H} {W : World} {base : Nat} {spare : Nat → Bool} {held : Bool}
theorem rwsNil {v : Value} {d : DataW H} {p : List MemPlace} {a0 : Option Addr} {len cap : Nat} (hv : v = .slice a0 len cap) (h : DataW.Trod enc Try.prog W base spare held 22 v d p) : NilOr v := by
  obtain ⟨fuel, hf⟩ := h
  subst hv
  have hf2 : DataW.trod enc Try.prog W base spare held fuel 22 [.slice a0 len cap] = some (d, p) := by simpa [Value.cells] using hf
  rcases DataW.trod_slice Try.underlying22 hf2 with ⟨hcs, -⟩ | ⟨ad, len', cap', elems, rest, n, _, hcs, hx, _, hlc, hcm, hel, -⟩
  · simp at hcs
    obtain ⟨rfl, rfl, rfl⟩ := hcs
    exact .inl rfl
  · simp at hcs
    obtain ⟨rfl, rfl, rfl⟩ := hcs
    exact .inr ⟨_, _, _, rfl⟩
end
end Go.Proofs.Ytcoljbcjnggagaa
namespace Go.Proofs.Ytcoljbcjnggagaa
open Go.ChangeShapes Go.WideShapes Go.ChangeAt Go.RowKit Go.Joins Go.Deep
open WM
set_option linter.unusedVariables false
set_option linter.unusedSimpArgs false
set_option maxRecDepth 100000
section
variable {H : Type} {enc : TypeId × Value → H} {W : World} {base : Nat} {spare : Nat → Bool} {held : Bool}
theorem modsCap {v : Value} {d : DataW H} {p : List MemPlace} {a0 : Option Addr} {len cap : Nat} (hv : v = .slice a0 len cap) (h : DataW.Trod enc Try.prog W base spare held 23 v d p) : len ≤ cap := by
  obtain ⟨fuel, hf⟩ := h
  subst hv
  have hf2 : DataW.trod enc Try.prog W base spare held fuel 23 [.slice a0 len cap] = some (d, p) := by simpa [Value.cells] using hf
  rcases DataW.trod_slice Try.underlying23 hf2 with ⟨hcs, -⟩ | ⟨ad, len', cap', elems, rest, n, _, hcs, _, _, hlc, hcm, hel, hx, -⟩
  · simp at hcs; omega
  · simp at hcs; obtain ⟨_, rfl, rfl⟩ := hcs; exact hlc
end
end Go.Proofs.Ytcoljbcjnggagaa
namespace Go.Proofs.Ytcoljbcjnggagaa.ConRow
set_option maxRecDepth 100000
set_option linter.unusedVariables false
set_option linter.unusedSimpArgs false
open Go.ChangeShapes Go.WideShapes Go.ChangeAt Go.RowKit Go.Joins Go.Deep

theorem own : ownKnob Try.prog.godebug = none := by kernel_rfl
theorem laid : laidOutB Try.prog = true := by kernel_rfl
theorem u8_of {k : Int} (h : (Lit.int .u8 k).wf = true) : ∃ c : UInt8, k = c.toNat := by
  have e1 : IntKind.u8.min = 0 := by decide
  have e2 : IntKind.u8.max = 255 := by decide
  simp [Lit.wf, e1, e2] at h
  exact ⟨UInt8.ofNat k.toNat, by rw [UInt8.toNat_ofNat']; omega⟩
end Go.Proofs.Ytcoljbcjnggagaa.ConRow
