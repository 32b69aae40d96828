/-
  What the laws' valid hands back, and the walk of WordBack.
-/
import Derived.Test.YtjjjopopalcokaaDoorWordAlive
namespace Go.Proofs.YtjjjopopalcokaaDoor
open Go.RowKit
open WM
set_option linter.unusedVariables false
set_option linter.unusedSimpArgs false

def validB (l : List Md) : Bool := !greatB l && decide (chk l = 0)
theorem validB_yes {l : List Md} (h : validB l = true) : greatB l = false ∧ chk l = 0 := by
  unfold validB at h; simpa using h
set_option maxRecDepth 100000 in
theorem lawvalid_any (v : Value) (l : List Md) (hmax : l.length ≤ 9223372036854775807) (hargs : ∀ m ∈ l, m.a.length ≤ 9223372036854775807) (w : World) (hv : Mods w v l) :
    Calls Tryd.prog 23 #[v] w fun e w' => e = .returned (.bool (validB l)) ∧ Below w.heap.size w w' := by
  have KG := Lib.hid (great_any v l hmax w hv hargs)
  cases hg : greatB l with
  | true =>
    have HF : Hid (validB l = false) := Lib.hid (by unfold validB; rw [hg]; rfl)
    rw [hg] at KG
    clear hv hg hargs
    go_enter Tryd.func23, Tryd.ntmps23
    go_wp2_with fail
    refine KG.out.mono ?_
    rintro e wx ⟨rfl, rfl⟩
    go_wp2_with fail
    go_ret
    exact ⟨ret_bool HF.out.symm, Below.refl _ _⟩
  | false =>
    obtain ⟨la, laa⟩ := great_no hg
    have KC := Lib.hid (check_any v l la laa w hv)
    rw [hg] at KG
    have HF : Hid (validB l = decide (chk l = 0)) := Lib.hid (by unfold validB; rw [hg]; rfl)
    obtain ⟨c, hc⟩ : ∃ c, chk l = c := ⟨_, rfl⟩
    rw [hc] at KC HF
    clear hv hg hargs la laa hc
    by_cases h0 : c = 0
    · subst h0
      go_enter Tryd.func23, Tryd.ntmps23
      go_wp2_with fail
      refine KG.out.mono ?_
      rintro e wx ⟨rfl, rfl⟩
      go_wp2_with fail
      refine KC.out.mono ?_
      rintro e w1 ⟨rfl, hb⟩
      have B1 := Lib.hid hb
      clear hb
      go_wp2_with fail
      go_ret
      exact ⟨ret_bool HF.out.symm, B1.out⟩
    · have h1 : (c == 0) = false := by simpa using h0
      have HF2 : Hid (validB l = false) := Lib.hid (by rw [HF.out]; simpa using h0)
      clear h0
      go_enter Tryd.func23, Tryd.ntmps23
      go_wp2_with fail
      refine KG.out.mono ?_
      rintro e wx ⟨rfl, rfl⟩
      go_wp2_with fail
      refine KC.out.mono ?_
      rintro e w1 ⟨rfl, hb⟩
      have B1 := Lib.hid hb
      clear hb
      go_wp2_with fail
      go_ret
      exact ⟨ret_bool HF2.out.symm, B1.out⟩
theorem psame_yes (x y : Value) (l : List Md) (h1 : l.length ≤ 9223372036854775807) (g1 : ∀ m ∈ l, m.a.length ≤ 9223372036854775807) (w : World) (i1 : Mods w x l) (i2 : Mods w y l) :
    Calls Tryd.prog 24 #[x, y] w fun e w' => e = .returned (.bool true) ∧ Below w.heap.size w w' := by
  have := psame_any x y l l h1 h1 g1 g1 w i1 i2
  rwa [decide_eq_true rfl] at this
set_option maxRecDepth 100000 in
set_option maxHeartbeats 1600000 in
theorem back_walk (v : Value) (l : List Md) (hmax : l.length ≤ 9223372036854775807) (hargs : ∀ m ∈ l, m.a.length ≤ 9223372036854775807) (w : World) (hv : Mods w v l) (he : Env w) :
    Calls Tryd.prog 5 #[v] w fun e w' => e = .returned (.bool true) ∧ Below w.heap.size w w' := by
  have KV := Lib.hid (lawvalid_any v l hmax hargs w hv)
  have KA := Lib.hid alive_any
  have HE := Lib.hid he
  have HV := Lib.hid hv
  cases hvb : validB l with
  | false =>
    rw [hvb] at KV
    clear hv he hargs hvb
    go_enter Tryd.func5, Tryd.ntmps5
    go_wp2_with fail
    refine KV.out.mono ?_
    rintro e w1 ⟨rfl, hb⟩
    have B1 := Lib.hid hb
    clear hb
    go_wp2_with fail
    refine (KA.out _ (HE.out.later B1.out)).mono ?_
    rintro e w2 ⟨rfl, hb⟩
    have B2 := Lib.hid (B1.out.trans (hb.mono B1.out.size))
    clear hb
    go_wp2_with fail
    go_ret
    exact ⟨rfl, B2.out⟩
  | true =>
    obtain ⟨hg, h0⟩ := validB_yes hvb
    rw [hvb] at KV
    have KT := Lib.hid (fun w hv he => ptext_any v l hmax hargs w hv he)
    by_cases hlen : 50000 < (txt l).length
    · rw [(tC_many h0 hlen).1, (tC_many h0 hlen).2] at KT
      have eN : bA [] = ByteArray.empty := rfl
      rw [eN] at KT
      clear hv he hargs hvb hg h0 hlen eN
      go_enter Tryd.func5, Tryd.ntmps5
      go_wp2_with fail
      refine KV.out.mono ?_
      rintro e w1 ⟨rfl, hb⟩
      have B1 := Lib.hid hb
      clear hb
      go_wp2_with fail
      refine (KT.out _ (HV.out.later B1.out) (HE.out.later B1.out)).mono ?_
      rintro e w2 ⟨rfl, hb⟩
      have B2 := Lib.hid (B1.out.trans (hb.mono B1.out.size))
      clear hb
      go_wp2_with fail
      refine (KA.out _ (HE.out.later B2.out)).mono ?_
      rintro e w3 ⟨rfl, hb⟩
      have B3 := Lib.hid (B2.out.trans (hb.mono B2.out.size))
      clear hb
      go_wp2_with fail
      go_ret
      exact ⟨rfl, B3.out⟩
    · rw [(tC_yes h0 hlen).1, (tC_yes h0 hlen).2] at KT
      have hsz : (bA (txt l)).size ≤ 9223372036854775807 := by rw [← lA_len, lA_bA]; omega
      have KP := Lib.hid (fun w he => pparse_any (bA (txt l)) hsz w he)
      unfold PsEnd at KP
      have hp : prs (txt l) = some l := prs_iff.2 ⟨h0, rfl⟩
      rw [lA_bA, (pC_some hlen hp).1, (pC_some hlen hp).2] at KP
      have KS := Lib.hid (fun x w h h' => psame_yes x v l hmax hargs w h h')
      generalize bA (txt l) = S at KT KP
      clear hv he hargs hvb hg h0 hlen hp hsz
      go_enter Tryd.func5, Tryd.ntmps5
      go_wp2_with fail
      refine KV.out.mono ?_
      rintro e w1 ⟨rfl, hb⟩
      have B1 := Lib.hid hb
      clear hb
      go_wp2_with fail
      refine (KT.out _ (HV.out.later B1.out) (HE.out.later B1.out)).mono ?_
      rintro e w2 ⟨rfl, hb⟩
      have B2 := Lib.hid (B1.out.trans (hb.mono B1.out.size))
      clear hb
      go_wp2_with fail
      refine (KP.out _ (HE.out.later B2.out)).mono ?_
      rintro e w3 ⟨v3, vs3, rfl, hb, hm⟩
      have B3 := Lib.hid (B2.out.trans (hb.mono B2.out.size))
      have M3 := Lib.hid hm.mods
      clear hb hm
      go_wp2_with fail
      refine (KS.out _ _ M3.out (HV.out.later B3.out)).mono ?_
      rintro e w4 ⟨rfl, hb⟩
      have B4 := Lib.hid (B3.out.trans (hb.mono B3.out.size))
      clear hb
      go_wp2_with fail
      refine (KA.out _ (HE.out.later B4.out)).mono ?_
      rintro e w5 ⟨rfl, hb⟩
      have B5 := Lib.hid (B4.out.trans (hb.mono B4.out.size))
      clear hb
      go_wp2_with fail
      go_ret
      exact ⟨rfl, B5.out⟩
end Go.Proofs.YtjjjopopalcokaaDoor
