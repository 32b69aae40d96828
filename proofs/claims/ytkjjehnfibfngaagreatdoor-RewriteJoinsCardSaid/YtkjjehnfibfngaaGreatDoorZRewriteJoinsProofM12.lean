/-
  Texts of the proof, merged: ZRewSame, ZRewLawJ, ZWordOpen, ZRewOpen, ZRewOpenB, ZRewCard.
-/
import Derived.Test.YtkjjehnfibfngaaGreatDoorZRewriteJoinsProofM11
import Derived.Test.YtkjjehnfibfngaaGreatDoorZRewriteJoinsProofM5
import Derived.Test.YtkjjehnfibfngaaGreatDoorZRewriteJoinsProofM2
import Derived.ProofKit
import Derived.OpenShut
import Derived.ChangeSlices
import Derived.Deep.SlicePairs
import Derived.Lib.SmallJoins
import Derived.Test.YtkjjehnfibfngaaGreatDoorZRewriteJoinsProofM6
import Derived.Test.YtkjjehnfibfngaaGreatDoorCards
import Derived.Test.YtkjjehnfibfngaaGreatDoorTie
import Derived.Test.YtkjjehnfibfngaaGreatDoorRows
import Derived.ChangeMaps5
import Derived.Deep.DeepHandedRow
import Derived.Lib.LaidTab
import Derived.Stop.LaidErr
import Derived.Stop.Joined
import Derived.JoinedCond
import GoSem.PinnedTables
namespace Go.Proofs.YtkjjehnfibfngaaGreatDoor
open Go.RowKit
open WM RM
set_option linter.unusedVariables false
set_option linter.unusedSimpArgs false

theorem same_yes (v1 v2 : Value) (l : List Md) (h1 : l.length ≤ 9223372036854775807) (g1 : ∀ m ∈ l, m.a.length ≤ 9223372036854775807) (w : World) (i1 : Mods w v1 l) (i2 : Mods w v2 l) :
    Calls Tryz.prog 11 #[v1, v2] w fun e w' => e = .returned (.bool true) ∧ Below w.heap.size w w' := by
  have := same_any v1 v2 l l h1 h1 g1 g1 w i1 i2
  rwa [decide_eq_true rfl] at this
theorem chk_len {u : List Md} (h : chk u = 0) : u.length ≤ 2000 := (chk_zero.1 h).1
theorem chk_a {u : List Md} (h : chk u = 0) : ∀ m ∈ u, m.a.length ≤ 4 := fun m hm => (fine_args4 (List.all_eq_true.1 (chk_zero.1 h).2.1 m hm)).1
theorem run_chk {l : List Rw} (hl : rchk l = 0) : ∀ (n : Nat) (u : List Md), chk u = 0 → chk (runF l n u).2 = 0
  | 0, u, h => h
  | n + 1, u, h => by
    rw [runF]
    split
    · show chk [] = 0
      decide
    · exact run_chk hl n _ (stL_chk hl h)
theorem run_bad {l : List Rw} : ∀ (n : Nat) (u : List Md), (runF l n u).1 ≠ 0 → (runF l n u).2 = []
  | 0, u, h => absurd rfl h
  | n + 1, u, h => by
    rw [runF] at h ⊢
    split
    · rfl
    · rename_i h2
      rw [if_neg h2] at h
      exact run_bad n _ h
theorem run_add {l : List Rw} : ∀ (m n : Nat) (u : List Md), runF l (m + n) u = if (runF l m u).1 ≠ 0 then ((runF l m u).1, []) else runF l n (runF l m u).2
  | 0, n, u => by rw [Nat.zero_add]; simp [runF]
  | m + 1, n, u => by
    rw [show m + 1 + n = (m + n) + 1 by omega]
    by_cases h : stC l u = 0
    · rw [run_ok h, run_ok h]
      exact run_add m n _
    · rw [run_no h, run_no h]
      simp [h]
theorem ru_ok {l : List Rw} {u : List Md} {n : Nat} (h1 : rchk l = 0) (h2 : chk u = 0) (h3 : n ≤ 30) : ruC l u (n : Int) = (runF l n u).1 ∧ ruL l u (n : Int) = (runF l n u).2 := by
  have h := ru_run h1 h2 (n := (n : Int)) (by omega) (c := (runF l n u).1) (u := (runF l n u).2) rfl
  refine ⟨h.1, ?_⟩
  rw [h.2]
  split
  · rfl
  · rename_i h4; exact (run_bad n u h4).symm
theorem ruL_chk {l : List Rw} {u : List Md} {n : Nat} (h1 : rchk l = 0) (h2 : chk u = 0) (h3 : n ≤ 30) : chk (ruL l u (n : Int)) = 0 := by
  rw [(ru_ok h1 h2 h3).2]; exact run_chk h1 n u h2
/-! ### A step of a joint word -/
theorem st_join {l : List Rw} {a b : List Md} (hl : rchk l = 0) (ha : chk a = 0) (hb : chk b = 0) (hj : jC a b = 0) :
    ((stC l a ≠ 0 ∨ stC l b ≠ 0) → stC l (a ++ b) ≠ 0) ∧ (stC l a = 0 → stC l b = 0 → stC l (a ++ b) = jC (stL l a) (stL l b) ∧ stL l (a ++ b) = jL (stL l a) (stL l b)) := by
  have hlen : a.length + b.length ≤ 2000 := by
    rcases Nat.lt_or_ge 2000 (a.length + b.length) with h | h
    · rw [jC_3 ha hb h] at hj; omega
    · exact h
  have hab : chk (a ++ b) = 0 := app_chk ha hb hlen
  obtain ⟨a1, a2⟩ := st_valid hl ha
  obtain ⟨b1, b2⟩ := st_valid hl hb
  obtain ⟨c1, c2⟩ := st_valid hl hab
  rw [stepL_app] at c1 c2
  cases hsa : stepL l a with
  | none =>
    rw [hsa] at a1 c1
    have e1 : stC l a = 16 := a1
    have e2 : stC l (a ++ b) = 16 := c1
    refine ⟨fun _ => by rw [e2]; decide, fun h => by rw [e1] at h; exact absurd h (by decide)⟩
  | some x =>
    cases hsb : stepL l b with
    | none =>
      rw [hsb] at b1
      rw [hsa, hsb] at c1
      have e1 : stC l b = 16 := b1
      have e2 : stC l (a ++ b) = 16 := c1
      refine ⟨fun _ => by rw [e2]; decide, fun _ h => by rw [e1] at h; exact absurd h (by decide)⟩
    | some y =>
      rw [hsa] at a1 a2
      rw [hsb] at b1 b2
      rw [hsa, hsb] at c1 c2
      simp only at a1 a2 b1 b2 c1 c2
      rw [List.length_append] at c1 c2
      constructor
      · intro h
        rw [c1]
        split
        · decide
        · exfalso
          rcases h with h | h
          · rw [a1] at h; split at h
            · omega
            · exact h rfl
          · rw [b1] at h; split at h
            · omega
            · exact h rfl
      · intro h1 h2
        have hx : ¬ 2000 < x.length := by intro h; rw [a1, if_pos h] at h1; omega
        have hy : ¬ 2000 < y.length := by intro h; rw [b1, if_pos h] at h2; omega
        rw [if_neg hx] at a2
        rw [if_neg hy] at b2
        have cx : chk x = 0 := by rw [← a2]; exact stL_chk hl ha
        have cy : chk y = 0 := by rw [← b2]; exact stL_chk hl hb
        rw [a2, b2, c1, c2]
        by_cases h : 2000 < x.length + y.length
        · rw [if_pos h, if_pos h, jC_3 cx cy h, jL_no (by rw [jC_3 cx cy h]; decide)]
          exact ⟨rfl, rfl⟩
        · rw [if_neg h, if_neg h, jC_4 cx cy h, jL_yes (jC_4 cx cy h)]
          exact ⟨rfl, rfl⟩
theorem jC_vals {a b : List Md} (ha : chk a = 0) (hb : chk b = 0) (h : jC a b ≠ 0) : jC a b = 4 := by
  rcases Nat.lt_or_ge 2000 (a.length + b.length) with h2 | h2
  · exact jC_3 ha hb h2
  · exact absurd (jC_4 ha hb (by omega)) h
end Go.Proofs.YtkjjehnfibfngaaGreatDoor
namespace Go.Proofs.YtkjjehnfibfngaaGreatDoor
open Go.RowKit
open WM RM
set_option linter.unusedVariables false
set_option linter.unusedSimpArgs false

set_option maxRecDepth 100000 in
set_option maxHeartbeats 3200000 in
theorem rjoins_walk (v v1 v2 : Value) (l : List Rw) (hl : l.length ≤ 9223372036854775807) (a b : List Md) (ha : a.length ≤ 9223372036854775807) (hb0 : b.length ≤ 9223372036854775807) (haa : ∀ m ∈ a, m.a.length ≤ 9223372036854775807) (hbb : ∀ m ∈ b, m.a.length ≤ 9223372036854775807)
    (w : World) (h1 : Rws w v l) (h2 : Mods w v1 a) (h3 : Mods w v2 b) (n1 : NilOr v1) (n2 : NilOr v2) (he : Env w) :
    Calls Tryz.prog 3 #[v, v1, v2] w fun e w' => e = .returned (.bool true) ∧ Below w.heap.size w w' := by
  have HE := Lib.hid he
  have KA := Lib.hid alive_any
  have K1 := Lib.hid (fun w h h' => lvalid_any v v1 l a hl ha haa w h h')
  have K2 := Lib.hid (fun w h h' => lvalid_any v v2 l b hl hb0 hbb w h h')
  obtain ⟨p, cap, rfl⟩ := h1.slice
  obtain ⟨pa, ca, rfl⟩ := h2.slice
  obtain ⟨pb, cb, rfl⟩ := h3.slice
  have H1 := Lib.hid h1
  have H2 := Lib.hid h2
  have H3 := Lib.hid h3
  clear h1 h2 h3 he
  cases va : lawB l a with
  | false =>
    rw [va] at K1
    clear va
    go_enter Tryz.func3, Tryz.ntmps3
    go_wp2_with fail
    refine (K1.out _ H1.out H2.out).mono ?_
    rintro e w1 ⟨rfl, hb⟩
    have B1 := Lib.hid hb
    clear hb
    go_wp2_with fail
    refine (KA.out _ (HE.out.later B1.out)).mono ?_
    rintro e w2 ⟨rfl, hb⟩
    have B2 := Lib.hid (B1.out.trans (hb.mono B1.out.size))
    clear hb
    go_wp2_with fail
    go_ret
    exact ⟨rfl, B2.out⟩
  | true =>
    rw [va] at K1
    cases vb : lawB l b with
    | false =>
      rw [vb] at K2
      clear va vb
      go_enter Tryz.func3, Tryz.ntmps3
      go_wp2_with fail
      refine (K1.out _ H1.out H2.out).mono ?_
      rintro e w1 ⟨rfl, hb⟩
      have B1 := Lib.hid hb
      clear hb
      go_wp2_with fail
      refine (K2.out _ (H1.out.later B1.out) (H3.out.later B1.out)).mono ?_
      rintro e w2 ⟨rfl, hb⟩
      have B2 := Lib.hid (B1.out.trans (hb.mono B1.out.size))
      clear hb
      go_wp2_with fail
      refine (KA.out _ (HE.out.later B2.out)).mono ?_
      rintro e w3 ⟨rfl, hb⟩
      have B3 := Lib.hid (B2.out.trans (hb.mono B2.out.size))
      clear hb
      go_wp2_with fail
      go_ret
      exact ⟨rfl, B3.out⟩
    | true =>
      rw [vb] at K2
      obtain ⟨g1, r1, g2, c1⟩ := lawB_iff.1 va
      obtain ⟨-, -, g3, c2⟩ := lawB_iff.1 vb
      have sm := (greatR_sm g1).2
      have la := chk_len c1
      have lb := chk_len c2
      have ga := chk_a c1
      have gb := chk_a c2
      have KJ := Lib.hid (fun w h h' => ujoin_any (.slice pa a.length ca) (.slice pb b.length cb) a b (by omega) (by omega) (fun m hm => by have := ga m hm; omega) (fun m hm => by have := gb m hm; omega) n1 n2 w h h')
      unfold UJnEnd at KJ
      by_cases hj : jC a b = 0
      · have hlen : a.length + b.length ≤ 2000 := by
          rcases Nat.lt_or_ge 2000 (a.length + b.length) with h | h
          · rw [jC_3 c1 c2 h] at hj; omega
          · exact h
        have hab := app_chk c1 c2 hlen
        rw [hj, jL_yes hj] at KJ
        obtain ⟨sj1, sj2⟩ := st_join r1 c1 c2 hj
        have KX := Lib.hid (fun w h h' => pstep1_any (.slice p l.length cap) l hl sm (.slice pa a.length ca) a ha haa w h h' n1)
        have KY := Lib.hid (fun w h h' => pstep1_any (.slice p l.length cap) l hl sm (.slice pb b.length cb) b hb0 hbb w h h' n2)
        have KZ := Lib.hid (fun vv w h h' hn => pstep1_any (.slice p l.length cap) l hl sm vv (a ++ b) (by rw [List.length_append]; omega) (fun m hm => by have := chk_a hab m hm; omega) w h h' hn)
        unfold PtEnd at KX KY KZ
        by_cases hne : stC l a = 0 ∧ stC l b = 0
        · obtain ⟨e1, e2⟩ := hne
          obtain ⟨e3, e4⟩ := sj2 e1 e2
          rw [e1] at KX
          rw [e2] at KY
          rw [e3, e4] at KZ
          have cx := stL_chk r1 c1
          have cy := stL_chk r1 c2
          have gx := chk_a cx
          have gy := chk_a cy
          have lx := chk_len cx
          have ly := chk_len cy
          have KB := Lib.hid (fun x y w nx ny h h' => ujoin_any x y (stL l a) (stL l b) (by omega) (by omega) (fun m hm => by have := gx m hm; omega) (fun m hm => by have := gy m hm; omega) nx ny w h h')
          unfold UJnEnd at KB
          have KS := Lib.hid (fun x y w h h' => same_yes x y (jL (stL l a) (stL l b)) (by unfold jL; split; · rw [List.length_append]; omega
                                                                                          · simp) (fun m hm => by
            unfold jL at hm; split at hm
            · rcases List.mem_append.1 hm with h | h
              · have := gx m h; omega
              · have := gy m h; omega
            · simp at hm) w h h')
          obtain ⟨d, hd⟩ : ∃ d, jC (stL l a) (stL l b) = d := ⟨_, rfl⟩
          rw [hd] at KZ KB
          have t1 : (d == d) = true := by simp
          clear va vb g1 g2 g3 c1 c2 sm la lb ga gb hj hlen hab sj1 sj2 e1 e2 e3 e4 cx cy gx gy lx ly hd haa hbb ha hb0 r1
          go_enter Tryz.func3, Tryz.ntmps3
          go_wp2_with fail
          refine (K1.out _ H1.out H2.out).mono ?_
          rintro e w1 ⟨rfl, hb⟩
          have B1 := Lib.hid hb
          clear hb
          go_wp2_with fail
          refine (K2.out _ (H1.out.later B1.out) (H3.out.later B1.out)).mono ?_
          rintro e w2 ⟨rfl, hb⟩
          have B2 := Lib.hid (B1.out.trans (hb.mono B1.out.size))
          clear hb
          go_wp2_with fail
          refine (KJ.out _ (H2.out.later B2.out) (H3.out.later B2.out)).mono ?_
          rintro e w3 ⟨wv, vs3, rfl, hb, hm⟩
          have B3 := Lib.hid (B2.out.trans (hb.mono B2.out.size))
          have M3 := Lib.hid hm
          clear hb hm
          go_wp2_with fail
          refine (KX.out _ (H1.out.later B3.out) (H2.out.later B3.out)).mono ?_
          rintro e w4 ⟨xv, vs4, rfl, hb, hm⟩
          have B4 := Lib.hid (B3.out.trans (hb.mono B3.out.size))
          have C4 := Lib.hid hb
          have M4 := Lib.hid hm
          clear hb hm
          go_wp2_with fail
          refine (KY.out _ (H1.out.later B4.out) (H3.out.later B4.out)).mono ?_
          rintro e w5 ⟨yv, vs5, rfl, hb, hm⟩
          have B5 := Lib.hid (B4.out.trans (hb.mono B4.out.size))
          have C5 := Lib.hid hb
          have M5 := Lib.hid hm
          clear hb hm
          have M35 := Lib.hid ((M3.out.later C4.out).later C5.out)
          have M45 := Lib.hid (M4.out.later C5.out)
          go_wp2_with fail
          refine (KZ.out _ _ (H1.out.later B5.out) M35.out.mods M35.out.nilOr).mono ?_
          rintro e w6 ⟨zv, vs6, rfl, hb, hm⟩
          have B6 := Lib.hid (B5.out.trans (hb.mono B5.out.size))
          have C6 := Lib.hid hb
          have M6 := Lib.hid hm
          clear hb hm
          have M46 := Lib.hid (M45.out.later C6.out)
          have M56 := Lib.hid (M5.out.later C6.out)
          go_wp2_with fail
          refine (KB.out _ _ _ M46.out.nilOr M56.out.nilOr M46.out.mods M56.out.mods).mono ?_
          rintro e w7 ⟨bv, vs7, rfl, hb, hm⟩
          have B7 := Lib.hid (B6.out.trans (hb.mono B6.out.size))
          have C7 := Lib.hid hb
          have M7 := Lib.hid hm
          clear hb hm
          go_wp2_with fail
          refine (KS.out _ _ _ (M6.out.later C7.out).mods M7.out.mods).mono ?_
          rintro e w8 ⟨rfl, hb⟩
          have B8 := Lib.hid (B7.out.trans (hb.mono B7.out.size))
          clear hb
          go_wp2_with fail
          refine (KA.out _ (HE.out.later B8.out)).mono ?_
          rintro e w9 ⟨rfl, hb⟩
          have B9 := Lib.hid (B8.out.trans (hb.mono B8.out.size))
          clear hb
          go_wp2_with fail
          go_ret
          exact ⟨(by first | rfl | simp), B9.out⟩
        · have hz : stC l (a ++ b) ≠ 0 := sj1 (by
            by_cases e : stC l a = 0
            · exact .inr (fun h => hne ⟨e, h⟩)
            · exact .inl e)
          obtain ⟨f, hf⟩ : ∃ f, stC l a = f := ⟨_, rfl⟩
          obtain ⟨g, hg⟩ : ∃ g, stC l b = g := ⟨_, rfl⟩
          obtain ⟨h, hh⟩ : ∃ h, stC l (a ++ b) = h := ⟨_, rfl⟩
          rw [hf] at KX hne
          rw [hg] at KY hne
          rw [hh] at KZ hz
          have th : (h != 0) = true := by rw [bne_iff_ne]; exact hz
          clear va vb g1 g2 g3 c1 c2 sm la lb ga gb hj hlen hab sj1 sj2 hf hg hh hz haa hbb ha hb0 r1
          by_cases hf0 : f = 0
          · subst hf0
            have tg : (g != 0) = true := by
              rw [bne_iff_ne]; intro h0
              exact hne ⟨rfl, h0⟩
            clear hne
            go_enter Tryz.func3, Tryz.ntmps3
            go_wp2_with fail
            refine (K1.out _ H1.out H2.out).mono ?_
            rintro e w1 ⟨rfl, hb⟩
            have B1 := Lib.hid hb
            clear hb
            go_wp2_with fail
            refine (K2.out _ (H1.out.later B1.out) (H3.out.later B1.out)).mono ?_
            rintro e w2 ⟨rfl, hb⟩
            have B2 := Lib.hid (B1.out.trans (hb.mono B1.out.size))
            clear hb
            go_wp2_with fail
            refine (KJ.out _ (H2.out.later B2.out) (H3.out.later B2.out)).mono ?_
            rintro e w3 ⟨wv, vs3, rfl, hb, hm⟩
            have B3 := Lib.hid (B2.out.trans (hb.mono B2.out.size))
            have M3 := Lib.hid hm
            clear hb hm
            go_wp2_with fail
            refine (KX.out _ (H1.out.later B3.out) (H2.out.later B3.out)).mono ?_
            rintro e w4 ⟨xv, vs4, rfl, hb, hm⟩
            have B4 := Lib.hid (B3.out.trans (hb.mono B3.out.size))
            have C4 := Lib.hid hb
            clear hb hm
            go_wp2_with fail
            refine (KY.out _ (H1.out.later B4.out) (H3.out.later B4.out)).mono ?_
            rintro e w5 ⟨yv, vs5, rfl, hb, hm⟩
            have B5 := Lib.hid (B4.out.trans (hb.mono B4.out.size))
            have C5 := Lib.hid hb
            clear hb hm
            have M35 := Lib.hid ((M3.out.later C4.out).later C5.out)
            go_wp2_with fail
            refine (KZ.out _ _ (H1.out.later B5.out) M35.out.mods M35.out.nilOr).mono ?_
            rintro e w6 ⟨zv, vs6, rfl, hb, hm⟩
            have B6 := Lib.hid (B5.out.trans (hb.mono B5.out.size))
            clear hb hm
            go_wp2_with fail
            refine (KA.out _ (HE.out.later B6.out)).mono ?_
            rintro e w7 ⟨rfl, hb⟩
            have B7 := Lib.hid (B6.out.trans (hb.mono B6.out.size))
            clear hb
            go_wp2_with fail
            go_ret
            exact ⟨(by first | rfl | simp), B7.out⟩
          · have tf : (f != 0) = true := by rw [bne_iff_ne]; exact hf0
            clear hne hf0
            go_enter Tryz.func3, Tryz.ntmps3
            go_wp2_with fail
            refine (K1.out _ H1.out H2.out).mono ?_
            rintro e w1 ⟨rfl, hb⟩
            have B1 := Lib.hid hb
            clear hb
            go_wp2_with fail
            refine (K2.out _ (H1.out.later B1.out) (H3.out.later B1.out)).mono ?_
            rintro e w2 ⟨rfl, hb⟩
            have B2 := Lib.hid (B1.out.trans (hb.mono B1.out.size))
            clear hb
            go_wp2_with fail
            refine (KJ.out _ (H2.out.later B2.out) (H3.out.later B2.out)).mono ?_
            rintro e w3 ⟨wv, vs3, rfl, hb, hm⟩
            have B3 := Lib.hid (B2.out.trans (hb.mono B2.out.size))
            have M3 := Lib.hid hm
            clear hb hm
            go_wp2_with fail
            refine (KX.out _ (H1.out.later B3.out) (H2.out.later B3.out)).mono ?_
            rintro e w4 ⟨xv, vs4, rfl, hb, hm⟩
            have B4 := Lib.hid (B3.out.trans (hb.mono B3.out.size))
            have C4 := Lib.hid hb
            clear hb hm
            go_wp2_with fail
            refine (KY.out _ (H1.out.later B4.out) (H3.out.later B4.out)).mono ?_
            rintro e w5 ⟨yv, vs5, rfl, hb, hm⟩
            have B5 := Lib.hid (B4.out.trans (hb.mono B4.out.size))
            have C5 := Lib.hid hb
            clear hb hm
            have M35 := Lib.hid ((M3.out.later C4.out).later C5.out)
            go_wp2_with fail
            refine (KZ.out _ _ (H1.out.later B5.out) M35.out.mods M35.out.nilOr).mono ?_
            rintro e w6 ⟨zv, vs6, rfl, hb, hm⟩
            have B6 := Lib.hid (B5.out.trans (hb.mono B5.out.size))
            clear hb hm
            go_wp2_with fail
            refine (KA.out _ (HE.out.later B6.out)).mono ?_
            rintro e w7 ⟨rfl, hb⟩
            have B7 := Lib.hid (B6.out.trans (hb.mono B6.out.size))
            clear hb
            go_wp2_with fail
            go_ret
            exact ⟨(by first | rfl | simp), B7.out⟩
      · have hj4 := jC_vals c1 c2 hj
        rw [hj4] at KJ
        clear va vb g1 g2 g3 c1 c2 sm la lb ga gb hj hj4 haa hbb ha hb0 r1
        go_enter Tryz.func3, Tryz.ntmps3
        go_wp2_with fail
        refine (K1.out _ H1.out H2.out).mono ?_
        rintro e w1 ⟨rfl, hb⟩
        have B1 := Lib.hid hb
        clear hb
        go_wp2_with fail
        refine (K2.out _ (H1.out.later B1.out) (H3.out.later B1.out)).mono ?_
        rintro e w2 ⟨rfl, hb⟩
        have B2 := Lib.hid (B1.out.trans (hb.mono B1.out.size))
        clear hb
        go_wp2_with fail
        refine (KJ.out _ (H2.out.later B2.out) (H3.out.later B2.out)).mono ?_
        rintro e w3 ⟨wv, vs3, rfl, hb, hm⟩
        have B3 := Lib.hid (B2.out.trans (hb.mono B2.out.size))
        clear hb hm
        go_wp2_with fail
        refine (KA.out _ (HE.out.later B3.out)).mono ?_
        rintro e w4 ⟨rfl, hb⟩
        have B4 := Lib.hid (B3.out.trans (hb.mono B3.out.size))
        clear hb
        go_wp2_with fail
        go_ret
        exact ⟨rfl, B4.out⟩
end Go.Proofs.YtkjjehnfibfngaaGreatDoor
namespace Go.Proofs.YtkjjehnfibfngaaGreatDoor
open Go.ChangeShapes Go.WideShapes Go.ChangeAt Go.RowKit Go.Joins Go.Deep
open WM
set_option linter.unusedVariables false
set_option linter.unusedSimpArgs false
set_option maxRecDepth 100000

theorem wo_cellsM : Tryz.prog.cellsOf 43 = 2 := by kernel_rfl
theorem wo_cellsU : Tryz.prog.cellsOf 5 = 1 := by kernel_rfl
theorem wo_cellsI : Tryz.prog.cellsOf 3 = 1 := by kernel_rfl
theorem wo_cellsL : Tryz.prog.cellsOf 41 = 1 := by kernel_rfl
theorem wo_fields {fs : Array Field} {l : List (Nat × TypeId)} (h : fs.map (fun f : Field => (f.offset, f.type)) = l.toArray) : ∀ (i o : Nat) (t : TypeId), l[i]? = some (o, t) → ∃ f : Field, fs[i]? = some f ∧ f.offset = o ∧ f.type = t := by
  intro i o t hi
  have : (fs.map (fun f : Field => (f.offset, f.type)))[i]? = some (o, t) := by rw [h]; simpa using hi
  rw [Array.getElem?_map, Option.map_eq_some_iff] at this
  obtain ⟨f, h1, h2⟩ := this
  injection h2 with h2 h3
  exact ⟨f, h1, h2, h3⟩
theorem wo_struct : ∃ fs : Array Field, Tryz.prog.underlying 43 = some (.struct fs) ∧ fs.map (fun f : Field => (f.offset, f.type)) = [(0, 5), (1, 41)].toArray := ⟨_, Tryz.underlying43, by simp⟩
theorem wo_add (b off i : Nat) : (⟨b, off, none⟩ : Addr).add i = ⟨b, off + i, none⟩ := by
  unfold Addr.add; by_cases h : i = 0 <;> simp [h]
section
variable {H : Type} {enc : TypeId × Value → H} {W : World} {base : Nat} {spare : Nat → Bool} {held : Bool}
theorem wo_ints {fuel : Nat} {cs : List Value} {x : DataW H × List MemPlace} (h : DataW.trod enc Tryz.prog W base spare held fuel 41 cs = some x) :
    ∃ (v : Value) (l : List Int), cs = [v] ∧ l.length ≤ 9223372036854775807 ∧ Ints W v l ∧ NilOr v := by
  rcases open_ints Tryz.underlying41 Tryz.underlying3 wo_cellsI h with ⟨hcs, hx⟩ | ⟨a, len, cap, zs, hcs, _, hl, hm, hz, hx, hc, hw⟩
  · exact ⟨_, [], hcs, by simp, .none _ _, .inl rfl⟩
  · refine ⟨_, zs.take len, hcs, ?_, ?_, .inr ⟨_, _, _, rfl⟩⟩
    · unfold maxLen at hm
      rw [List.length_take]; omega
    · have hzl : len ≤ zs.length := by rw [hz]; split <;> omega
      have hll : (zs.take len).length = len := by rw [List.length_take]; omega
      rcases Nat.eq_zero_or_pos len with h0 | hpos
      · subst h0; rw [List.take_zero]; exact .none _ _
      · have hfirst := hc 0 (by omega)
        obtain ⟨b, off, path⟩ := a
        have hp : path = none := by simpa [Addr.add] using World.cell?_spot hfirst
        subst hp
        have hlt : b < W.heap.size := by
          rcases Nat.lt_or_ge b W.heap.size with h | h
          · exact h
          · simp [World.cell?, Addr.add, Array.getElem?_eq_none h] at hfirst
        have := Ints.some (w := W) b off cap (zs.take len) (by omega) hlt (by
          intro i hi
          have e := hc i (by omega)
          rw [wo_add] at e
          rw [e]
          have : i < zs.length := by omega
          simp [List.getD, this])
        rwa [hll] at this
theorem wo_mod {fuel : Nat} {cs : List Value} {x : DataW H × List MemPlace} (h : DataW.trod enc Tryz.prog W base spare held fuel 43 cs = some x) :
    ∃ (m : Md) (v : Value), cs = [.int .u8 m.c.toNat, v] ∧ m.a.length ≤ 9223372036854775807 ∧ Ints W v m.a ∧ NilOr v := by
  obtain ⟨fs, hu, hf⟩ := wo_struct
  obtain ⟨xs, n, rfl, ex, hl, hxl, hx⟩ := DataW.trod_struct hu h
  have F := wo_fields hf
  rw [wo_cellsM] at hl
  obtain ⟨c0, c1, rfl⟩ : ∃ a b, cs = [a, b] := by
    match cs, hl with
    | [a, b], _ => exact ⟨a, b, rfl⟩
  have hsz : fs.size = 2 := by have := congrArg Array.size hf; simpa using this
  have get : ∀ i, i < 2 → ∃ y, xs[i]? = some y := fun i hi => ⟨xs[i]'(by omega), List.getElem?_eq_getElem (by omega)⟩
  have step : ∀ (i o : Nat) (t : TypeId) (y : DataW H × List MemPlace), ([(0, 5), (1, 41)] : List (Nat × TypeId))[i]? = some (o, t) → xs[i]? = some y → DataW.trod enc Tryz.prog W base spare held n t (([c0, c1].drop o).take (Tryz.prog.cellsOf t)) = some y := by
    intro i o t y h1 h2
    obtain ⟨f, h3, rfl, rfl⟩ := F i o t h1
    rw [hx i f h3, h2]
  obtain ⟨y0, g0⟩ := get 0 (by omega)
  obtain ⟨y1, g1⟩ := get 1 (by omega)
  have h0 := step 0 _ _ _ rfl g0
  have h1 := step 1 _ _ _ rfl g1
  rw [wo_cellsU] at h0
  rw [wo_cellsL] at h1
  obtain ⟨k, e0, -, w0⟩ := DataW.trod_int Tryz.underlying5 h0
  simp only [List.drop_zero, List.drop_succ_cons, List.take_succ_cons, List.take_zero, List.cons.injEq, and_true] at e0
  simp only [List.drop_zero, List.drop_succ_cons, List.take_succ_cons, List.take_zero] at h1
  obtain ⟨v, l, e1, h2, h3, h4⟩ := wo_ints h1
  simp only [List.cons.injEq, and_true] at e1
  subst e0 e1
  have u1 : IntKind.u8.min = 0 := by decide
  have u2 : IntKind.u8.max = 255 := by decide
  simp [Lit.wf, u1, u2] at w0
  refine ⟨⟨UInt8.ofNat k.toNat, l⟩, c1, ?_, h2, h3, h4⟩
  have : ((UInt8.ofNat k.toNat).toNat : Int) = k := by rw [UInt8.toNat_ofNat']; omega
  rw [this]
theorem wo_mods {fuel : Nat} {cs : List Value} {x : DataW H × List MemPlace} (h : DataW.trod enc Tryz.prog W base spare held fuel 23 cs = some x) :
    ∃ (v : Value) (l : List Md), cs = [v] ∧ l.length ≤ 9223372036854775807 ∧ (∀ m ∈ l, m.a.length ≤ 9223372036854775807) ∧ Mods W v l ∧ NilOr v := by
  rcases DataW.trod_slice Tryz.underlying23 h with ⟨hcs, -⟩ | ⟨ad, len, cap, elems, rest, n, _, hcs, _, _, hlc, hcm, hel, hx, -⟩
  · exact ⟨_, [], hcs, by simp, by simp, .none _ _, .inl rfl⟩
  · have one : ∀ i, i < len → ∃ p : Md × Value, (∃ b off, ad.add (i * 2) = ⟨b, off, none⟩ ∧ b < W.heap.size ∧ W.cell? ⟨b, off, none⟩ = some (.int .u8 p.1.c.toNat) ∧ W.cell? ⟨b, off + 1, none⟩ = some p.2) ∧ p.1.a.length ≤ 9223372036854775807 ∧ Ints W p.2 p.1.a ∧ NilOr p.2 := by
      intro i hi
      have h1 := hx i hi
      rw [wo_cellsM, List.getElem?_eq_getElem (by omega)] at h1
      obtain ⟨cs', h2, h3⟩ := Option.bind_eq_some_iff.1 h1
      obtain ⟨m, v, rfl, h4, h5, h6⟩ := wo_mod h3
      obtain ⟨_, _, hc⟩ := World.cells?_some h2
      obtain ⟨b, off, path, he⟩ : ∃ b off path, ad.add (i * 2) = ⟨b, off, path⟩ := ⟨_, _, _, rfl⟩
      rw [he] at hc
      have c0 := hc 0 (by omega)
      have hp : path = none := by simpa [Addr.add] using World.cell?_spot c0
      subst hp
      have c1 := hc 1 (by omega)
      have hlt : b < W.heap.size := by
        rcases Nat.lt_or_ge b W.heap.size with h | h
        · exact h
        · simp [World.cell?, Addr.add, Array.getElem?_eq_none h] at c0
      simp [Addr.add] at c0 c1
      exact ⟨(m, v), ⟨b, off, he, hlt, c0, c1⟩, h4, h5, h6⟩
    have : Inhabited (Md × Value) := ⟨(⟨0, []⟩, .slice none 0 0)⟩
    obtain ⟨f, hf⟩ := choose_lt one
    refine ⟨_, (List.range len).map fun i => (f i).1, hcs, ?_, ?_, ?_, .inr ⟨_, _, _, rfl⟩⟩
    · unfold maxLen at hcm
      simp; omega
    · intro m hm
      rw [List.mem_map] at hm
      obtain ⟨i, hi, rfl⟩ := hm
      exact (hf i (by simpa using hi)).2.1
    · rcases Nat.eq_zero_or_pos len with h0 | hpos
      · subst h0; exact .none _ _
      · obtain ⟨⟨b, off, e0, hlt, _⟩, _⟩ := hf 0 hpos
        have ea : ad = ⟨b, off, none⟩ := by simpa [Addr.add] using e0
        subst ea
        have hll : ((List.range len).map fun i => (f i).1).length = len := by simp
        have := Mods.some (w := W) b off cap ((List.range len).map fun i => (f i).1) (by omega) hlt (by
          intro i hi
          rw [hll] at hi
          obtain ⟨⟨b', off', e, _, hc0, hc1⟩, _, g1, g2⟩ := hf i hi
          rw [wo_add] at e
          injection e with e1 e2 _
          subst e1 e2
          simp only [List.getElem_map, List.getElem_range]
          exact ⟨hc0, _, hc1, g1, g2⟩)
        rwa [hll] at this
/-- .. as an argument. -/
theorem modsOpen {v : Value} {d : DataW H} {p : List MemPlace} {a0 : Option Addr} {len cap : Nat} (hv : v = .slice a0 len cap) (h : DataW.Trod enc Tryz.prog W base spare held 23 v d p) :
    ∃ l : List Md, l.length ≤ 9223372036854775807 ∧ (∀ m ∈ l, m.a.length ≤ 9223372036854775807) ∧ Mods W v l ∧ NilOr v := by
  obtain ⟨fuel, hf⟩ := h
  subst hv
  obtain ⟨v', l, e, h1, h2, h3, h4⟩ := wo_mods (by simpa [Value.cells] using hf)
  simp at e
  subst e
  exact ⟨l, h1, h2, h3, h4⟩
end
theorem readableM : Tryz.prog.readableRec 23 = true := by kernel_rfl
theorem smallM : 23 < Tryz.prog.types.size := of_decide_eq_true (by kernel_rfl)
end Go.Proofs.YtkjjehnfibfngaaGreatDoor
namespace Go.Proofs.YtkjjehnfibfngaaGreatDoor
open Go.ChangeShapes Go.WideShapes Go.ChangeAt Go.RowKit Go.Joins Go.Deep
open WM RM
set_option linter.unusedVariables false
set_option linter.unusedSimpArgs false
set_option maxRecDepth 100000

theorem ro_u8 {k : Int} (h : (Lit.int .u8 k).wf = true) : ∃ c : UInt8, k = ((c.toNat : Nat) : Int) := by
  have u1 : IntKind.u8.min = 0 := by decide
  have u2 : IntKind.u8.max = 255 := by decide
  simp [Lit.wf, u1, u2] at h
  exact ⟨UInt8.ofNat k.toNat, by rw [UInt8.toNat_ofNat']; omega⟩
theorem ro_cellsFs : Tryz.prog.cellsOf 35 = 1 := by kernel_rfl
theorem ro_cellsSs : Tryz.prog.cellsOf 36 = 1 := by kernel_rfl
/-- How long a form's, a shape's, a rule's parts may be. -/
def FmOk (f : Fm) : Prop := f.cs.length ≤ 9223372036854775807
def ShOk (s : Sh) : Prop := s.a.length ≤ 9223372036854775807 ∧ ∀ f ∈ s.a, FmOk f
def RwOk (r : Rw) : Prop := r.gs.length ≤ 9223372036854775807 ∧ r.out.length ≤ 9223372036854775807 ∧ (∀ f ∈ r.gs, FmOk f) ∧ ∀ s ∈ r.out, ShOk s
/-- The cells of a form, a shape, a rule. -/
def ro_fmC (W : World) (f : Fm) (cs : List Value) : Prop := ∃ v, cs = [.int .i64 f.k, v] ∧ Ints W v f.cs
def ro_shC (W : World) (s : Sh) (cs : List Value) : Prop := ∃ v, cs = [.int .u8 s.c.toNat, v] ∧ Fms W v s.a
def ro_rwC (W : World) (r : Rw) (cs : List Value) : Prop := ∃ v u, cs = [.int .u8 r.c.toNat, .int .i64 r.ar, .int .u8 r.l.toNat, .int .u8 r.r.toNat, v, .int .i64 r.wt, u] ∧ Fms W v r.gs ∧ Shs W u r.out
theorem ro_fmC_len {W : World} {f : Fm} {cs : List Value} (h : ro_fmC W f cs) : cs.length = 2 := by obtain ⟨v, rfl, _⟩ := h; rfl
theorem ro_shC_len {W : World} {s : Sh} {cs : List Value} (h : ro_shC W s cs) : cs.length = 2 := by obtain ⟨v, rfl, _⟩ := h; rfl
theorem ro_rwC_len {W : World} {r : Rw} {cs : List Value} (h : ro_rwC W r cs) : cs.length = 7 := by obtain ⟨v, u, rfl, _⟩ := h; rfl
theorem ro_fmC_at {W : World} {f : Fm} {cs : List Value} {b o : Nat} (h : ro_fmC W f cs) (hc : ∀ j, j < 2 → W.cell? ⟨b, o + j, none⟩ = cs[j]?) : W.cell? ⟨b, o, none⟩ = some (.int .i64 f.k) ∧ ∃ v, W.cell? ⟨b, o + 1, none⟩ = some v ∧ Ints W v f.cs := by
  obtain ⟨v, rfl, hi⟩ := h
  exact ⟨hc 0 (by omega), v, hc 1 (by omega), hi⟩
theorem ro_shC_at {W : World} {s : Sh} {cs : List Value} {b o : Nat} (h : ro_shC W s cs) (hc : ∀ j, j < 2 → W.cell? ⟨b, o + j, none⟩ = cs[j]?) : W.cell? ⟨b, o, none⟩ = some (.int .u8 s.c.toNat) ∧ ∃ v, W.cell? ⟨b, o + 1, none⟩ = some v ∧ Fms W v s.a := by
  obtain ⟨v, rfl, hi⟩ := h
  exact ⟨hc 0 (by omega), v, hc 1 (by omega), hi⟩
theorem ro_rwC_at {W : World} {r : Rw} {cs : List Value} {b o : Nat} (h : ro_rwC W r cs) (hc : ∀ j, j < 7 → W.cell? ⟨b, o + j, none⟩ = cs[j]?) :
    W.cell? ⟨b, o, none⟩ = some (.int .u8 r.c.toNat) ∧ W.cell? ⟨b, o + 1, none⟩ = some (.int .i64 r.ar) ∧ W.cell? ⟨b, o + 2, none⟩ = some (.int .u8 r.l.toNat) ∧ W.cell? ⟨b, o + 3, none⟩ = some (.int .u8 r.r.toNat) ∧
      W.cell? ⟨b, o + 5, none⟩ = some (.int .i64 r.wt) ∧ (∃ v, W.cell? ⟨b, o + 4, none⟩ = some v ∧ Fms W v r.gs) ∧ (∃ v, W.cell? ⟨b, o + 6, none⟩ = some v ∧ Shs W v r.out) := by
  obtain ⟨v, u, rfl, h1, h2⟩ := h
  exact ⟨hc 0 (by omega), hc 1 (by omega), hc 2 (by omega), hc 3 (by omega), hc 5 (by omega), ⟨v, hc 4 (by omega), h1⟩, u, hc 6 (by omega), h2⟩
theorem ro_fm_struct : ∃ fs : Array Field, Tryz.prog.underlying 48 = some (.struct fs) ∧ fs.map (fun f : Field => (f.offset, f.type)) = [(0, 3), (1, 41)].toArray := ⟨_, Tryz.underlying48, by simp⟩
theorem ro_fm_cells : Tryz.prog.cellsOf 48 = 2 := by kernel_rfl
theorem ro_sh_struct : ∃ fs : Array Field, Tryz.prog.underlying 45 = some (.struct fs) ∧ fs.map (fun f : Field => (f.offset, f.type)) = [(0, 5), (1, 35)].toArray := ⟨_, Tryz.underlying45, by simp⟩
theorem ro_sh_cells : Tryz.prog.cellsOf 45 = 2 := by kernel_rfl
theorem ro_rw_struct : ∃ fs : Array Field, Tryz.prog.underlying 38 = some (.struct fs) ∧ fs.map (fun f : Field => (f.offset, f.type)) = [(0, 5), (1, 3), (2, 5), (3, 5), (4, 35), (5, 3), (6, 36)].toArray := ⟨_, Tryz.underlying38, by simp⟩
theorem ro_rw_cells : Tryz.prog.cellsOf 38 = 7 := by kernel_rfl
section
variable {H : Type} {enc : TypeId × Value → H} {W : World} {base : Nat} {spare : Nat → Bool} {held : Bool}
theorem ro_fm_one {fuel : Nat} {cs : List Value} {x : DataW H × List MemPlace} (h : DataW.trod enc Tryz.prog W base spare held fuel 48 cs = some x) :
    ∃ f : Fm, FmOk f ∧ ro_fmC W f cs := by
  obtain ⟨fs, hu, hf⟩ := ro_fm_struct
  obtain ⟨xs, n, rfl, ex, hl, hxl, hx⟩ := DataW.trod_struct hu h
  have F := wo_fields hf
  rw [ro_fm_cells] at hl
  obtain ⟨c0, c1, rfl⟩ : ∃ c0 c1, cs = [c0, c1] := by
    match cs, hl with
    | [c0, c1], _ => exact ⟨c0, c1, rfl⟩
  have hsz : fs.size = 2 := by have := congrArg Array.size hf; simpa using this
  have get : ∀ i, i < 2 → ∃ y, xs[i]? = some y := fun i hi => ⟨xs[i]'(by omega), List.getElem?_eq_getElem (by omega)⟩
  have step : ∀ (i o : Nat) (t : TypeId) (y : DataW H × List MemPlace), ([(0, 3), (1, 41)] : List (Nat × TypeId))[i]? = some (o, t) → xs[i]? = some y → DataW.trod enc Tryz.prog W base spare held n t (([c0, c1].drop o).take (Tryz.prog.cellsOf t)) = some y := by
    intro i o t y h1 h2
    obtain ⟨f, h3, rfl, rfl⟩ := F i o t h1
    rw [hx i f h3, h2]
  obtain ⟨y0, g0⟩ := get 0 (by omega)
  have h0 := step 0 _ _ _ rfl g0
  rw [wo_cellsI] at h0
  simp only [List.drop_zero, List.drop_succ_cons, List.take_succ_cons, List.take_zero] at h0
  obtain ⟨k0, e0, -, w0⟩ := DataW.trod_int Tryz.underlying3 h0
  simp only [List.cons.injEq, and_true] at e0
  subst e0
  obtain ⟨y1, g1⟩ := get 1 (by omega)
  have h1 := step 1 _ _ _ rfl g1
  rw [wo_cellsL] at h1
  simp only [List.drop_zero, List.drop_succ_cons, List.take_succ_cons, List.take_zero] at h1
  obtain ⟨v1, l1, e1, m1, r1, _⟩ := wo_ints h1
  simp only [List.cons.injEq, and_true] at e1
  subst e1
  exact ⟨⟨k0, l1⟩, m1, _, rfl, r1⟩
theorem ro_forms {fuel : Nat} {cs : List Value} {x : DataW H × List MemPlace} (h : DataW.trod enc Tryz.prog W base spare held fuel 35 cs = some x) :
    ∃ (v : Value) (l : List Fm), cs = [v] ∧ l.length ≤ 9223372036854775807 ∧ (∀ m ∈ l, FmOk m) ∧ Fms W v l := by
  rcases DataW.trod_slice Tryz.underlying35 h with ⟨hcs, -⟩ | ⟨ad, len, cap, elems, rest, n, _, hcs, _, _, hlc, hcm, hel, hx, -⟩
  · exact ⟨_, [], hcs, by simp, by simp, .none _ _⟩
  · have one : ∀ i, i < len → ∃ p : Fm × List Value, (∃ b off, ad.add (i * 2) = ⟨b, off, none⟩ ∧ b < W.heap.size ∧ p.2.length = 2 ∧ ∀ j, j < 2 → W.cell? ⟨b, off + j, none⟩ = p.2[j]?) ∧ FmOk p.1 ∧ ro_fmC W p.1 p.2 := by
      intro i hi
      have h1 := hx i hi
      rw [ro_fm_cells, List.getElem?_eq_getElem (by omega)] at h1
      obtain ⟨cs', h2, h3⟩ := Option.bind_eq_some_iff.1 h1
      obtain ⟨m, h4, h5⟩ := ro_fm_one h3
      obtain ⟨hlen, _, hc⟩ := World.cells?_some h2
      obtain ⟨b, off, path, he⟩ : ∃ b off path, ad.add (i * 2) = ⟨b, off, path⟩ := ⟨_, _, _, rfl⟩
      rw [he] at hc
      have c0 := hc 0 (by omega)
      have hl' := ro_fmC_len h5
      rw [List.getElem?_eq_getElem (by omega)] at c0
      have hp : path = none := by simpa [Addr.add] using World.cell?_spot c0
      subst hp
      have hlt : b < W.heap.size := by
        rcases Nat.lt_or_ge b W.heap.size with h | h
        · exact h
        · simp [World.cell?, Addr.add, Array.getElem?_eq_none h] at c0
      refine ⟨(m, cs'), ⟨b, off, he, hlt, hl', fun j hj => ?_⟩, h4, h5⟩
      have := hc j (by omega)
      rw [wo_add] at this
      exact this
    have : Inhabited (Fm × List Value) := ⟨(⟨0, []⟩, [])⟩
    obtain ⟨f, hf⟩ := choose_lt one
    refine ⟨_, (List.range len).map fun i => (f i).1, hcs, ?_, ?_, ?_⟩
    · unfold maxLen at hcm
      simp; omega
    · intro m hm
      rw [List.mem_map] at hm
      obtain ⟨i, hi, rfl⟩ := hm
      exact (hf i (by simpa using hi)).2.1
    · rcases Nat.eq_zero_or_pos len with h0 | hpos
      · subst h0; exact .none _ _
      · obtain ⟨⟨b, off, e0, hlt, _⟩, _⟩ := hf 0 hpos
        have ea : ad = ⟨b, off, none⟩ := by simpa [Addr.add] using e0
        subst ea
        have hll : ((List.range len).map fun i => (f i).1).length = len := by simp
        have := Fms.some (w := W) b off cap ((List.range len).map fun i => (f i).1) (by omega) hlt (by
          intro i hi
          rw [hll] at hi
          obtain ⟨⟨b', off', e, _, hl', hc⟩, _, hC⟩ := hf i hi
          rw [wo_add] at e
          injection e with e1 e2 _
          subst e1 e2
          simp only [List.getElem_map, List.getElem_range]
          exact ro_fmC_at hC hc)
        rwa [hll] at this
theorem ro_sh_one {fuel : Nat} {cs : List Value} {x : DataW H × List MemPlace} (h : DataW.trod enc Tryz.prog W base spare held fuel 45 cs = some x) :
    ∃ s : Sh, ShOk s ∧ ro_shC W s cs := by
  obtain ⟨fs, hu, hf⟩ := ro_sh_struct
  obtain ⟨xs, n, rfl, ex, hl, hxl, hx⟩ := DataW.trod_struct hu h
  have F := wo_fields hf
  rw [ro_sh_cells] at hl
  obtain ⟨c0, c1, rfl⟩ : ∃ c0 c1, cs = [c0, c1] := by
    match cs, hl with
    | [c0, c1], _ => exact ⟨c0, c1, rfl⟩
  have hsz : fs.size = 2 := by have := congrArg Array.size hf; simpa using this
  have get : ∀ i, i < 2 → ∃ y, xs[i]? = some y := fun i hi => ⟨xs[i]'(by omega), List.getElem?_eq_getElem (by omega)⟩
  have step : ∀ (i o : Nat) (t : TypeId) (y : DataW H × List MemPlace), ([(0, 5), (1, 35)] : List (Nat × TypeId))[i]? = some (o, t) → xs[i]? = some y → DataW.trod enc Tryz.prog W base spare held n t (([c0, c1].drop o).take (Tryz.prog.cellsOf t)) = some y := by
    intro i o t y h1 h2
    obtain ⟨f, h3, rfl, rfl⟩ := F i o t h1
    rw [hx i f h3, h2]
  obtain ⟨y0, g0⟩ := get 0 (by omega)
  have h0 := step 0 _ _ _ rfl g0
  rw [wo_cellsU] at h0
  simp only [List.drop_zero, List.drop_succ_cons, List.take_succ_cons, List.take_zero] at h0
  obtain ⟨k0, e0, -, w0⟩ := DataW.trod_int Tryz.underlying5 h0
  simp only [List.cons.injEq, and_true] at e0
  subst e0
  obtain ⟨b0, rfl⟩ := ro_u8 w0
  obtain ⟨y1, g1⟩ := get 1 (by omega)
  have h1 := step 1 _ _ _ rfl g1
  rw [ro_cellsFs] at h1
  simp only [List.drop_zero, List.drop_succ_cons, List.take_succ_cons, List.take_zero] at h1
  obtain ⟨v1, l1, e1, m1, n1, r1⟩ := ro_forms h1
  simp only [List.cons.injEq, and_true] at e1
  subst e1
  exact ⟨⟨b0, l1⟩, ⟨m1, n1⟩, _, rfl, r1⟩
theorem ro_shapes {fuel : Nat} {cs : List Value} {x : DataW H × List MemPlace} (h : DataW.trod enc Tryz.prog W base spare held fuel 36 cs = some x) :
    ∃ (v : Value) (l : List Sh), cs = [v] ∧ l.length ≤ 9223372036854775807 ∧ (∀ m ∈ l, ShOk m) ∧ Shs W v l := by
  rcases DataW.trod_slice Tryz.underlying36 h with ⟨hcs, -⟩ | ⟨ad, len, cap, elems, rest, n, _, hcs, _, _, hlc, hcm, hel, hx, -⟩
  · exact ⟨_, [], hcs, by simp, by simp, .none _ _⟩
  · have one : ∀ i, i < len → ∃ p : Sh × List Value, (∃ b off, ad.add (i * 2) = ⟨b, off, none⟩ ∧ b < W.heap.size ∧ p.2.length = 2 ∧ ∀ j, j < 2 → W.cell? ⟨b, off + j, none⟩ = p.2[j]?) ∧ ShOk p.1 ∧ ro_shC W p.1 p.2 := by
      intro i hi
      have h1 := hx i hi
      rw [ro_sh_cells, List.getElem?_eq_getElem (by omega)] at h1
      obtain ⟨cs', h2, h3⟩ := Option.bind_eq_some_iff.1 h1
      obtain ⟨m, h4, h5⟩ := ro_sh_one h3
      obtain ⟨hlen, _, hc⟩ := World.cells?_some h2
      obtain ⟨b, off, path, he⟩ : ∃ b off path, ad.add (i * 2) = ⟨b, off, path⟩ := ⟨_, _, _, rfl⟩
      rw [he] at hc
      have c0 := hc 0 (by omega)
      have hl' := ro_shC_len h5
      rw [List.getElem?_eq_getElem (by omega)] at c0
      have hp : path = none := by simpa [Addr.add] using World.cell?_spot c0
      subst hp
      have hlt : b < W.heap.size := by
        rcases Nat.lt_or_ge b W.heap.size with h | h
        · exact h
        · simp [World.cell?, Addr.add, Array.getElem?_eq_none h] at c0
      refine ⟨(m, cs'), ⟨b, off, he, hlt, hl', fun j hj => ?_⟩, h4, h5⟩
      have := hc j (by omega)
      rw [wo_add] at this
      exact this
    have : Inhabited (Sh × List Value) := ⟨(⟨0, []⟩, [])⟩
    obtain ⟨f, hf⟩ := choose_lt one
    refine ⟨_, (List.range len).map fun i => (f i).1, hcs, ?_, ?_, ?_⟩
    · unfold maxLen at hcm
      simp; omega
    · intro m hm
      rw [List.mem_map] at hm
      obtain ⟨i, hi, rfl⟩ := hm
      exact (hf i (by simpa using hi)).2.1
    · rcases Nat.eq_zero_or_pos len with h0 | hpos
      · subst h0; exact .none _ _
      · obtain ⟨⟨b, off, e0, hlt, _⟩, _⟩ := hf 0 hpos
        have ea : ad = ⟨b, off, none⟩ := by simpa [Addr.add] using e0
        subst ea
        have hll : ((List.range len).map fun i => (f i).1).length = len := by simp
        have := Shs.some (w := W) b off cap ((List.range len).map fun i => (f i).1) (by omega) hlt (by
          intro i hi
          rw [hll] at hi
          obtain ⟨⟨b', off', e, _, hl', hc⟩, _, hC⟩ := hf i hi
          rw [wo_add] at e
          injection e with e1 e2 _
          subst e1 e2
          simp only [List.getElem_map, List.getElem_range]
          exact ro_shC_at hC hc)
        rwa [hll] at this
theorem ro_rw_one {fuel : Nat} {cs : List Value} {x : DataW H × List MemPlace} (h : DataW.trod enc Tryz.prog W base spare held fuel 38 cs = some x) :
    ∃ r : Rw, RwOk r ∧ ro_rwC W r cs := by
  obtain ⟨fs, hu, hf⟩ := ro_rw_struct
  obtain ⟨xs, n, rfl, ex, hl, hxl, hx⟩ := DataW.trod_struct hu h
  have F := wo_fields hf
  rw [ro_rw_cells] at hl
  obtain ⟨c0, c1, c2, c3, c4, c5, c6, rfl⟩ : ∃ c0 c1 c2 c3 c4 c5 c6, cs = [c0, c1, c2, c3, c4, c5, c6] := by
    match cs, hl with
    | [c0, c1, c2, c3, c4, c5, c6], _ => exact ⟨c0, c1, c2, c3, c4, c5, c6, rfl⟩
  have hsz : fs.size = 7 := by have := congrArg Array.size hf; simpa using this
  have get : ∀ i, i < 7 → ∃ y, xs[i]? = some y := fun i hi => ⟨xs[i]'(by omega), List.getElem?_eq_getElem (by omega)⟩
  have step : ∀ (i o : Nat) (t : TypeId) (y : DataW H × List MemPlace), ([(0, 5), (1, 3), (2, 5), (3, 5), (4, 35), (5, 3), (6, 36)] : List (Nat × TypeId))[i]? = some (o, t) → xs[i]? = some y → DataW.trod enc Tryz.prog W base spare held n t (([c0, c1, c2, c3, c4, c5, c6].drop o).take (Tryz.prog.cellsOf t)) = some y := by
    intro i o t y h1 h2
    obtain ⟨f, h3, rfl, rfl⟩ := F i o t h1
    rw [hx i f h3, h2]
  obtain ⟨y0, g0⟩ := get 0 (by omega)
  have h0 := step 0 _ _ _ rfl g0
  rw [wo_cellsU] at h0
  simp only [List.drop_zero, List.drop_succ_cons, List.take_succ_cons, List.take_zero] at h0
  obtain ⟨k0, e0, -, w0⟩ := DataW.trod_int Tryz.underlying5 h0
  simp only [List.cons.injEq, and_true] at e0
  subst e0
  obtain ⟨b0, rfl⟩ := ro_u8 w0
  obtain ⟨y1, g1⟩ := get 1 (by omega)
  have h1 := step 1 _ _ _ rfl g1
  rw [wo_cellsI] at h1
  simp only [List.drop_zero, List.drop_succ_cons, List.take_succ_cons, List.take_zero] at h1
  obtain ⟨k1, e1, -, w1⟩ := DataW.trod_int Tryz.underlying3 h1
  simp only [List.cons.injEq, and_true] at e1
  subst e1
  obtain ⟨y2, g2⟩ := get 2 (by omega)
  have h2 := step 2 _ _ _ rfl g2
  rw [wo_cellsU] at h2
  simp only [List.drop_zero, List.drop_succ_cons, List.take_succ_cons, List.take_zero] at h2
  obtain ⟨k2, e2, -, w2⟩ := DataW.trod_int Tryz.underlying5 h2
  simp only [List.cons.injEq, and_true] at e2
  subst e2
  obtain ⟨b2, rfl⟩ := ro_u8 w2
  obtain ⟨y3, g3⟩ := get 3 (by omega)
  have h3 := step 3 _ _ _ rfl g3
  rw [wo_cellsU] at h3
  simp only [List.drop_zero, List.drop_succ_cons, List.take_succ_cons, List.take_zero] at h3
  obtain ⟨k3, e3, -, w3⟩ := DataW.trod_int Tryz.underlying5 h3
  simp only [List.cons.injEq, and_true] at e3
  subst e3
  obtain ⟨b3, rfl⟩ := ro_u8 w3
  obtain ⟨y4, g4⟩ := get 4 (by omega)
  have h4 := step 4 _ _ _ rfl g4
  rw [ro_cellsFs] at h4
  simp only [List.drop_zero, List.drop_succ_cons, List.take_succ_cons, List.take_zero] at h4
  obtain ⟨v4, l4, e4, m4, n4, r4⟩ := ro_forms h4
  simp only [List.cons.injEq, and_true] at e4
  subst e4
  obtain ⟨y5, g5⟩ := get 5 (by omega)
  have h5 := step 5 _ _ _ rfl g5
  rw [wo_cellsI] at h5
  simp only [List.drop_zero, List.drop_succ_cons, List.take_succ_cons, List.take_zero] at h5
  obtain ⟨k5, e5, -, w5⟩ := DataW.trod_int Tryz.underlying3 h5
  simp only [List.cons.injEq, and_true] at e5
  subst e5
  obtain ⟨y6, g6⟩ := get 6 (by omega)
  have h6 := step 6 _ _ _ rfl g6
  rw [ro_cellsSs] at h6
  simp only [List.drop_zero, List.drop_succ_cons, List.take_succ_cons, List.take_zero] at h6
  obtain ⟨v6, l6, e6, m6, n6, r6⟩ := ro_shapes h6
  simp only [List.cons.injEq, and_true] at e6
  subst e6
  exact ⟨⟨b0, k1, b2, b3, l4, k5, l6⟩, ⟨m4, m6, n4, n6⟩, _, _, rfl, r4, r6⟩
theorem ro_rules {fuel : Nat} {cs : List Value} {x : DataW H × List MemPlace} (h : DataW.trod enc Tryz.prog W base spare held fuel 22 cs = some x) :
    ∃ (v : Value) (l : List Rw), cs = [v] ∧ l.length ≤ 9223372036854775807 ∧ (∀ m ∈ l, RwOk m) ∧ Rws W v l := by
  rcases DataW.trod_slice Tryz.underlying22 h with ⟨hcs, -⟩ | ⟨ad, len, cap, elems, rest, n, _, hcs, _, _, hlc, hcm, hel, hx, -⟩
  · exact ⟨_, [], hcs, by simp, by simp, .none _ _⟩
  · have one : ∀ i, i < len → ∃ p : Rw × List Value, (∃ b off, ad.add (i * 7) = ⟨b, off, none⟩ ∧ b < W.heap.size ∧ p.2.length = 7 ∧ ∀ j, j < 7 → W.cell? ⟨b, off + j, none⟩ = p.2[j]?) ∧ RwOk p.1 ∧ ro_rwC W p.1 p.2 := by
      intro i hi
      have h1 := hx i hi
      rw [ro_rw_cells, List.getElem?_eq_getElem (by omega)] at h1
      obtain ⟨cs', h2, h3⟩ := Option.bind_eq_some_iff.1 h1
      obtain ⟨m, h4, h5⟩ := ro_rw_one h3
      obtain ⟨hlen, _, hc⟩ := World.cells?_some h2
      obtain ⟨b, off, path, he⟩ : ∃ b off path, ad.add (i * 7) = ⟨b, off, path⟩ := ⟨_, _, _, rfl⟩
      rw [he] at hc
      have c0 := hc 0 (by omega)
      have hl' := ro_rwC_len h5
      rw [List.getElem?_eq_getElem (by omega)] at c0
      have hp : path = none := by simpa [Addr.add] using World.cell?_spot c0
      subst hp
      have hlt : b < W.heap.size := by
        rcases Nat.lt_or_ge b W.heap.size with h | h
        · exact h
        · simp [World.cell?, Addr.add, Array.getElem?_eq_none h] at c0
      refine ⟨(m, cs'), ⟨b, off, he, hlt, hl', fun j hj => ?_⟩, h4, h5⟩
      have := hc j (by omega)
      rw [wo_add] at this
      exact this
    have : Inhabited (Rw × List Value) := ⟨(⟨0, 0, 0, 0, [], 0, []⟩, [])⟩
    obtain ⟨f, hf⟩ := choose_lt one
    refine ⟨_, (List.range len).map fun i => (f i).1, hcs, ?_, ?_, ?_⟩
    · unfold maxLen at hcm
      simp; omega
    · intro m hm
      rw [List.mem_map] at hm
      obtain ⟨i, hi, rfl⟩ := hm
      exact (hf i (by simpa using hi)).2.1
    · rcases Nat.eq_zero_or_pos len with h0 | hpos
      · subst h0; exact .none _ _
      · obtain ⟨⟨b, off, e0, hlt, _⟩, _⟩ := hf 0 hpos
        have ea : ad = ⟨b, off, none⟩ := by simpa [Addr.add] using e0
        subst ea
        have hll : ((List.range len).map fun i => (f i).1).length = len := by simp
        have := Rws.some (w := W) b off cap ((List.range len).map fun i => (f i).1) (by omega) hlt (by
          intro i hi
          rw [hll] at hi
          obtain ⟨⟨b', off', e, _, hl', hc⟩, _, hC⟩ := hf i hi
          rw [wo_add] at e
          injection e with e1 e2 _
          subst e1 e2
          simp only [List.getElem_map, List.getElem_range]
          exact ro_rwC_at hC hc)
        rwa [hll] at this
/-- .. as an argument. -/
theorem rwsOpen {v : Value} {d : DataW H} {p : List MemPlace} {a0 : Option Addr} {len cap : Nat} (hv : v = .slice a0 len cap) (h : DataW.Trod enc Tryz.prog W base spare held 22 v d p) :
    ∃ l : List Rw, l.length ≤ 9223372036854775807 ∧ (∀ r ∈ l, RwOk r) ∧ Rws W v l := by
  obtain ⟨fuel, hf⟩ := h
  subst hv
  obtain ⟨v', l, e, h1, h2, h3⟩ := ro_rules (by simpa [Value.cells] using hf)
  simp at e
  subst e
  exact ⟨l, h1, h2, h3⟩
end
theorem readableR : Tryz.prog.readableRec 22 = true := by kernel_rfl
theorem smallR : 22 < Tryz.prog.types.size := of_decide_eq_true (by kernel_rfl)
end Go.Proofs.YtkjjehnfibfngaaGreatDoor
namespace Go.Proofs.YtkjjehnfibfngaaGreatDoor
open Go.ChangeShapes Go.WideShapes Go.ChangeAt Go.RowKit Go.Joins Go.Deep
open WM RM
set_option linter.unusedVariables false
set_option linter.unusedSimpArgs false
set_option maxRecDepth 100000
section
variable {H : Type} {enc : TypeId × Value → H} {W : World} {base : Nat} {spare : Nat → Bool} {held : Bool}
theorem intsOpen {v : Value} {d : DataW H} {p : List MemPlace} {a0 : Option Addr} {len cap : Nat} (hv : v = .slice a0 len cap) (h : DataW.Trod enc Tryz.prog W base spare held 41 v d p) :
    ∃ l : List Int, l.length ≤ 9223372036854775807 ∧ Ints W v l := by
  obtain ⟨fuel, hf⟩ := h
  subst hv
  obtain ⟨v', l, e, h1, h2, h3⟩ := wo_ints (by simpa [Value.cells] using hf)
  simp at e
  subst e
  exact ⟨l, h1, h2⟩
theorem formOpen {base' : Nat} {v : Value} {d : DataW H} {p : List MemPlace} (hv : Value.okWide Tryz.prog W .any base' 48 v) (h : DataW.Trod enc Tryz.prog W base spare held 48 v d p) :
    ∃ (f : Fm) (u : Value), v = .agg #[.int .i64 f.k, u] ∧ f.cs.length ≤ 9223372036854775807 ∧ Ints W u f.cs := by
  obtain ⟨fs, hu, _⟩ := ro_fm_struct
  obtain ⟨cs, rfl, hsz⟩ := okWide_struct hu hv
  obtain ⟨fuel, hf⟩ := h
  obtain ⟨f, h1, u, e, h2⟩ := ro_fm_one hf
  refine ⟨f, u, ?_, h1, h2⟩
  have e2 : cs.toList = [.int .i64 f.k, u] := by simpa [Value.cells] using e
  have : cs = #[.int .i64 f.k, u] := by apply Array.ext'; exact e2
  rw [this]
theorem modOpen {base' : Nat} {v : Value} {d : DataW H} {p : List MemPlace} (hv : Value.okWide Tryz.prog W .any base' 43 v) (h : DataW.Trod enc Tryz.prog W base spare held 43 v d p) :
    ∃ (m : Md) (u : Value), v = .agg #[.int .u8 m.c.toNat, u] ∧ m.a.length ≤ 9223372036854775807 ∧ Ints W u m.a ∧ NilOr u := by
  obtain ⟨fs, hu, _⟩ := wo_struct
  obtain ⟨cs, rfl, hsz⟩ := okWide_struct hu hv
  obtain ⟨fuel, hf⟩ := h
  obtain ⟨m, v1, e, m1, r1, n1⟩ := wo_mod hf
  refine ⟨m, v1, ?_, m1, r1, n1⟩
  have e2 : cs.toList = [.int .u8 m.c.toNat, v1] := by simpa [Value.cells] using e
  have : cs = #[.int .u8 m.c.toNat, v1] := by apply Array.ext'; exact e2
  rw [this]
theorem ruleOpen {base' : Nat} {v : Value} {d : DataW H} {p : List MemPlace} (hv : Value.okWide Tryz.prog W .any base' 38 v) (h : DataW.Trod enc Tryz.prog W base spare held 38 v d p) :
    ∃ (r : Rw) (g o : Value), v = .agg #[.int .u8 r.c.toNat, .int .i64 r.ar, .int .u8 r.l.toNat, .int .u8 r.r.toNat, g, .int .i64 r.wt, o] ∧ RwOk r ∧ Fms W g r.gs ∧ Shs W o r.out := by
  obtain ⟨fs, hu, _⟩ := ro_rw_struct
  obtain ⟨cs, rfl, hsz⟩ := okWide_struct hu hv
  obtain ⟨fuel, hf⟩ := h
  obtain ⟨r, h1, g, o, e, h2, h3⟩ := ro_rw_one hf
  refine ⟨r, g, o, ?_, h1, h2, h3⟩
  have e2 : cs.toList = [.int .u8 r.c.toNat, .int .i64 r.ar, .int .u8 r.l.toNat, .int .u8 r.r.toNat, g, .int .i64 r.wt, o] := by simpa [Value.cells] using e
  have : cs = #[.int .u8 r.c.toNat, .int .i64 r.ar, .int .u8 r.l.toNat, .int .u8 r.r.toNat, g, .int .i64 r.wt, o] := by apply Array.ext'; exact e2
  rw [this]
end
theorem readableI : Tryz.prog.readableRec 41 = true := by kernel_rfl
theorem smallI : 41 < Tryz.prog.types.size := of_decide_eq_true (by kernel_rfl)
theorem readableF : Tryz.prog.readableRec 48 = true := by kernel_rfl
theorem smallF : 48 < Tryz.prog.types.size := of_decide_eq_true (by kernel_rfl)
theorem readableD : Tryz.prog.readableRec 43 = true := by kernel_rfl
theorem smallD : 43 < Tryz.prog.types.size := of_decide_eq_true (by kernel_rfl)
theorem readableW : Tryz.prog.readableRec 38 = true := by kernel_rfl
theorem smallW : 38 < Tryz.prog.types.size := of_decide_eq_true (by kernel_rfl)
end Go.Proofs.YtkjjehnfibfngaaGreatDoor
namespace Go.Proofs.YtkjjehnfibfngaaGreatDoor.RewCard
set_option maxRecDepth 100000
set_option linter.unusedVariables false
set_option linter.unusedSimpArgs false
open Go.ChangeShapes Go.WideShapes Go.ChangeAt Go.RowKit Go.Joins Go.Deep

theorem own : ownKnob Tryz.prog.godebug = none := by kernel_rfl
theorem laid : laidOutB Tryz.prog = true := by kernel_rfl
theorem u8_of {k : Int} (h : (Lit.int .u8 k).wf = true) : ∃ c : UInt8, k = c.toNat := by
  have e1 : IntKind.u8.min = 0 := by decide
  have e2 : IntKind.u8.max = 255 := by decide
  simp [Lit.wf, e1, e2] at h
  exact ⟨UInt8.ofNat k.toNat, by rw [UInt8.toNat_ofNat']; omega⟩
theorem gType : (Tryz.prog.globals[3]?).map (·.type) = some 144 := by kernel_rfl
theorem rType : (Tryz.prog.globals[2]?).map (·.type) = some 84 := by kernel_rfl
theorem sType : (Tryz.prog.globals[1]?).map (·.type) = some 84 := by kernel_rfl
theorem cellsTab : Tryz.prog.cellsOf 144 = 20 := by kernel_rfl
theorem cellsU : Tryz.prog.cellsOf 125 = 1 := by kernel_rfl
theorem cellsE : Tryz.prog.cellsOf 152 = 1 := by kernel_rfl
theorem cellsS : Tryz.prog.cellsOf 9 = 1 := by kernel_rfl
theorem star : "*" ++ "errors.errorString" = "*errors.errorString" := by decide
theorem rowE : ∀ u, Tryz.prog.typeName? 3 u = some "*errors.errorString" → u = 150 := fun u h =>
  typeName_ptr_named (P := Tryz.prog) (nm := "errors.errorString") (by rw [star]; kernel_rfl) (by kernel_rfl) (by decide) u (by rw [star]; exact h)
theorem env {W : World} (h : laidMetH Tryz.prog Rows.rewriteJoinsRow.laid W) (hsh : W.ShapedOpen Tryz.prog) : Env W where
  tab := Lib.tabIs_of_head (rest := _) tab_named gType Tryz.underlying144 Tryz.underlying125 cellsU cellsTab (laidMet.tail (laidMet.tail h))
  len := Tryz.laysM145.s1_3 W hsh
  rge := by
    have h4 : laidMet Tryz.prog (("strconv.ErrRange", Rows.laid_strconv_ErrRange) :: [("strconv.ErrSyntax", Rows.laid_strconv_ErrSyntax), ("unicode/utf8.first", Rows.laid_unicode_utf8_first)]) W := laidMet.tail (laidMet.tail (laidMet.tail (laidMet.tail h)))
    obtain ⟨a, s, h1, _⟩ := laid_sentinel h4 rge_named rType Tryz.underlying84 rowE Tryz.underlying150 Tryz.underlying152 rfl rfl Tryz.underlying9 cellsE cellsS
    exact ⟨_, _, h1⟩
  syn := by
    have h4 : laidMet Tryz.prog (("strconv.ErrSyntax", Rows.laid_strconv_ErrSyntax) :: [("unicode/utf8.first", Rows.laid_unicode_utf8_first)]) W := laidMet.tail (laidMet.tail (laidMet.tail (laidMet.tail (laidMet.tail h))))
    obtain ⟨a, s, h1, _⟩ := laid_sentinel h4 syn_named sType Tryz.underlying84 rowE Tryz.underlying150 Tryz.underlying152 rfl rfl Tryz.underlying9 cellsE cellsS
    exact ⟨_, _, h1⟩
noncomputable def low : Nat := (World.holding Tryz.prog default ⟨#[], #[], []⟩).heap.size
/-- A world for the witness: the settled one, the tables and sentinels holding what their initialisers lay. -/
noncomputable def laidWorld (os : Os) : World :=
  let w0 := World.holding Tryz.prog os ⟨#[.cells #[.string ⟨#[118, 97, 108, 117, 101, 32, 111, 117, 116, 32, 111, 102, 32, 114, 97, 110, 103, 101]⟩] 152, .cells #[.string ⟨#[105, 110, 118, 97, 108, 105, 100, 32, 115, 121, 110, 116, 97, 120]⟩] 152], #[], []⟩
  { w0 with heap := (((((((w0.heap.modify 6 (fun o => match o with | .cells _ t frozen => .cells #[.int .u8 0, .int .u8 1, .int .u8 28, .int .u8 2, .int .u8 29, .int .u8 14, .int .u8 24, .int .u8 3, .int .u8 30, .int .u8 22, .int .u8 20, .int .u8 15, .int .u8 25, .int .u8 17, .int .u8 4, .int .u8 8, .int .u8 31, .int .u8 27, .int .u8 13, .int .u8 23, .int .u8 21, .int .u8 19, .int .u8 16, .int .u8 7, .int .u8 26, .int .u8 12, .int .u8 18, .int .u8 6, .int .u8 11, .int .u8 5, .int .u8 10, .int .u8 9] t frozen | o => o)).modify 7 (fun o => match o with | .cells _ t frozen => .cells #[.int .u8 0, .int .u8 1, .int .u8 56, .int .u8 2, .int .u8 57, .int .u8 49, .int .u8 28, .int .u8 3, .int .u8 61, .int .u8 58, .int .u8 42, .int .u8 50, .int .u8 38, .int .u8 29, .int .u8 17, .int .u8 4, .int .u8 62, .int .u8 47, .int .u8 59, .int .u8 36, .int .u8 45, .int .u8 43, .int .u8 51, .int .u8 22, .int .u8 53, .int .u8 39, .int .u8 33, .int .u8 30, .int .u8 24, .int .u8 18, .int .u8 12, .int .u8 5, .int .u8 63, .int .u8 55, .int .u8 48, .int .u8 27, .int .u8 60, .int .u8 41, .int .u8 37, .int .u8 16, .int .u8 46, .int .u8 35, .int .u8 44, .int .u8 21, .int .u8 52, .int .u8 32, .int .u8 23, .int .u8 11, .int .u8 54, .int .u8 26, .int .u8 40, .int .u8 15, .int .u8 34, .int .u8 20, .int .u8 31, .int .u8 10, .int .u8 25, .int .u8 14, .int .u8 19, .int .u8 9, .int .u8 13, .int .u8 8, .int .u8 7, .int .u8 6] t frozen | o => o)).modify 3 (fun o => match o with | .cells _ t frozen => .cells #[.int .u64 1, .int .u64 10, .int .u64 100, .int .u64 1000, .int .u64 10000, .int .u64 100000, .int .u64 1000000, .int .u64 10000000, .int .u64 100000000, .int .u64 1000000000, .int .u64 10000000000, .int .u64 100000000000, .int .u64 1000000000000, .int .u64 10000000000000, .int .u64 100000000000000, .int .u64 1000000000000000, .int .u64 10000000000000000, .int .u64 100000000000000000, .int .u64 1000000000000000000, .int .u64 10000000000000000000] t frozen | o => o)).modify 5 (fun o => match o with | .cells _ t frozen => .cells #[.int .u8 128, .int .u8 191, .int .u8 160, .int .u8 191, .int .u8 128, .int .u8 159, .int .u8 144, .int .u8 191, .int .u8 128, .int .u8 143, .int .u8 0, .int .u8 0, .int .u8 0, .int .u8 0, .int .u8 0, .int .u8 0, .int .u8 0, .int .u8 0, .int .u8 0, .int .u8 0, .int .u8 0, .int .u8 0, .int .u8 0, .int .u8 0, .int .u8 0, .int .u8 0, .int .u8 0, .int .u8 0, .int .u8 0, .int .u8 0, .int .u8 0, .int .u8 0] t frozen | o => o)).modify 4 (fun o => match o with | .cells _ t frozen => .cells (Go.Pinned.utf8FirstZ.map fun (n : Nat) => Value.int .u8 (n : Int)).toArray t frozen | o => o)).modify 2 (fun o => match o with | .cells _ t frozen => .cells #[.iface 150 (.pointer (some ⟨low, 0, none⟩))] t frozen | o => o)).modify 1 (fun o => match o with | .cells _ t frozen => .cells #[.iface 150 (.pointer (some ⟨low + 1, 0, none⟩))] t frozen | o => o)) }
end Go.Proofs.YtkjjehnfibfngaaGreatDoor.RewCard
