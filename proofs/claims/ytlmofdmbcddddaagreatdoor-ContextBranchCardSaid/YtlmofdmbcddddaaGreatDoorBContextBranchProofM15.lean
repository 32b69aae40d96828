/-
  Texts of the proof, merged: BRewPrK, BConPrG, BConPrH, BConPrI.
-/
import Derived.Test.YtlmofdmbcddddaaGreatDoorBContextBranchProofM14
import Derived.Test.YtlmofdmbcddddaaGreatDoorBContextBranchProofM7
import Derived.Test.YtlmofdmbcddddaaGreatDoorBContextBranchProofM9
import Derived.Test.YtlmofdmbcddddaaGreatDoorBContextBranchProofM13
namespace Go.Proofs.YtlmofdmbcddddaaGreatDoor
open Go.RowKit
open WM RM
set_option linter.unusedVariables false
set_option linter.unusedSimpArgs false

theorem sp_st {l : List Rw} (hl : rchk l = 0) {u : List Md} (hu : chk u = 0) : spC l u = stC l u ∧ spL l u = stL l u := by
  obtain ⟨h1, h2⟩ := st_valid hl hu
  exact ⟨by rw [h1]; rfl, by rw [h2]; rfl⟩
theorem chk_args {u : List Md} (h : chk u = 0) : ∀ m ∈ u, m.a.length ≤ 10 := fun m hm => by
  have := (fine_args4 (List.all_eq_true.1 (chk_zero.1 h).2.1 m hm)).1
  omega
/-- How Run ends. -/
def PuEnd (l : List Rw) (wd : List Md) (n : Int) (w : World) (e : Ending) (w' : World) : Prop := ∃ v vs, e = .returned (.tuple #[v, .int .i64 (ruC l wd n)]) ∧ Below w.heap.size w w' ∧ ModFr w' w.heap.size v (ruL l wd n) vs
/-- Where the loop stands. -/
structure PnAt (w : World) (l : List Rw) (wd : List Md) (n i : Nat) (u : List Md) (v : Value) (wr : World) : Prop where
  hi : i ≤ n
  below : Below w.heap.size w wr
  own : ∃ vs, ModFr wr w.heap.size v u vs
  ok : chk u = 0
  eq : runF l n wd = runF l (n - i) u
set_option maxRecDepth 100000 in
set_option maxHeartbeats 6400000 in
theorem prun_any (v : Value) (l : List Rw) (hmax : l.length ≤ 9223372036854775807) (hs : ∀ r ∈ l, RwSm r) (wv : Value) (wd : List Md) (hwl : wd.length ≤ 9223372036854775807) (hwa : ∀ m ∈ wd, m.a.length ≤ 9223372036854775807) (n : Int) (w : World) (hv : Rws w v l) (hw : Mods w wv wd) (hnil : NilOr wv) :
    Calls Tryz.prog 85 #[v, wv, .int .i64 n] w (PuEnd l wd n w) := by
  obtain ⟨p, cap, rfl⟩ := hv.slice
  obtain ⟨p2, cap2, rfl⟩ := hw.slice
  have HV := Lib.hid hv
  have HW := Lib.hid hw
  have KC := Lib.hid (fun w h => prcheck_any (.slice p l.length cap) l hmax hs w h)
  have KW := Lib.hid (fun w h => pcheck_any (.slice p2 wd.length cap2) wd hwl hwa w h)
  clear hv hw hwa
  by_cases h0 : rchk l = 0
  · by_cases h1 : chk wd = 0
    · have H0 := Lib.hid h0
      have H1 := Lib.hid h1
      have hr0 := rchk_zero h0
      have hwd := chk_zero.1 h1
      have KT := Lib.hid (fun (w : World) (h : Mods w (.slice p2 wd.length cap2) wd) => ptwin_any (.slice p2 wd.length cap2) wd (by omega) (fun m hm => by have := chk_args h1 m hm; omega) w h hnil)
      have KS := Lib.hid (fun (wv : Value) (u : List Md) (us : List Value) (hu : chk u = 0) (b0 : Nat) (w : World) hb h1 h2 => pstep_any p cap l hmax hs (fun r hr => (hr0.2 r hr).1) (fun r hr => ((many_no hr0.1).2 r hr).2) wv u us (chk_zero.1 hu).1 (fun m hm => List.all_eq_true.1 (chk_zero.1 hu).2.1 m hm) b0 w hb h1 h2)
      rw [h0] at KC
      rw [h1] at KW
      clear h0 h1 hr0 hwd hs hnil
      by_cases h2 : n < 0
      · have HE : Hid (∀ w', Below w.heap.size w w' → PuEnd l wd n w (.returned (.tuple #[.slice none 0 0, .int .i64 2])) w') := Lib.hid (fun w' hb => by
          have h5 := ru_arg (n := n) H0.out H1.out (.inl h2)
          exact ⟨_, [], by rw [h5.1], hb, by rw [h5.2]; exact modFr_nil _ _⟩)
        go_enter Tryz.func85, Tryz.ntmps85
        go_wp2_with fail
        refine (KC.out _ HV.out).mono ?_
        rintro e w1 ⟨rfl, hb⟩
        have B1 := Lib.hid hb
        clear hb
        go_wp2_with fail
        refine (KW.out _ (HW.out.later B1.out)).mono ?_
        rintro e w2 ⟨rfl, hb⟩
        have B2 := Lib.hid (B1.out.trans (hb.mono B1.out.size))
        clear hb
        go_wp2_with fail
        go_ret2
        exact HE.out _ B2.out
      · by_cases h3 : 30 < n
        · have HE : Hid (∀ w', Below w.heap.size w w' → PuEnd l wd n w (.returned (.tuple #[.slice none 0 0, .int .i64 2])) w') := Lib.hid (fun w' hb => by
            have h5 := ru_arg (n := n) H0.out H1.out (.inr h3)
            exact ⟨_, [], by rw [h5.1], hb, by rw [h5.2]; exact modFr_nil _ _⟩)
          go_enter Tryz.func85, Tryz.ntmps85
          go_wp2_with fail
          refine (KC.out _ HV.out).mono ?_
          rintro e w1 ⟨rfl, hb⟩
          have B1 := Lib.hid hb
          clear hb
          go_wp2_with fail
          refine (KW.out _ (HW.out.later B1.out)).mono ?_
          rintro e w2 ⟨rfl, hb⟩
          have B2 := Lib.hid (B1.out.trans (hb.mono B1.out.size))
          clear hb
          go_wp2_with fail
          go_ret2
          exact HE.out _ B2.out
        · obtain ⟨N, hN⟩ : ∃ N : Nat, n = (N : Int) := ⟨n.toNat, by omega⟩
          subst hN
          have HR : Hid (∀ c u, runF l N wd = (c, u) → ruC l wd (N : Int) = c ∧ ruL l wd (N : Int) = if c = 0 then u else []) := Lib.hid (fun c u h => ru_run H0.out H1.out (by omega) h)
          go_enter Tryz.func85, Tryz.ntmps85
          go_wp2_with fail
          refine (KC.out _ HV.out).mono ?_
          rintro e w1 ⟨rfl, hb⟩
          have B1 := Lib.hid hb
          clear hb
          go_wp2_with fail
          refine (KW.out _ (HW.out.later B1.out)).mono ?_
          rintro e w2 ⟨rfl, hb⟩
          have B2 := Lib.hid (B1.out.trans (hb.mono B1.out.size))
          clear hb
          go_wp2_with fail
          refine (KT.out _ (HW.out.later B2.out)).mono ?_
          rintro e w3 ⟨v3, vs3, rfl, hb, hmo⟩
          have S3 : Hid (PnAt w l wd N 0 wd v3 w3) := Lib.hid ⟨Nat.zero_le _, B2.out.trans (hb.mono B2.out.size), ⟨vs3, hmo.mono B2.out.size⟩, H1.out, rfl⟩
          clear hb hmo
          go_wp2_with fail
          go_loopw [10, 32] (fun v i wr => ∃ (i' : Nat) (u : List Md), i = .int .i64 (i' : Nat) ∧ PnAt w l wd N i' u v wr) (fun _ i _ => N - (intOf i).toNat)
          case atStart => exact ⟨0, wd, rfl, S3.out⟩
          case round =>
            rename World => wo
            obtain ⟨i, u, rfl, hS⟩ := hrel
            have HSt := Lib.hid hS
            have hi := hS.hi
            have hsz := hS.below.size
            obtain ⟨vs, hm⟩ := hS.own
            obtain ⟨q, c, hq⟩ := fr_slice hm.row
            subst hq
            have HMF := Lib.hid hm
            have HOk := Lib.hid hS.ok
            clear hS hm
            by_cases hlt : i < N
            · have k1 : (i : Int) < (N : Int) := by omega
              have HEq : Hid (runF l N wd = runF l (N - (i + 1) + 1) u) := Lib.hid (by rw [HSt.out.eq]; congr 1; omega)
              have KS1 := Lib.hid (KS.out (.slice q u.length c) u vs HOk.out w.heap.size wo hsz (HV.out.later HSt.out.below) HMF.out)
              unfold SpEnd at KS1
              obtain ⟨hsp1, hsp2⟩ := sp_st H0.out HOk.out
              rw [hsp1, hsp2] at KS1
              clear hsp1 hsp2
              by_cases h5 : stC l u = 0
              · have HN : Hid (∀ w' v' vs', Below wo.heap.size wo w' → ModFr w' w.heap.size v' (stL l u) vs' → PnAt w l wd N (i + 1) (stL l u) v' w') := Lib.hid (fun w' v' vs' hb hm =>
                  ⟨hlt, HSt.out.below.trans (hb.mono hsz), ⟨vs', hm⟩, stL_chk H0.out HOk.out, by rw [HEq.out, run_ok h5]⟩)
                rw [h5] at KS1
                clear h5
                go_wp2_with fail
                refine KS1.out.mono ?_
                rintro e w4 ⟨v4, vs4, rfl, hb, hm⟩
                have HT := Lib.hid (HN.out _ _ _ hb hm)
                clear hb hm
                go_wp2_with fail
                go_roundw
                case rel => exact ⟨i + 1, _, by go_num, HT.out⟩
                case measure => simp [intOf]; omega
              · have HE : Hid (∀ w', Below wo.heap.size wo w' → PuEnd l wd (N : Int) w (.returned (.tuple #[.slice none 0 0, .int .i64 (stC l u)])) w') := Lib.hid (fun w' hb => by
                  have h6 := HR.out _ _ (HEq.out.trans (run_no h5))
                  rw [if_neg h5] at h6
                  exact ⟨_, [], by rw [h6.1], HSt.out.below.trans (hb.mono hsz), by rw [h6.2]; exact modFr_nil _ _⟩)
                obtain ⟨z, hz⟩ : ∃ z, stC l u = z := ⟨_, rfl⟩
                rw [hz] at KS1 HE h5
                have h6 : (z != 0) = true := by rw [bne_iff_ne]; exact h5
                clear h5 hz
                go_wp2_with fail
                refine KS1.out.mono ?_
                rintro e w4 ⟨v4, vs4, rfl, hb, hm⟩
                have B4 := Lib.hid hb
                clear hb hm
                go_wp2_with fail
                go_ret2
                exact HE.out _ B4.out
            · obtain rfl : i = N := by omega
              have k1 : ¬ (i : Int) < (i : Int) := by omega
              have HE : Hid (PuEnd l wd (i : Int) w (.returned (.tuple #[.slice q u.length c, .int .i64 0])) wo) := Lib.hid (by
                have h6 := HR.out 0 u (by rw [HSt.out.eq, Nat.sub_self]; rfl)
                rw [if_pos rfl] at h6
                exact ⟨_, vs, by rw [h6.1], HSt.out.below, by rw [h6.2]; exact HMF.out⟩)
              go_wp2_with fail
              go_ret2
              exact HE.out
    · have HE : Hid (∀ w', Below w.heap.size w w' → PuEnd l wd n w (.returned (.tuple #[.slice none 0 0, .int .i64 (chk wd)])) w') := Lib.hid (fun w' hb => ⟨_, [], by rw [(ru_word h0 h1).1], hb, by rw [(ru_word h0 h1).2]; exact modFr_nil _ _⟩)
      rw [h0] at KC
      obtain ⟨c, hc⟩ : ∃ c, chk wd = c := ⟨_, rfl⟩
      rw [hc] at KW HE h1
      have h2 : (c != 0) = true := by rw [bne_iff_ne]; exact h1
      clear h0 h1 hc
      go_enter Tryz.func85, Tryz.ntmps85
      go_wp2_with fail
      refine (KC.out _ HV.out).mono ?_
      rintro e w1 ⟨rfl, hb⟩
      have B1 := Lib.hid hb
      clear hb
      go_wp2_with fail
      refine (KW.out _ (HW.out.later B1.out)).mono ?_
      rintro e w2 ⟨rfl, hb⟩
      have B2 := Lib.hid (B1.out.trans (hb.mono B1.out.size))
      clear hb
      go_wp2_with fail
      go_ret2
      exact HE.out _ B2.out
  · have HE : Hid (∀ w', Below w.heap.size w w' → PuEnd l wd n w (.returned (.tuple #[.slice none 0 0, .int .i64 (rchk l)])) w') := Lib.hid (fun w' hb => ⟨_, [], by rw [(ru_rules h0).1], hb, by rw [(ru_rules h0).2]; exact modFr_nil _ _⟩)
    obtain ⟨c, hc⟩ : ∃ c, rchk l = c := ⟨_, rfl⟩
    rw [hc] at KC HE h0
    have h2 : (c != 0) = true := by rw [bne_iff_ne]; exact h0
    clear h0 hc
    go_enter Tryz.func85, Tryz.ntmps85
    go_wp2_with fail
    refine (KC.out _ HV.out).mono ?_
    rintro e w1 ⟨rfl, hb⟩
    have B1 := Lib.hid hb
    clear hb
    go_wp2_with fail
    go_ret2
    exact HE.out _ B1.out
theorem ru_one (l : List Rw) (wd : List Md) : ruC l wd 1 = stC l wd ∧ ruL l wd 1 = stL l wd := by
  have hr : runF l 1 wd = if stC l wd ≠ 0 then (stC l wd, []) else (0, stL l wd) := by
    rw [runF]
    split
    · rfl
    · rw [runF]
  have e : ruC l wd 1 = stC l wd := by
    unfold ruC
    by_cases h0 : rchk l = 0
    · by_cases h1 : chk wd = 0
      · rw [if_neg (by simp [h0]), if_neg (by simp [h1]), if_neg (by omega)]
        show (runF l 1 wd).1 = _
        rw [hr]
        split
        · rfl
        · rename_i h; simp at h; exact h.symm
      · rw [if_neg (by simp [h0]), if_pos h1, (st_word h0 h1).1]
    · rw [if_pos h0, (st_rules h0).1]
  refine ⟨e, ?_⟩
  unfold ruL
  rw [e]
  by_cases h : stC l wd = 0
  · rw [if_pos h]
    show (runF l 1 wd).2 = _
    rw [hr, if_neg (by simp [h])]
  · rw [if_neg h]
    unfold stL; rw [if_neg h]
/-- How Step ends. -/
def PtEnd (l : List Rw) (wd : List Md) (w : World) (e : Ending) (w' : World) : Prop := ∃ v vs, e = .returned (.tuple #[v, .int .i64 (stC l wd)]) ∧ Below w.heap.size w w' ∧ ModFr w' w.heap.size v (stL l wd) vs
set_option maxRecDepth 100000 in
set_option maxHeartbeats 1600000 in
theorem pstep1_any (v : Value) (l : List Rw) (hmax : l.length ≤ 9223372036854775807) (hs : ∀ r ∈ l, RwSm r) (wv : Value) (wd : List Md) (hwl : wd.length ≤ 9223372036854775807) (hwa : ∀ m ∈ wd, m.a.length ≤ 9223372036854775807) (w : World) (hv : Rws w v l) (hw : Mods w wv wd) (hnil : NilOr wv) :
    Calls Tryz.prog 72 #[v, wv] w (PtEnd l wd w) := by
  have K := Lib.hid (prun_any v l hmax hs wv wd hwl hwa 1 w hv hw hnil)
  obtain ⟨p, cap, rfl⟩ := hv.slice
  obtain ⟨p2, cap2, rfl⟩ := hw.slice
  unfold PuEnd at K
  rw [(ru_one l wd).1, (ru_one l wd).2] at K
  clear hv hw hs hwa hnil
  obtain ⟨c, hc⟩ : ∃ c, stC l wd = c := ⟨_, rfl⟩
  have HC := Lib.hid hc
  rw [hc] at K
  clear hc
  go_enter Tryz.func72, Tryz.ntmps72
  go_wp2_with fail
  refine K.out.mono ?_
  rintro e w1 ⟨v1, vs, rfl, hb, hm⟩
  have HE : Hid (PtEnd l wd w (.returned (.tuple #[v1, .int .i64 c])) w1) := Lib.hid ⟨_, vs, by rw [HC.out], hb, hm⟩
  clear hb hm
  go_wp2_with fail
  go_ret2
  exact HE.out
end Go.Proofs.YtlmofdmbcddddaaGreatDoor
namespace Go.Proofs.YtlmofdmbcddddaaGreatDoor
open Go.RowKit
open WM RM CM
set_option linter.unusedVariables false
set_option linter.unusedSimpArgs false

theorem three_set {w : World} {b : Nat} {t : TypeId} {x y z : Value} (h : w.heap[b]? = some (.cells #[x, y, z] t (0, 0))) (a c d : Value) :
    (w.setCell ⟨b, 0, none⟩ a).heap[b]? = some (.cells #[a, y, z] t (0, 0)) ∧ ((w.setCell ⟨b, 0, none⟩ a).setCell ⟨b, 1, none⟩ c).heap[b]? = some (.cells #[a, c, z] t (0, 0)) ∧ (((w.setCell ⟨b, 0, none⟩ a).setCell ⟨b, 1, none⟩ c).setCell ⟨b, 2, none⟩ d).heap[b]? = some (.cells #[a, c, d] t (0, 0)) := by
  have h1 : (w.setCell ⟨b, 0, none⟩ a).heap[b]? = some (.cells #[a, y, z] t (0, 0)) := by
    simp only [World.setCell, Array.getElem?_modify, if_true, h]; rfl
  have h2 : ((w.setCell ⟨b, 0, none⟩ a).setCell ⟨b, 1, none⟩ c).heap[b]? = some (.cells #[a, c, z] t (0, 0)) := by
    generalize w.setCell ⟨b, 0, none⟩ a = w1 at h1 ⊢
    simp only [World.setCell, Array.getElem?_modify, if_true, h1]; rfl
  refine ⟨h1, h2, ?_⟩
  generalize (w.setCell ⟨b, 0, none⟩ a).setCell ⟨b, 1, none⟩ c = w2 at h2 ⊢
  simp only [World.setCell, Array.getElem?_modify, if_true, h2]; rfl
theorem frozen_row {w : World} {b i : Nat} {cs : Array Value} {t : TypeId} (h : w.heap[b]? = some (.cells cs t (0, 0))) : w.frozen? ⟨b, i, none⟩ = false := by simp [World.frozen?, h]
/-- How look ends: rows of the neighbours. -/
def LkEnd (g : Bs) (u : List Md) (wv : Value) (w : World) (e : Ending) (w' : World) : Prop := ∃ g1 g2, e = .returned (.agg #[wv, .slice (some ⟨g1, 0, none⟩) u.length u.length, .slice (some ⟨g2, 0, none⟩) u.length u.length]) ∧ Below w.heap.size w w' ∧ RowI w' g1 (lfL g u u.length) ∧ RowI w' g2 (rgL g u u.length) ∧ w.heap.size ≤ g1 ∧ w.heap.size ≤ g2
set_option maxRecDepth 100000 in
set_option maxHeartbeats 1600000 in
theorem look_any (v : Value) (u : List Md) (h0 : chk u = 0) (s : ByteArray) (w : World) (hv : Mods w v u) :
    Calls Tryz.prog 54 #[v, .string s] w (LkEnd (lA s) u v w) := by
  obtain ⟨p, cap, rfl⟩ := hv.slice
  have HV := Lib.hid hv
  have hz := chk_zero.1 h0
  have K1 := Lib.hid (fun w h => lefts_any (.slice p u.length cap) u hz.1 hz.2.2.1 s w h)
  have K2 := Lib.hid (fun w h => rights_any (.slice p u.length cap) u hz.1 hz.2.2.1 hz.2.2.2 s w h)
  unfold NbEnd at K1 K2
  rw [lfL_length] at K1
  rw [rgL_length] at K2
  obtain ⟨W0, hW0⟩ : ∃ W, W = w.alloc (.cells #[.slice none 0 0, .slice none 0 0, .slice none 0 0] 92) := ⟨_, rfl⟩
  have N0 : W0.heap[w.heap.size]? = some (.cells #[.slice none 0 0, .slice none 0 0, .slice none 0 0] 92 (0, 0)) := by rw [hW0]; exact heap_alloc_new _ _
  have B0 : Hid (Below w.heap.size w W0) := Lib.hid (by rw [hW0]; exact (Below.refl _ _).alloc (Nat.le_refl _) _)
  have l0 := lt_of_block N0
  have HN := Lib.hid N0
  clear hv hz h0 N0
  generalize lA s = g at K1 K2 ⊢
  go_enter Tryz.func54, Tryz.ntmps54
  go_wp2_with fail
  rw [← hW0]
  clear hW0
  refine (K1.out _ (HV.out.later B0.out)).mono ?_
  rintro e w1 ⟨g1, rfl, hb, hr1, hg1⟩
  have B1 := Lib.hid hb
  have R1 := Lib.hid hr1
  have z1 := hb.size
  clear hb hr1
  go_wp2_with fail
  refine (K2.out _ (HV.out.later (B0.out.trans (B1.out.mono B0.out.size)))).mono ?_
  rintro e w2 ⟨g2, rfl, hb, hr2, hg2⟩
  have B2 := Lib.hid (B1.out.trans (hb.mono B1.out.size))
  have N2 := (B2.out.block _ l0).trans HN.out
  have HE : Hid (∀ x y z, LkEnd g u (.slice p u.length cap) w (.returned (.agg #[.slice p u.length cap, .slice (some ⟨g1, 0, none⟩) u.length u.length, .slice (some ⟨g2, 0, none⟩) u.length u.length])) (((w2.setCell ⟨w.heap.size, 0, none⟩ x).setCell ⟨w.heap.size, 1, none⟩ y).setCell ⟨w.heap.size, 2, none⟩ z)) := Lib.hid (fun x y z => by
    have n1 : g1 ≠ w.heap.size := by omega
    have n2 : g2 ≠ w.heap.size := by omega
    exact ⟨g1, g2, rfl, (((B0.out.trans (B2.out.mono B0.out.size)).setCell (Nat.le_refl _) _).setCell (Nat.le_refl _) _).setCell (Nat.le_refl _) _, (((R1.out.later hb).other n1 _).other n1 _).other n1 _, ((hr2.other n2 _).other n2 _).other n2 _, by omega, by omega⟩)
  obtain ⟨t1, t2, t3⟩ := three_set N2 (.slice p u.length cap) (.slice (some ⟨g1, 0, none⟩) u.length u.length) (.slice (some ⟨g2, 0, none⟩) u.length u.length)
  have c0 : w2.cell? ⟨w.heap.size, 0, none⟩ = some (.slice none 0 0) := by simp [World.cell?, N2]
  have f0 := frozen_row (i := 0) N2
  have c1 : (w2.setCell ⟨w.heap.size, 0, none⟩ (.slice p u.length cap)).cell? ⟨w.heap.size, 1, none⟩ = some (.slice none 0 0) := by simp only [World.cell?, t1]; rfl
  have f1 := frozen_row (i := 1) t1
  have c2 : ((w2.setCell ⟨w.heap.size, 0, none⟩ (.slice p u.length cap)).setCell ⟨w.heap.size, 1, none⟩ (.slice (some ⟨g1, 0, none⟩) u.length u.length)).cell? ⟨w.heap.size, 2, none⟩ = some (.slice none 0 0) := by simp only [World.cell?, t2]; rfl
  have f2 := frozen_row (i := 2) t2
  have HT3 := Lib.hid t3
  clear hb hr2 t1 t2 t3 N2
  go_wp2_with fail
  have HF := HE.out (.slice p u.length cap) (.slice (some ⟨g1, 0, none⟩) u.length u.length) (.slice (some ⟨g2, 0, none⟩) u.length u.length)
  have t3 := HT3.out
  generalize ((w2.setCell ⟨w.heap.size, 0, none⟩ (.slice p u.length cap)).setCell ⟨w.heap.size, 1, none⟩ (.slice (some ⟨g1, 0, none⟩) u.length u.length)).setCell ⟨w.heap.size, 2, none⟩ (.slice (some ⟨g2, 0, none⟩) u.length u.length) = W3 at HF t3 ⊢
  have d0 : W3.cell? ⟨w.heap.size, 0, none⟩ = some (.slice p u.length cap) := by simp [World.cell?, t3]
  have d1 : W3.cell? ⟨w.heap.size, 1, none⟩ = some (.slice (some ⟨g1, 0, none⟩) u.length u.length) := by simp [World.cell?, t3]
  have d2 : W3.cell? ⟨w.heap.size, 2, none⟩ = some (.slice (some ⟨g2, 0, none⟩) u.length u.length) := by simp [World.cell?, t3]
  exact bodyPost_ret (v := .agg #[.slice p u.length cap, .slice (some ⟨g1, 0, none⟩) u.length u.length, .slice (some ⟨g2, 0, none⟩) u.length u.length]) (by simp [results, Tryz.results54, go_sem, d0, d1, d2] <;> rfl) rfl HF
set_option maxRecDepth 100000 in
set_option maxHeartbeats 1600000 in
theorem phas_any (v : Value) (p1 : Option Addr) (n1 c1 : Nat) (p2 : Option Addr) (n2 c2 : Nat) (u : List Md) (hu : u.length ≤ 50000) (k : Int) (hk : -1 ≤ k ∧ k < u.length) (c : UInt8) (w : World) (hv : Mods w v u) :
    Calls Tryz.prog 70 #[.agg #[v, .slice p1 n1 c1, .slice p2 n2 c2], .int .i64 k, .int .u8 c.toNat] w fun e w' => e = .returned (.bool (nbB u k c)) ∧ Below w.heap.size w w' := by
  obtain ⟨p, cap, rfl⟩ := hv.slice
  obtain ⟨W0, hW0⟩ : ∃ W, W = w.alloc (.cells #[.slice p u.length cap, .slice p1 n1 c1, .slice p2 n2 c2] 92) := ⟨_, rfl⟩
  have N0 : W0.heap[w.heap.size]? = some (.cells #[.slice p u.length cap, .slice p1 n1 c1, .slice p2 n2 c2] 92 (0, 0)) := by rw [hW0]; exact heap_alloc_new _ _
  have B0 : Below w.heap.size w W0 := by rw [hW0]; exact (Below.refl _ _).alloc (Nat.le_refl _) _
  have HB := Lib.hid B0
  have HV := Lib.hid (hv.later B0)
  have q0 : W0.cell? ⟨w.heap.size, 0, none⟩ = some (.slice p u.length cap) := by simp [World.cell?, N0]
  clear hv N0 B0
  by_cases hc : c = 0
  · have t0 : ((c.toNat : Int) == 0) = true := by rw [hc]; rfl
    have HF : Hid (nbB u k c = true) := Lib.hid (nb_any hc)
    generalize nbB u k c = nb at HF ⊢
    generalize c.toNat = cn at t0 ⊢
    clear hc
    go_enter Tryz.func70, Tryz.ntmps70
    go_wp2_with fail
    rw [← hW0]
    clear hW0
    go_wp2_with fail
    go_ret
    exact ⟨ret_bool HF.out.symm, HB.out⟩
  · have t0 := u8_zf hc
    by_cases hk0 : k < 0
    · have HF : Hid (nbB u k c = false) := Lib.hid (nb_none hc hk0)
      generalize nbB u k c = nb at HF ⊢
      generalize c.toNat = cn at t0 ⊢
      clear hc
      go_enter Tryz.func70, Tryz.ntmps70
      go_wp2_with fail
      rw [← hW0]
      clear hW0
      go_wp2_with fail
      go_ret
      exact ⟨ret_bool HF.out.symm, HB.out⟩
    · obtain ⟨n, rfl⟩ : ∃ n : Nat, k = (n : Int) := ⟨k.toNat, by omega⟩
      have hlt : n < u.length := by omega
      have hn0 : (0 : Int) ≤ (n : Int) := by omega
      obtain ⟨b, off, cap', q, d, hp, e1, _, _, lb⟩ := HV.out.at hlt
      obtain rfl : p = some ⟨b, off, none⟩ := by cases hp; rfl
      have HF : Hid (nbB u (n : Int) c = ((u[n].c.toNat : Int) == (c.toNat : Int))) := Lib.hid (by rw [nb_at hc, md_get hlt, u8_eq])
      generalize nbB u (n : Int) c = nb at HF ⊢
      generalize c.toNat = cn at t0 HF ⊢
      generalize u[n].c.toNat = x at e1 HF
      clear hc hp
      have k1 : (n : Int) < (u.length : Int) := by omega
      subst hW0
      cases t1 : ((x : Int) == (cn : Int)) with
      | true =>
        rw [t1] at HF
        go_enter Tryz.func70, Tryz.ntmps70
        go_wp2_with fail
        go_ret
        exact ⟨ret_bool HF.out.symm, HB.out⟩
      | false =>
        rw [t1] at HF
        go_enter Tryz.func70, Tryz.ntmps70
        go_wp2_with fail
        go_ret
        exact ⟨ret_bool HF.out.symm, HB.out⟩
/-! ### fits, successor -/
def askR (r : Rw) : Rw := { r with l := 0, r := 0, wt := 0, out := [] }
def repR (r : Rw) : Rw := { r with l := 0, r := 0, wt := 0, gs := [] }
theorem rule_parts {r : Rw} : ruleB r = true ↔ letB r.c = true ∧ braB r.c = false ∧ 0 ≤ r.ar ∧ r.ar ≤ 4 ∧ r.gs.all (formB · r.ar) = true ∧ r.out.all (shB · r.ar) = true ∧ chk (r.out.map shM) = 0 := by
  unfold ruleB
  simp only [Bool.and_eq_true, decide_eq_true_eq, Bool.not_eq_true']
  constructor
  · rintro ⟨⟨⟨⟨⟨⟨a, b⟩, c⟩, d⟩, e⟩, f⟩, g⟩; exact ⟨a, b, c, d, e, f, g⟩
  · rintro ⟨a, b, c, d, e, f, g⟩; exact ⟨⟨⟨⟨⟨⟨a, b⟩, c⟩, d⟩, e⟩, f⟩, g⟩
theorem ask_rchk {r : Rw} (h : ruleB r = true) (hg : r.gs.length ≤ 4) : rchk [askR r] = 0 := by
  refine rchk_ok (many_not (by simp) fun k hk => ?_) fun k hk => ?_
  · have hk0 : k = 0 := by simpa using hk
    subst hk0
    simp only [List.getElem_cons_zero, askR]
    simp; omega
  · have hk0 : k = 0 := by simpa using hk
    subst hk0
    simp only [List.getElem_cons_zero]
    obtain ⟨a, b, c, d, e, f, i⟩ := rule_parts.1 h
    exact ⟨rule_parts.2 ⟨a, b, c, d, e, by simp [askR], by show chk [] = 0; decide⟩, plain_ok rfl rfl rfl⟩
theorem rep_rchk {r : Rw} (h : ruleB r = true) (hg : r.out.length ≤ 20) : rchk [repR r] = 0 := by
  refine rchk_ok (many_not (by simp) fun k hk => ?_) fun k hk => ?_
  · have hk0 : k = 0 := by simpa using hk
    subst hk0
    simp only [List.getElem_cons_zero, repR]
    simp; omega
  · have hk0 : k = 0 := by simpa using hk
    subst hk0
    simp only [List.getElem_cons_zero]
    obtain ⟨a, b, c, d, e, f, i⟩ := rule_parts.1 h
    exact ⟨rule_parts.2 ⟨a, b, c, d, by simp [repR], f, i⟩, plain_ok rfl rfl rfl⟩
theorem ask_fin {r : Rw} {m : Md} (h : ruleB r = true) (hg : r.gs.length ≤ 4) (hm : fineB m = true) : finC [askR r] m = 0 ∧ finV [askR r] m = if fitB r m = true then 0 else -1 := by
  obtain ⟨h1, h2⟩ := fin_ok (ask_rchk h hg) hm
  exact ⟨h1, by rw [h2]; rfl⟩
theorem chk_single {m : Md} (hm : fineB m = true) (hp : plnB m.c = true) : chk [m] = 0 := by
  obtain ⟨n1, n2⟩ := pln_no hp
  have hd : dlt m = 0 := by unfold dlt; rw [if_neg n1, if_neg n2]
  refine chk_zero.2 ⟨by simp, by simpa using hm, okB_iff.2 fun i hi => ?_, by rw [dep_cons, dep_nil]; omega⟩
  have hi0 : i = 0 := by simpa using hi
  subst hi0
  simp [dep_cons, dep_nil, hd]
theorem rep_st {r : Rw} {m : Md} (h : ruleB r = true) (hg : r.out.length ≤ 20) (hm : fineB m = true) (hf : fitB r m = true) :
    (made r m = none → stC [repR r] [m] = 16 ∧ stL [repR r] [m] = []) ∧ (∀ d, made r m = some d → stC [repR r] [m] = 0 ∧ stL [repR r] [m] = d) := by
  have hc := rep_rchk h hg
  have hp : plnB m.c = true := by rw [← CM.fit_name hf]; exact CM.rule_pln h
  have hk := chk_single hm hp
  have hff : fitB (repR r) m = true := by
    unfold fitB at hf ⊢
    simp only [Bool.and_eq_true] at hf
    simp only [repR, Bool.and_eq_true]
    exact ⟨hf.1, by simp⟩
  have e : stepL [repR r] [m] = made r m := by
    rw [stepL_one]
    have : first [repR r] m = 0 := by unfold first firstF; rw [if_pos hff]
    unfold succM
    rw [dif_pos (by omega), this]
    rfl
  exact ⟨fun hn => st_none hc hk (e.trans hn), fun d hd => st_ok hc hk (e.trans hd) (by have := made_len hd; omega)⟩
end Go.Proofs.YtlmofdmbcddddaaGreatDoor
namespace Go.Proofs.YtlmofdmbcddddaaGreatDoor
open Go.RowKit
open WM RM CM
set_option linter.unusedVariables false
set_option linter.unusedSimpArgs false

theorem fit_c {r : Rw} {m : Md} (h : r.c ≠ m.c) : fitB r m = false := by
  unfold fitB; rw [beq_eq_false_iff_ne.2 h]; rfl
theorem rws_lit {w0 w : World} (r : Rw) (g o : Value) (h1 : Fms w0 g r.gs) (h2 : Shs w0 o r.out) (hb : Below w0.heap.size w0 w) :
    Rws (w.alloc (.cells #[.int .u8 r.c.toNat, .int .i64 r.ar, .int .u8 r.l.toNat, .int .u8 r.r.toNat, g, .int .i64 r.wt, o] 45)) (.slice (some ⟨w.heap.size, 0, none⟩) 1 1) [r] := by
  have hb2 : Below w0.heap.size w0 (w.alloc (.cells #[.int .u8 r.c.toNat, .int .i64 r.ar, .int .u8 r.l.toNat, .int .u8 r.r.toNat, g, .int .i64 r.wt, o] 45)) := hb.trans ((Below.refl _ _).alloc hb.size _)
  exact rws_row (base := 0) (l := [r]) (World.ownsRow_lit (base := 0) (e := 45) (size := 7) w #[.int .u8 r.c.toNat, .int .i64 r.ar, .int .u8 r.l.toNat, .int .u8 r.r.toNat, g, .int .i64 r.wt, o] 1 (Nat.zero_le _) (by show 1 ≤ 9223372036854775807; omega) rfl) (RowR.one (h1.later hb2) (h2.later hb2))
set_option maxRecDepth 100000 in
set_option maxHeartbeats 3200000 in
theorem pfits_any (r : Rw) (m : Md) (pg : Option Addr) (cg : Nat) (po : Option Addr) (co : Nat) (pm : Option Addr) (cm : Nat) (hr : ruleB r = true) (hsm : RwSm r) (hg4 : r.gs.length ≤ 4) (hm : fineB m = true) (hnil : NilOr (.slice pm m.a.length cm)) (w : World) (h1 : Fms w (.slice pg r.gs.length cg) r.gs) (h3 : Ints w (.slice pm m.a.length cm) m.a) :
    Calls Tryz.prog 71 #[.agg #[.int .u8 r.c.toNat, .int .i64 r.ar, .int .u8 r.l.toNat, .int .u8 r.r.toNat, .slice pg r.gs.length cg, .int .i64 r.wt, .slice po r.out.length co], .agg #[.int .u8 m.c.toNat, .slice pm m.a.length cm]] w fun e w' => e = .returned (.bool (fitB r m)) ∧ Below w.heap.size w w' := by
  obtain ⟨W0, hW0⟩ : ∃ W, W = (w.alloc (.cells #[.int .u8 r.c.toNat, .int .i64 r.ar, .int .u8 r.l.toNat, .int .u8 r.r.toNat, .slice pg r.gs.length cg, .int .i64 r.wt, .slice po r.out.length co] 45)).alloc (.cells #[.int .u8 m.c.toNat, .slice pm m.a.length cm] 27) := ⟨_, rfl⟩
  have N1 : W0.heap[w.heap.size]? = some (.cells #[.int .u8 r.c.toNat, .int .i64 r.ar, .int .u8 r.l.toNat, .int .u8 r.r.toNat, .slice pg r.gs.length cg, .int .i64 r.wt, .slice po r.out.length co] 45 (0, 0)) := by rw [hW0]; exact heap_alloc_old (heap_alloc_new _ _) _
  have N2 : W0.heap[w.heap.size + 1]? = some (.cells #[.int .u8 m.c.toNat, .slice pm m.a.length cm] 27 (0, 0)) := by
    have := heap_alloc_new (w.alloc (.cells #[.int .u8 r.c.toNat, .int .i64 r.ar, .int .u8 r.l.toNat, .int .u8 r.r.toNat, .slice pg r.gs.length cg, .int .i64 r.wt, .slice po r.out.length co] 45)) (.cells #[.int .u8 m.c.toNat, .slice pm m.a.length cm] 27)
    rw [hW0]; simpa using this
  have B0 : Below w.heap.size w W0 := by rw [hW0]; exact ((Below.refl _ _).alloc (Nat.le_refl _) _).alloc (by simp) _
  have HB := Lib.hid B0
  have H1 := Lib.hid (h1.later B0)
  have H3 := Lib.hid (h3.later B0)
  have q0 : W0.cell? ⟨w.heap.size, 0, none⟩ = some (.int .u8 r.c.toNat) := by simp [World.cell?, N1]
  have q1 : W0.cell? ⟨w.heap.size, 1, none⟩ = some (.int .i64 r.ar) := by simp [World.cell?, N1]
  have q4 : W0.cell? ⟨w.heap.size, 4, none⟩ = some (.slice pg r.gs.length cg) := by simp [World.cell?, N1]
  have m0 := cell_two0 N2
  have m1 := cell_two1 N2
  have l1 := lt_of_block N1
  have l2 := lt_of_block N2
  by_cases hc : r.c = m.c
  · have t0 : ((r.c.toNat : Int) != (m.c.toNat : Int)) = false := by rw [hc]; simp
    have HF := Lib.hid (ask_fin hr hg4 hm)
    have hs0 : W0.heap.size = w.heap.size + 1 + 1 := by rw [hW0]; simp
    have KF : Hid (Calls Tryz.prog 84 #[.slice (some ⟨w.heap.size + 1 + 1 + 1, 0, none⟩) 1 1, .agg #[.int .u8 m.c.toNat, .slice pm m.a.length cm]] ((W0.alloc (.cells #[.int .u8 r.c.toNat, .int .i64 r.ar, .int .u8 0, .int .u8 0, .slice pg r.gs.length cg, .int .i64 0, .slice none 0 0] 45)).alloc (.cells #[.int .u8 r.c.toNat, .int .i64 r.ar, .int .u8 0, .int .u8 0, .slice pg r.gs.length cg, .int .i64 0, .slice none 0 0] 45)) fun e w' => e = .returned (.tuple #[.int .i64 (finV [askR r] m), .int .i64 (finC [askR r] m)]) ∧ Below w.heap.size w w') := Lib.hid (by
      have hb1 : Below W0.heap.size W0 (W0.alloc (.cells #[.int .u8 r.c.toNat, .int .i64 r.ar, .int .u8 0, .int .u8 0, .slice pg r.gs.length cg, .int .i64 0, .slice none 0 0] 45)) := (Below.refl _ _).alloc (Nat.le_refl _) _
      have hb2 : Below W0.heap.size W0 ((W0.alloc (.cells #[.int .u8 r.c.toNat, .int .i64 r.ar, .int .u8 0, .int .u8 0, .slice pg r.gs.length cg, .int .i64 0, .slice none 0 0] 45)).alloc (.cells #[.int .u8 r.c.toNat, .int .i64 r.ar, .int .u8 0, .int .u8 0, .slice pg r.gs.length cg, .int .i64 0, .slice none 0 0] 45)) := hb1.alloc hb1.size _
      have hrw := rws_lit (w0 := W0) (w := W0.alloc (.cells #[.int .u8 r.c.toNat, .int .i64 r.ar, .int .u8 0, .int .u8 0, .slice pg r.gs.length cg, .int .i64 0, .slice none 0 0] 45)) (askR r) (.slice pg r.gs.length cg) (.slice none 0 0) H1.out (.none _ _) hb1
      have hsz : (W0.alloc (.cells #[.int .u8 r.c.toNat, .int .i64 r.ar, .int .u8 0, .int .u8 0, .slice pg r.gs.length cg, .int .i64 0, .slice none 0 0] 45)).heap.size = w.heap.size + 1 + 1 + 1 := by simp [hs0]
      rw [hsz] at hrw
      have K := prfind_any (.slice (some ⟨w.heap.size + 1 + 1 + 1, 0, none⟩) 1 1) [askR r] m (.slice pm m.a.length cm) (by simp) (by intro x hx; simp at hx; subst hx; exact ⟨hsm.1, by simp [askR], hsm.2.2.1, by simp [askR]⟩) (by have := (fine_args4 hm).1; omega) _ hrw (H3.out.later hb2) hnil
      refine K.mono ?_
      rintro e w' ⟨he, hb⟩
      exact ⟨he, HB.out.trans ((hb2.trans (hb.mono hb2.size)).mono HB.out.size)⟩)
    rw [HF.out.1, HF.out.2] at KF
    obtain ⟨tf, htf⟩ : ∃ t, fitB r m = t := ⟨_, rfl⟩
    rw [htf] at KF ⊢
    clear N1 N2 B0 h1 h3 hc htf HF q0 q1 q4 m0 m1 l1 l2 hs0
    cases tf with
    | true =>
      rw [if_pos rfl] at KF
      go_enter Tryz.func71, Tryz.ntmps71
      go_wp2_with fail
      rw [← hW0]
      refine KF.out.mono ?_
      rintro e w1 ⟨rfl, hb⟩
      have B1 := Lib.hid hb
      clear hb
      go_wp2_with fail
      go_ret
      exact ⟨rfl, B1.out⟩
    | false =>
      rw [if_neg (by decide)] at KF
      go_enter Tryz.func71, Tryz.ntmps71
      go_wp2_with fail
      rw [← hW0]
      refine KF.out.mono ?_
      rintro e w1 ⟨rfl, hb⟩
      have B1 := Lib.hid hb
      clear hb
      go_wp2_with fail
      go_ret
      exact ⟨rfl, B1.out⟩
  · have t0 : ((r.c.toNat : Int) != (m.c.toNat : Int)) = true := nn_tst hc
    have HF : Hid (fitB r m = false) := Lib.hid (fit_c hc)
    clear N1 N2 B0 h1 h3
    go_enter Tryz.func71, Tryz.ntmps71
    go_wp2_with fail
    rw [← hW0]
    clear hW0
    go_wp2_with fail
    go_ret
    exact ⟨ret_bool HF.out.symm, HB.out⟩
/-- How successor ends. -/
def ScEnd (r : Rw) (m : Md) (w : World) (e : Ending) (w' : World) : Prop := Below w.heap.size w w' ∧ ((made r m = none ∧ ∃ p n c, e = .returned (.tuple #[.slice p n c, .int .i64 16])) ∨ ∃ d v vs, made r m = some d ∧ e = .returned (.tuple #[v, .int .i64 0]) ∧ ModFr w' w.heap.size v d vs)
set_option maxRecDepth 100000 in
set_option maxHeartbeats 3200000 in
theorem psucc_any (r : Rw) (m : Md) (pg : Option Addr) (cg : Nat) (po : Option Addr) (co : Nat) (pm : Option Addr) (cm : Nat) (hr : ruleB r = true) (hsm : RwSm r) (ho : r.out.length ≤ 20) (hm : fineB m = true) (hf : fitB r m = true) (hnil : NilOr (.slice pm m.a.length cm)) (w : World) (h2 : Shs w (.slice po r.out.length co) r.out) (h3 : Ints w (.slice pm m.a.length cm) m.a) :
    Calls Tryz.prog 56 #[.agg #[.int .u8 r.c.toNat, .int .i64 r.ar, .int .u8 r.l.toNat, .int .u8 r.r.toNat, .slice pg r.gs.length cg, .int .i64 r.wt, .slice po r.out.length co], .agg #[.int .u8 m.c.toNat, .slice pm m.a.length cm]] w (ScEnd r m w) := by
  obtain ⟨W0, hW0⟩ : ∃ W, W = (w.alloc (.cells #[.int .u8 r.c.toNat, .int .i64 r.ar, .int .u8 r.l.toNat, .int .u8 r.r.toNat, .slice pg r.gs.length cg, .int .i64 r.wt, .slice po r.out.length co] 45)).alloc (.cells #[.int .u8 m.c.toNat, .slice pm m.a.length cm] 27) := ⟨_, rfl⟩
  have B0 : Below w.heap.size w W0 := by rw [hW0]; exact ((Below.refl _ _).alloc (Nat.le_refl _) _).alloc (by simp) _
  have HB := Lib.hid B0
  have H2 := Lib.hid (h2.later B0)
  have H3 := Lib.hid (h3.later B0)
  have hs0 : W0.heap.size = w.heap.size + 1 + 1 := by rw [hW0]; simp
  have HR := Lib.hid (rep_st hr ho hm hf)
  have KF : Hid (Calls Tryz.prog 72 #[.slice (some ⟨w.heap.size + 1 + 1 + 1, 0, none⟩) 1 1, .slice (some ⟨w.heap.size + 1 + 1 + 1 + 1, 0, none⟩) 1 1] (((W0.alloc (.cells #[.int .u8 r.c.toNat, .int .i64 r.ar, .int .u8 0, .int .u8 0, .slice none 0 0, .int .i64 0, .slice po r.out.length co] 45)).alloc (.cells #[.int .u8 r.c.toNat, .int .i64 r.ar, .int .u8 0, .int .u8 0, .slice none 0 0, .int .i64 0, .slice po r.out.length co] 45)).alloc (.cells #[.int .u8 m.c.toNat, .slice pm m.a.length cm] 27)) fun e w' => (∃ v vs, e = .returned (.tuple #[v, .int .i64 (stC [repR r] [m])]) ∧ Below w.heap.size w w' ∧ ModFr w' w.heap.size v (stL [repR r] [m]) vs)) := Lib.hid (by
    have hb1 : Below W0.heap.size W0 (W0.alloc (.cells #[.int .u8 r.c.toNat, .int .i64 r.ar, .int .u8 0, .int .u8 0, .slice none 0 0, .int .i64 0, .slice po r.out.length co] 45)) := (Below.refl _ _).alloc (Nat.le_refl _) _
    have hb2 : Below W0.heap.size W0 ((W0.alloc (.cells #[.int .u8 r.c.toNat, .int .i64 r.ar, .int .u8 0, .int .u8 0, .slice none 0 0, .int .i64 0, .slice po r.out.length co] 45)).alloc (.cells #[.int .u8 r.c.toNat, .int .i64 r.ar, .int .u8 0, .int .u8 0, .slice none 0 0, .int .i64 0, .slice po r.out.length co] 45)) := hb1.alloc hb1.size _
    have hrw := rws_lit (w0 := W0) (w := W0.alloc (.cells #[.int .u8 r.c.toNat, .int .i64 r.ar, .int .u8 0, .int .u8 0, .slice none 0 0, .int .i64 0, .slice po r.out.length co] 45)) (repR r) (.slice none 0 0) (.slice po r.out.length co) (.none _ _) H2.out hb1
    have hsz : (W0.alloc (.cells #[.int .u8 r.c.toNat, .int .i64 r.ar, .int .u8 0, .int .u8 0, .slice none 0 0, .int .i64 0, .slice po r.out.length co] 45)).heap.size = w.heap.size + 1 + 1 + 1 := by simp [hs0]
    have hsz2 : ((W0.alloc (.cells #[.int .u8 r.c.toNat, .int .i64 r.ar, .int .u8 0, .int .u8 0, .slice none 0 0, .int .i64 0, .slice po r.out.length co] 45)).alloc (.cells #[.int .u8 r.c.toNat, .int .i64 r.ar, .int .u8 0, .int .u8 0, .slice none 0 0, .int .i64 0, .slice po r.out.length co] 45)).heap.size = w.heap.size + 1 + 1 + 1 + 1 := by simp [hs0]
    rw [hsz] at hrw
    change Rws ((W0.alloc (.cells #[.int .u8 r.c.toNat, .int .i64 r.ar, .int .u8 0, .int .u8 0, .slice none 0 0, .int .i64 0, .slice po r.out.length co] 45)).alloc (.cells #[.int .u8 r.c.toNat, .int .i64 r.ar, .int .u8 0, .int .u8 0, .slice none 0 0, .int .i64 0, .slice po r.out.length co] 45)) _ _ at hrw
    have hmd := mods_new ((W0.alloc (.cells #[.int .u8 r.c.toNat, .int .i64 r.ar, .int .u8 0, .int .u8 0, .slice none 0 0, .int .i64 0, .slice po r.out.length co] 45)).alloc (.cells #[.int .u8 r.c.toNat, .int .i64 r.ar, .int .u8 0, .int .u8 0, .slice none 0 0, .int .i64 0, .slice po r.out.length co] 45)) m (.slice pm m.a.length cm) (H3.out.later hb2) hnil
    rw [hsz2] at hmd
    have hb3 : Below W0.heap.size W0 (((W0.alloc (.cells #[.int .u8 r.c.toNat, .int .i64 r.ar, .int .u8 0, .int .u8 0, .slice none 0 0, .int .i64 0, .slice po r.out.length co] 45)).alloc (.cells #[.int .u8 r.c.toNat, .int .i64 r.ar, .int .u8 0, .int .u8 0, .slice none 0 0, .int .i64 0, .slice po r.out.length co] 45)).alloc (.cells #[.int .u8 m.c.toNat, .slice pm m.a.length cm] 27)) := hb2.alloc hb2.size _
    have K := pstep1_any (.slice (some ⟨w.heap.size + 1 + 1 + 1, 0, none⟩) 1 1) [repR r] (by simp) (by intro x hx; simp at hx; subst hx; exact ⟨by simp [repR], hsm.2.1, by simp [repR], hsm.2.2.2⟩) (.slice (some ⟨w.heap.size + 1 + 1 + 1 + 1, 0, none⟩) 1 1) [m] (by simp) (by have := (fine_args4 hm).1; intro x hx; simp at hx; subst hx; omega) _ (hrw.later ((Below.refl _ _).alloc (Nat.le_refl _) _)) hmd (.inr ⟨_, _, _, rfl⟩)
    refine K.mono ?_
    rintro e w' ⟨v, vs, he, hb, hmo⟩
    have hBB := HB.out.trans ((hb3.trans (hb.mono hb3.size)).mono HB.out.size)
    exact ⟨v, vs, he, hBB, hmo.mono (by have := hb3.size; omega)⟩)
  clear B0 h2 h3 hs0
  cases hmd : made r m with
  | none =>
    obtain ⟨e1, e2⟩ := HR.out.1 hmd
    rw [e1, e2] at KF
    have HE : Hid (∀ w' p n c, Below w.heap.size w w' → ScEnd r m w (.returned (.tuple #[.slice p n c, .int .i64 16])) w') := Lib.hid (fun w' p n c hb => ⟨hb, .inl ⟨hmd, p, n, c, rfl⟩⟩)
    clear hmd HR e1 e2
    go_enter Tryz.func56, Tryz.ntmps56
    go_wp2_with fail
    rw [← hW0]
    refine KF.out.mono ?_
    rintro e w1 ⟨v, vs, rfl, hb, hmo⟩
    obtain ⟨p, c, rfl⟩ := own_sl hmo.row
    have HF := Lib.hid (HE.out w1 p ([] : List Md).length c hb)
    clear hb hmo
    go_wp2_with fail
    go_ret2
    exact HF.out
  | some d =>
    obtain ⟨e1, e2⟩ := HR.out.2 d hmd
    rw [e1, e2] at KF
    have HE : Hid (∀ w' v vs, Below w.heap.size w w' → ModFr w' w.heap.size v d vs → ScEnd r m w (.returned (.tuple #[v, .int .i64 0])) w') := Lib.hid (fun w' v vs hb hmo => ⟨hb, .inr ⟨d, v, vs, hmd, rfl, hmo⟩⟩)
    clear hmd HR e1 e2
    go_enter Tryz.func56, Tryz.ntmps56
    go_wp2_with fail
    rw [← hW0]
    refine KF.out.mono ?_
    rintro e w1 ⟨v, vs, rfl, hb, hmo⟩
    have HF := Lib.hid (HE.out _ _ _ hb hmo)
    obtain ⟨p, c, rfl⟩ := own_sl hmo.row
    clear hb hmo
    go_wp2_with fail
    go_ret2
    exact HF.out
end Go.Proofs.YtlmofdmbcddddaaGreatDoor
namespace Go.Proofs.YtlmofdmbcddddaaGreatDoor
open Go.RowKit
open WM RM CM
set_option linter.unusedVariables false
set_option linter.unusedSimpArgs false

theorem mods_nil {w : World} {b off len cap : Nat} {l : List Md} (h : Mods w (.slice (some ⟨b, off, none⟩) len cap) l) {k : Nat} (hk : k < l.length) : ∃ q qc, w.cell? ⟨b, off + k * 2, none⟩ = some (.int .u8 l[k].c.toNat) ∧ w.cell? ⟨b, off + k * 2 + 1, none⟩ = some (.slice q l[k].a.length qc) ∧ Ints w (.slice q l[k].a.length qc) l[k].a ∧ b < w.heap.size ∧ NilOr (.slice q l[k].a.length qc) := by
  cases h with
  | none _ _ => simp at hk
  | some _ _ _ _ hpos hb hx =>
    obtain ⟨h1, v, h2, h3, h4⟩ := hx k hk
    obtain ⟨q, qc, rfl⟩ := h3.slice
    exact ⟨q, qc, h1, h2, h3, hb, h4⟩
set_option maxRecDepth 100000 in
set_option maxHeartbeats 6400000 in
theorem pvfirst_any (v : Value) (l : List Rw) (hmax : l.length ≤ 50) (hs : ∀ r ∈ l, RwSm r) (hru : ∀ r ∈ l, ruleB r = true ∧ r.gs.length ≤ 4) (s : ByteArray)
    (p2 : Option Addr) (cap2 : Nat) (u : List Md) (hu : u.length ≤ 2000) (huf : ∀ m ∈ u, fineB m = true) (i : Nat) (hi : i < u.length) (g1 g2 : Nat) (w : World) (hv : Rws w v l) (hw : Mods w (.slice p2 u.length cap2) u) (hg1 : RowI w g1 (lfL (lA s) u u.length)) (hg2 : RowI w g2 (rgL (lA s) u u.length)) :
    Calls Tryz.prog 55 #[.agg #[.slice p2 u.length cap2, .slice (some ⟨g1, 0, none⟩) u.length u.length, .slice (some ⟨g2, 0, none⟩) u.length u.length], v, .int .i64 (i : Int)] w fun e w' => e = .returned (.int .i64 (cfirst (lA s) l u i)) ∧ Below w.heap.size w w' := by
  obtain ⟨p, cap, rfl⟩ := hv.slice
  obtain ⟨W0, hW0⟩ : ∃ W, W = w.alloc (.cells #[.slice p2 u.length cap2, .slice (some ⟨g1, 0, none⟩) u.length u.length, .slice (some ⟨g2, 0, none⟩) u.length u.length] 92) := ⟨_, rfl⟩
  have N0 : W0.heap[w.heap.size]? = some (.cells #[.slice p2 u.length cap2, .slice (some ⟨g1, 0, none⟩) u.length u.length, .slice (some ⟨g2, 0, none⟩) u.length u.length] 92 (0, 0)) := by rw [hW0]; exact heap_alloc_new _ _
  have B0 : Below w.heap.size w W0 := by rw [hW0]; exact (Below.refl _ _).alloc (Nat.le_refl _) _
  have HB0 := Lib.hid B0
  have HV := Lib.hid (hv.later B0)
  have HW := Lib.hid (hw.later B0)
  have q0 : W0.cell? ⟨w.heap.size, 0, none⟩ = some (.slice p2 u.length cap2) := by simp [World.cell?, N0]
  have q1 : W0.cell? ⟨w.heap.size, 1, none⟩ = some (.slice (some ⟨g1, 0, none⟩) u.length u.length) := by simp [World.cell?, N0]
  have q2 : W0.cell? ⟨w.heap.size, 2, none⟩ = some (.slice (some ⟨g2, 0, none⟩) u.length u.length) := by simp [World.cell?, N0]
  have l0 := lt_of_block N0
  have hr1 := hg1.later B0
  have hr2 := hg2.later B0
  have lg1 := hr1.lt
  have lg2 := hr2.lt
  have q3 := hr1.cell (i := i) (by rw [lfL_length]; exact hi)
  rw [lfL_get hi, if_pos hi] at q3
  have q4 := hr2.cell (i := i) (by rw [rgL_length]; exact hi)
  rw [rgL_get hi, if_pos (by omega)] at q4
  have KN := Lib.hid (fun (k : Int) hk c w h => phas_any (.slice p2 u.length cap2) (some ⟨g1, 0, none⟩) u.length u.length (some ⟨g2, 0, none⟩) u.length u.length u (by omega) k hk c w h)
  have HS := Lib.hid hs
  have HRu := Lib.hid hru
  have HFi := Lib.hid (huf _ (List.getElem_mem hi))
  generalize lA s = g at q3 q4 ⊢
  have i1 : (i : Int) < (u.length : Int) := by omega
  have hmd := md_get hi
  have HBl := Lib.hid (bef_rng (g := g) hi)
  have HBr0 := Lib.hid (beh_rng (g := g) hi)
  have HQ : Hid (∀ r, cfitB g u i r = (nbB u (bef g u i) r.l && nbB u (beh g u i) r.r && fitB r u[i])) := Lib.hid (fun r => by
    unfold cfitB; rw [hmd]
    cases fitB r u[i] <;> simp)
  obtain ⟨bw, ow, cw, _, _, hp2, _, _, _, lbw0⟩ := HW.out.at hi
  obtain rfl : p2 = some ⟨bw, ow, none⟩ := by cases hp2; rfl
  obtain ⟨q, qc, y0, y1, hin, lbw, hnq⟩ := mods_nil HW.out hi
  have HIn := Lib.hid hin
  have HNq := Lib.hid hnq
  clear N0 B0 hv hw hs hru huf hg1 hg2 hr1 hr2 hmd hp2 hin hnq
  go_enter Tryz.func55, Tryz.ntmps55
  go_wp2_with fail
  rw [← hW0]
  clear hW0
  go_wp2_with fail
  go_loopw [11] (fun k wr => ∃ k' : Nat, k' ≤ l.length ∧ k = .int .i64 k' ∧ Below W0.heap.size W0 wr ∧ CFAt g l u i k') (fun k _ => l.length - (intOf k).toNat)
  case atStart => exact ⟨0, Nat.zero_le _, rfl, Below.refl _ _, cfAt_start _ _ _ _⟩
  case round =>
    rename World => wo
    obtain ⟨k, hk, rfl, hb, hok⟩ := hrel
    have HK := Lib.hid hok
    have HBr := Lib.hid hb
    have hbz := hb.size
    clear hok hb
    by_cases hlt : k < l.length
    · have k1 : (k : Int) < (l.length : Int) := by omega
      obtain ⟨b, off, cap', gg, gc, o, oc, hp, lb, hat⟩ := (HV.out.later HBr.out).at hlt
      obtain rfl : p = some ⟨b, off, none⟩ := by cases hp; rfl
      obtain ⟨W1, hW1⟩ : ∃ W, W = wo.alloc (.cells #[.int .u8 l[k].c.toNat, .int .i64 l[k].ar, .int .u8 l[k].l.toNat, .int .u8 l[k].r.toNat, .slice gg l[k].gs.length gc, .int .i64 l[k].wt, .slice o l[k].out.length oc] 45) := ⟨_, rfl⟩
      have N1 : W1.heap[wo.heap.size]? = some (.cells #[.int .u8 l[k].c.toNat, .int .i64 l[k].ar, .int .u8 l[k].l.toNat, .int .u8 l[k].r.toNat, .slice gg l[k].gs.length gc, .int .i64 l[k].wt, .slice o l[k].out.length oc] 45 (0, 0)) := by rw [hW1]; exact heap_alloc_new _ _
      have b1 : Below wo.heap.size wo W1 := by rw [hW1]; exact (Below.refl _ _).alloc (Nat.le_refl _) _
      have E1 := Lib.hid b1
      have D1 := Lib.hid (HBr.out.trans (b1.mono hbz))
      have z0 := (D1.out.cell (p := ⟨w.heap.size, 0, none⟩) l0).trans q0
      have z1 := (D1.out.cell (p := ⟨w.heap.size, 1, none⟩) l0).trans q1
      have z2 := (D1.out.cell (p := ⟨w.heap.size, 2, none⟩) l0).trans q2
      have z3 := (D1.out.cell (p := ⟨g1, i, none⟩) lg1).trans q3
      have z4 := (D1.out.cell (p := ⟨g2, i, none⟩) lg2).trans q4
      have z5 := (D1.out.cell (p := ⟨bw, ow + i * 2, none⟩) lbw).trans y0
      have z6 := (D1.out.cell (p := ⟨bw, ow + i * 2 + 1, none⟩) lbw).trans y1
      have x0 : W1.cell? ⟨wo.heap.size, 0, none⟩ = some (.int .u8 l[k].c.toNat) := by simp [World.cell?, N1]
      have x1 : W1.cell? ⟨wo.heap.size, 1, none⟩ = some (.int .i64 l[k].ar) := by simp [World.cell?, N1]
      have x2 : W1.cell? ⟨wo.heap.size, 2, none⟩ = some (.int .u8 l[k].l.toNat) := by simp [World.cell?, N1]
      have x3 : W1.cell? ⟨wo.heap.size, 3, none⟩ = some (.int .u8 l[k].r.toNat) := by simp [World.cell?, N1]
      have x4 : W1.cell? ⟨wo.heap.size, 4, none⟩ = some (.slice gg l[k].gs.length gc) := by simp [World.cell?, N1]
      have x5 : W1.cell? ⟨wo.heap.size, 5, none⟩ = some (.int .i64 l[k].wt) := by simp [World.cell?, N1]
      have x6 : W1.cell? ⟨wo.heap.size, 6, none⟩ = some (.slice o l[k].out.length oc) := by simp [World.cell?, N1]
      obtain ⟨hr1, hr2⟩ := HRu.out _ (List.getElem_mem hlt)
      have hsm := HS.out _ (List.getElem_mem hlt)
      have HCw : Hid (∀ (d' : Nat) (os : Array Obj), Calls Tryz.prog 71 #[.agg #[.int .u8 l[k].c.toNat, .int .i64 l[k].ar, .int .u8 l[k].l.toNat, .int .u8 l[k].r.toNat, .slice gg l[k].gs.length gc, .int .i64 l[k].wt, .slice o l[k].out.length oc], .agg #[.int .u8 u[i].c.toNat, .slice q u[i].a.length qc]] («Sort».grow (redrawn W1 d') os) fun e w' => e = .returned (.bool (fitB l[k] u[i])) ∧ Below («Sort».grow (redrawn W1 d') os).heap.size («Sort».grow (redrawn W1 d') os) w') :=
        Lib.hid (fun d' os => pfits_any l[k] u[i] gg gc o oc q qc hr1 hsm hr2 HFi.out HNq.out _ ((hat.gs.later E1.out).later (below_regrown W1 d' os)) ((HIn.out.later D1.out).later (below_regrown W1 d' os)))
      have KL : Hid (∀ (d' : Nat) (os : Array Obj), Calls Tryz.prog 70 #[.agg #[.slice (some ⟨bw, ow, none⟩) u.length cap2, .slice (some ⟨g1, 0, none⟩) u.length u.length, .slice (some ⟨g2, 0, none⟩) u.length u.length], .int .i64 (bef g u i), .int .u8 l[k].l.toNat] («Sort».grow (redrawn W1 d') os) fun e w' => e = .returned (.bool (nbB u (bef g u i) l[k].l)) ∧ Below («Sort».grow (redrawn W1 d') os).heap.size («Sort».grow (redrawn W1 d') os) w') :=
        Lib.hid (fun d' os => KN.out _ HBl.out l[k].l _ ((HW.out.later D1.out).later (below_regrown W1 d' os)))
      have KR : Hid (∀ (d' : Nat) (os : Array Obj), Calls Tryz.prog 70 #[.agg #[.slice (some ⟨bw, ow, none⟩) u.length cap2, .slice (some ⟨g1, 0, none⟩) u.length u.length, .slice (some ⟨g2, 0, none⟩) u.length u.length], .int .i64 (beh g u i), .int .u8 l[k].r.toNat] («Sort».grow (redrawn W1 d') os) fun e w' => e = .returned (.bool (nbB u (beh g u i) l[k].r)) ∧ Below («Sort».grow (redrawn W1 d') os).heap.size («Sort».grow (redrawn W1 d') os) w') :=
        Lib.hid (fun d' os => KN.out _ HBr0.out l[k].r _ ((HW.out.later D1.out).later (below_regrown W1 d' os)))
      have HQk := Lib.hid (HQ.out l[k])
      have HYes := Lib.hid (cfAt_yes hlt HK.out)
      have HNo := Lib.hid (cfAt_no hlt HK.out)
      obtain ⟨e0, e1, e2, e3, e4, e5, e6, _, _⟩ := hat
      generalize cfitB g u i l[k] = tq at HQk HYes HNo
      generalize fitB l[k] u[i] = t1 at HCw HQk
      generalize nbB u (bef g u i) l[k].l = t2 at KL HQk
      generalize nbB u (beh g u i) l[k].r = t3 at KR HQk
      generalize bef g u i = zb at z3 KL
      generalize beh g u i = zf at z4 KR
      generalize u[i].c.toNat = xc at z5 HCw
      generalize u[i].a.length = xl at z6 HCw
      generalize l[k].c.toNat = v0 at e0 x0 HCw hW1
      generalize l[k].ar = v1 at e1 x1 HCw hW1
      generalize l[k].l.toNat = v2 at e2 x2 HCw KL hW1
      generalize l[k].r.toNat = v3 at e3 x3 HCw KR hW1
      generalize l[k].gs.length = v4 at e4 x4 HCw hW1
      generalize l[k].wt = v5 at e5 x5 HCw hW1
      generalize l[k].out.length = v6 at e6 x6 HCw hW1
      clear hp hr1 hr2 hsm N1 b1
      have r0 := fun d os => cell_regrown x0 d os
      have r1 := fun d os => cell_regrown x1 d os
      have r2 := fun d os => cell_regrown x2 d os
      have r3 := fun d os => cell_regrown x3 d os
      have r4 := fun d os => cell_regrown x4 d os
      have r5 := fun d os => cell_regrown x5 d os
      have r6 := fun d os => cell_regrown x6 d os
      have s0 := fun d os => cell_regrown z0 d os
      have s1 := fun d os => cell_regrown z1 d os
      have s2 := fun d os => cell_regrown z2 d os
      have s3 := fun d os => cell_regrown z3 d os
      have s4 := fun d os => cell_regrown z4 d os
      have s5 := fun d os => cell_regrown z5 d os
      have s6 := fun d os => cell_regrown z6 d os
      cases t2 with
      | false =>
        obtain rfl : tq = false := HQk.out
        have HN := Lib.hid (HNo.out rfl)
        go_wp2_with fail
        rw [← hW1]
        clear hW1
        go_wp2_with fail
        (refine wp_region_quiet_below (by kernel_rfl) (by kernel_rfl) ?_; repeat (any_goals (first | go_big_quiet_step ((first | (go_at_call 71; with_reducible refine Calls.regrown_of (HCw.out _ _)) | (go_at_call 70; first | (with_reducible refine Calls.regrown_of (KL.out _ _)) | (with_reducible refine Calls.regrown_of (KR.out _ _))))) | quiet_step ((first | (go_at_call 71; with_reducible refine Calls.regrown_of (HCw.out _ _)) | (go_at_call 70; first | (with_reducible refine Calls.regrown_of (KL.out _ _)) | (with_reducible refine Calls.regrown_of (KR.out _ _))))))))
        (refine wpQuiet_nil ?_; intro _ hw'; obtain ⟨⟨dq, osq⟩, hw''⟩ := hw'; subst hw''; have HB2 : Hid (Below W0.heap.size W0 («Sort».grow (redrawn W1 dq) osq)) := Lib.hid (D1.out.trans ((below_regrown W1 dq osq).mono D1.out.size)))
        go_wp2_with fail
        go_roundw
        case rel => exact ⟨k + 1, by omega, by go_num, HB2.out, HN.out⟩
        case measure => first | (simp [intOf]; done) | (simp [intOf]; omega)
      | true =>
        cases t3 with
        | false =>
          obtain rfl : tq = false := HQk.out
          have HN := Lib.hid (HNo.out rfl)
          go_wp2_with fail
          rw [← hW1]
          clear hW1
          go_wp2_with fail
          (refine wp_region_quiet_below (by kernel_rfl) (by kernel_rfl) ?_; repeat (any_goals (first | go_big_quiet_step ((first | (go_at_call 71; with_reducible refine Calls.regrown_of (HCw.out _ _)) | (go_at_call 70; first | (with_reducible refine Calls.regrown_of (KL.out _ _)) | (with_reducible refine Calls.regrown_of (KR.out _ _))))) | quiet_step ((first | (go_at_call 71; with_reducible refine Calls.regrown_of (HCw.out _ _)) | (go_at_call 70; first | (with_reducible refine Calls.regrown_of (KL.out _ _)) | (with_reducible refine Calls.regrown_of (KR.out _ _))))))))
          (refine wpQuiet_nil ?_; intro _ hw'; obtain ⟨⟨dq, osq⟩, hw''⟩ := hw'; subst hw''; have HB2 : Hid (Below W0.heap.size W0 («Sort».grow (redrawn W1 dq) osq)) := Lib.hid (D1.out.trans ((below_regrown W1 dq osq).mono D1.out.size)))
          go_wp2_with fail
          go_roundw
          case rel => exact ⟨k + 1, by omega, by go_num, HB2.out, HN.out⟩
          case measure => first | (simp [intOf]; done) | (simp [intOf]; omega)
        | true =>
          cases t1 with
          | false =>
            obtain rfl : tq = false := HQk.out
            have HN := Lib.hid (HNo.out rfl)
            go_wp2_with fail
            rw [← hW1]
            clear hW1
            go_wp2_with fail
            (refine wp_region_quiet_below (by kernel_rfl) (by kernel_rfl) ?_; repeat (any_goals (first | go_big_quiet_step ((first | (go_at_call 71; with_reducible refine Calls.regrown_of (HCw.out _ _)) | (go_at_call 70; first | (with_reducible refine Calls.regrown_of (KL.out _ _)) | (with_reducible refine Calls.regrown_of (KR.out _ _))))) | quiet_step ((first | (go_at_call 71; with_reducible refine Calls.regrown_of (HCw.out _ _)) | (go_at_call 70; first | (with_reducible refine Calls.regrown_of (KL.out _ _)) | (with_reducible refine Calls.regrown_of (KR.out _ _))))))))
            (refine wpQuiet_nil ?_; intro _ hw'; obtain ⟨⟨dq, osq⟩, hw''⟩ := hw'; subst hw''; have HB2 : Hid (Below W0.heap.size W0 («Sort».grow (redrawn W1 dq) osq)) := Lib.hid (D1.out.trans ((below_regrown W1 dq osq).mono D1.out.size)))
            go_wp2_with fail
            go_roundw
            case rel => exact ⟨k + 1, by omega, by go_num, HB2.out, HN.out⟩
            case measure => first | (simp [intOf]; done) | (simp [intOf]; omega)
          | true =>
            obtain rfl : tq = true := HQk.out
            have HN := Lib.hid (HYes.out rfl)
            go_wp2_with fail
            rw [← hW1]
            clear hW1
            go_wp2_with fail
            (refine wp_region_quiet_below (by kernel_rfl) (by kernel_rfl) ?_; repeat (any_goals (first | go_big_quiet_step ((first | (go_at_call 71; with_reducible refine Calls.regrown_of (HCw.out _ _)) | (go_at_call 70; first | (with_reducible refine Calls.regrown_of (KL.out _ _)) | (with_reducible refine Calls.regrown_of (KR.out _ _))))) | quiet_step ((first | (go_at_call 71; with_reducible refine Calls.regrown_of (HCw.out _ _)) | (go_at_call 70; first | (with_reducible refine Calls.regrown_of (KL.out _ _)) | (with_reducible refine Calls.regrown_of (KR.out _ _))))))))
            (refine wpQuiet_nil ?_; intro _ hw'; obtain ⟨⟨dq, osq⟩, hw''⟩ := hw'; subst hw''; have HB2 : Hid (Below W0.heap.size W0 («Sort».grow (redrawn W1 dq) osq)) := Lib.hid (D1.out.trans ((below_regrown W1 dq osq).mono D1.out.size)))
            go_wp2_with fail
            go_ret
            exact ⟨ret_int HN.out.symm, HB0.out.trans (HB2.out.mono HB0.out.size)⟩
    · obtain rfl : k = l.length := by omega
      have HF := Lib.hid (cfAt_end HK.out)
      have k1 : ¬ (l.length : Int) < (l.length : Int) := by omega
      go_wp2_with fail
      go_ret
      exact ⟨ret_int HF.out.symm, HB0.out.trans (HBr.out.mono HB0.out.size)⟩
end Go.Proofs.YtlmofdmbcddddaaGreatDoor
