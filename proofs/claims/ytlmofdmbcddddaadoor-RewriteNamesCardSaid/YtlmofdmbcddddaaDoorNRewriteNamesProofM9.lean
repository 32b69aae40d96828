/-
  Texts of the proof, merged: NRewPrK, NRewGiven, NRewRefN, NRewAlive, NRewNmM.
-/
import Derived.Test.YtlmofdmbcddddaaDoorNRewriteNamesProofM8
import Derived.Test.YtlmofdmbcddddaaDoorNRewriteNamesProofM5
import Derived.Test.YtlmofdmbcddddaaDoorNRewriteNamesProofM7
import Derived.Lib.QuietBelow
import Derived.Test.YtlmofdmbcddddaaDoorNRewriteNamesProofM4
namespace Go.Proofs.YtlmofdmbcddddaaDoor
open Go.RowKit
open WM RM
set_option linter.unusedVariables false
set_option linter.unusedSimpArgs false

theorem sp_st {l : List Rw} (hl : rchk l = 0) {u : List Md} (hu : chk u = 0) : spC l u = stC l u ∧ spL l u = stL l u := by
  obtain ⟨h1, h2⟩ := st_valid hl hu
  exact ⟨by rw [h1]; rfl, by rw [h2]; rfl⟩
theorem chk_args {u : List Md} (h : chk u = 0) : ∀ m ∈ u, m.a.length ≤ 10 := fun m hm => by
  have := (fine_args4 (List.all_eq_true.1 (chk_zero.1 h).2.1 m hm)).1
  omega
/-- How Run ends. -/
def PuEnd (l : List Rw) (wd : List Md) (n : Int) (w : World) (e : Ending) (w' : World) : Prop := ∃ v vs, e = .returned (.tuple #[v, .int .i64 (ruC l wd n)]) ∧ Below w.heap.size w w' ∧ ModFr w' w.heap.size v (ruL l wd n) vs
/-- Where the loop stands. -/
structure PnAt (w : World) (l : List Rw) (wd : List Md) (n i : Nat) (u : List Md) (v : Value) (wr : World) : Prop where
  hi : i ≤ n
  below : Below w.heap.size w wr
  own : ∃ vs, ModFr wr w.heap.size v u vs
  ok : chk u = 0
  eq : runF l n wd = runF l (n - i) u
set_option maxRecDepth 100000 in
set_option maxHeartbeats 6400000 in
theorem prun_any (v : Value) (l : List Rw) (hmax : l.length ≤ 9223372036854775807) (hs : ∀ r ∈ l, RwSm r) (wv : Value) (wd : List Md) (hwl : wd.length ≤ 9223372036854775807) (hwa : ∀ m ∈ wd, m.a.length ≤ 9223372036854775807) (n : Int) (w : World) (hv : Rws w v l) (hw : Mods w wv wd) (hnil : NilOr wv) :
    Calls Tryd.prog 10 #[v, wv, .int .i64 n] w (PuEnd l wd n w) := by
  obtain ⟨p, cap, rfl⟩ := hv.slice
  obtain ⟨p2, cap2, rfl⟩ := hw.slice
  have HV := Lib.hid hv
  have HW := Lib.hid hw
  have KC := Lib.hid (fun w h => prcheck_any (.slice p l.length cap) l hmax hs w h)
  have KW := Lib.hid (fun w h => pcheck_any (.slice p2 wd.length cap2) wd hwl hwa w h)
  clear hv hw hwa
  by_cases h0 : rchk l = 0
  · by_cases h1 : chk wd = 0
    · have H0 := Lib.hid h0
      have H1 := Lib.hid h1
      have hr0 := rchk_zero h0
      have hwd := chk_zero.1 h1
      have KT := Lib.hid (fun (w : World) (h : Mods w (.slice p2 wd.length cap2) wd) => ptwin_any (.slice p2 wd.length cap2) wd (by omega) (fun m hm => by have := chk_args h1 m hm; omega) w h hnil)
      have KS := Lib.hid (fun (wv : Value) (u : List Md) (us : List Value) (hu : chk u = 0) (b0 : Nat) (w : World) hb h1 h2 => pstep_any p cap l hmax hs (fun r hr => (hr0.2 r hr).1) (fun r hr => ((many_no hr0.1).2 r hr).2) wv u us (chk_zero.1 hu).1 (fun m hm => List.all_eq_true.1 (chk_zero.1 hu).2.1 m hm) b0 w hb h1 h2)
      rw [h0] at KC
      rw [h1] at KW
      clear h0 h1 hr0 hwd hs hnil
      by_cases h2 : n < 0
      · have HE : Hid (∀ w', Below w.heap.size w w' → PuEnd l wd n w (.returned (.tuple #[.slice none 0 0, .int .i64 2])) w') := Lib.hid (fun w' hb => by
          have h5 := ru_arg (n := n) H0.out H1.out (.inl h2)
          exact ⟨_, [], by rw [h5.1], hb, by rw [h5.2]; exact modFr_nil _ _⟩)
        go_enter Tryd.func10, Tryd.ntmps10
        go_wp2_with fail
        refine (KC.out _ HV.out).mono ?_
        rintro e w1 ⟨rfl, hb⟩
        have B1 := Lib.hid hb
        clear hb
        go_wp2_with fail
        refine (KW.out _ (HW.out.later B1.out)).mono ?_
        rintro e w2 ⟨rfl, hb⟩
        have B2 := Lib.hid (B1.out.trans (hb.mono B1.out.size))
        clear hb
        go_wp2_with fail
        go_ret2
        exact HE.out _ B2.out
      · by_cases h3 : 30 < n
        · have HE : Hid (∀ w', Below w.heap.size w w' → PuEnd l wd n w (.returned (.tuple #[.slice none 0 0, .int .i64 2])) w') := Lib.hid (fun w' hb => by
            have h5 := ru_arg (n := n) H0.out H1.out (.inr h3)
            exact ⟨_, [], by rw [h5.1], hb, by rw [h5.2]; exact modFr_nil _ _⟩)
          go_enter Tryd.func10, Tryd.ntmps10
          go_wp2_with fail
          refine (KC.out _ HV.out).mono ?_
          rintro e w1 ⟨rfl, hb⟩
          have B1 := Lib.hid hb
          clear hb
          go_wp2_with fail
          refine (KW.out _ (HW.out.later B1.out)).mono ?_
          rintro e w2 ⟨rfl, hb⟩
          have B2 := Lib.hid (B1.out.trans (hb.mono B1.out.size))
          clear hb
          go_wp2_with fail
          go_ret2
          exact HE.out _ B2.out
        · obtain ⟨N, hN⟩ : ∃ N : Nat, n = (N : Int) := ⟨n.toNat, by omega⟩
          subst hN
          have HR : Hid (∀ c u, runF l N wd = (c, u) → ruC l wd (N : Int) = c ∧ ruL l wd (N : Int) = if c = 0 then u else []) := Lib.hid (fun c u h => ru_run H0.out H1.out (by omega) h)
          go_enter Tryd.func10, Tryd.ntmps10
          go_wp2_with fail
          refine (KC.out _ HV.out).mono ?_
          rintro e w1 ⟨rfl, hb⟩
          have B1 := Lib.hid hb
          clear hb
          go_wp2_with fail
          refine (KW.out _ (HW.out.later B1.out)).mono ?_
          rintro e w2 ⟨rfl, hb⟩
          have B2 := Lib.hid (B1.out.trans (hb.mono B1.out.size))
          clear hb
          go_wp2_with fail
          refine (KT.out _ (HW.out.later B2.out)).mono ?_
          rintro e w3 ⟨v3, vs3, rfl, hb, hmo⟩
          have S3 : Hid (PnAt w l wd N 0 wd v3 w3) := Lib.hid ⟨Nat.zero_le _, B2.out.trans (hb.mono B2.out.size), ⟨vs3, hmo.mono B2.out.size⟩, H1.out, rfl⟩
          clear hb hmo
          go_wp2_with fail
          go_loopw [10, 32] (fun v i wr => ∃ (i' : Nat) (u : List Md), i = .int .i64 (i' : Nat) ∧ PnAt w l wd N i' u v wr) (fun _ i _ => N - (intOf i).toNat)
          case atStart => exact ⟨0, wd, rfl, S3.out⟩
          case round =>
            rename World => wo
            obtain ⟨i, u, rfl, hS⟩ := hrel
            have HSt := Lib.hid hS
            have hi := hS.hi
            have hsz := hS.below.size
            obtain ⟨vs, hm⟩ := hS.own
            obtain ⟨q, c, hq⟩ := fr_slice hm.row
            subst hq
            have HMF := Lib.hid hm
            have HOk := Lib.hid hS.ok
            clear hS hm
            by_cases hlt : i < N
            · have k1 : (i : Int) < (N : Int) := by omega
              have HEq : Hid (runF l N wd = runF l (N - (i + 1) + 1) u) := Lib.hid (by rw [HSt.out.eq]; congr 1; omega)
              have KS1 := Lib.hid (KS.out (.slice q u.length c) u vs HOk.out w.heap.size wo hsz (HV.out.later HSt.out.below) HMF.out)
              unfold SpEnd at KS1
              obtain ⟨hsp1, hsp2⟩ := sp_st H0.out HOk.out
              rw [hsp1, hsp2] at KS1
              clear hsp1 hsp2
              by_cases h5 : stC l u = 0
              · have HN : Hid (∀ w' v' vs', Below wo.heap.size wo w' → ModFr w' w.heap.size v' (stL l u) vs' → PnAt w l wd N (i + 1) (stL l u) v' w') := Lib.hid (fun w' v' vs' hb hm =>
                  ⟨hlt, HSt.out.below.trans (hb.mono hsz), ⟨vs', hm⟩, stL_chk H0.out HOk.out, by rw [HEq.out, run_ok h5]⟩)
                rw [h5] at KS1
                clear h5
                go_wp2_with fail
                refine KS1.out.mono ?_
                rintro e w4 ⟨v4, vs4, rfl, hb, hm⟩
                have HT := Lib.hid (HN.out _ _ _ hb hm)
                clear hb hm
                go_wp2_with fail
                go_roundw
                case rel => exact ⟨i + 1, _, by go_num, HT.out⟩
                case measure => simp [intOf]; omega
              · have HE : Hid (∀ w', Below wo.heap.size wo w' → PuEnd l wd (N : Int) w (.returned (.tuple #[.slice none 0 0, .int .i64 (stC l u)])) w') := Lib.hid (fun w' hb => by
                  have h6 := HR.out _ _ (HEq.out.trans (run_no h5))
                  rw [if_neg h5] at h6
                  exact ⟨_, [], by rw [h6.1], HSt.out.below.trans (hb.mono hsz), by rw [h6.2]; exact modFr_nil _ _⟩)
                obtain ⟨z, hz⟩ : ∃ z, stC l u = z := ⟨_, rfl⟩
                rw [hz] at KS1 HE h5
                have h6 : (z != 0) = true := by rw [bne_iff_ne]; exact h5
                clear h5 hz
                go_wp2_with fail
                refine KS1.out.mono ?_
                rintro e w4 ⟨v4, vs4, rfl, hb, hm⟩
                have B4 := Lib.hid hb
                clear hb hm
                go_wp2_with fail
                go_ret2
                exact HE.out _ B4.out
            · obtain rfl : i = N := by omega
              have k1 : ¬ (i : Int) < (i : Int) := by omega
              have HE : Hid (PuEnd l wd (i : Int) w (.returned (.tuple #[.slice q u.length c, .int .i64 0])) wo) := Lib.hid (by
                have h6 := HR.out 0 u (by rw [HSt.out.eq, Nat.sub_self]; rfl)
                rw [if_pos rfl] at h6
                exact ⟨_, vs, by rw [h6.1], HSt.out.below, by rw [h6.2]; exact HMF.out⟩)
              go_wp2_with fail
              go_ret2
              exact HE.out
    · have HE : Hid (∀ w', Below w.heap.size w w' → PuEnd l wd n w (.returned (.tuple #[.slice none 0 0, .int .i64 (chk wd)])) w') := Lib.hid (fun w' hb => ⟨_, [], by rw [(ru_word h0 h1).1], hb, by rw [(ru_word h0 h1).2]; exact modFr_nil _ _⟩)
      rw [h0] at KC
      obtain ⟨c, hc⟩ : ∃ c, chk wd = c := ⟨_, rfl⟩
      rw [hc] at KW HE h1
      have h2 : (c != 0) = true := by rw [bne_iff_ne]; exact h1
      clear h0 h1 hc
      go_enter Tryd.func10, Tryd.ntmps10
      go_wp2_with fail
      refine (KC.out _ HV.out).mono ?_
      rintro e w1 ⟨rfl, hb⟩
      have B1 := Lib.hid hb
      clear hb
      go_wp2_with fail
      refine (KW.out _ (HW.out.later B1.out)).mono ?_
      rintro e w2 ⟨rfl, hb⟩
      have B2 := Lib.hid (B1.out.trans (hb.mono B1.out.size))
      clear hb
      go_wp2_with fail
      go_ret2
      exact HE.out _ B2.out
  · have HE : Hid (∀ w', Below w.heap.size w w' → PuEnd l wd n w (.returned (.tuple #[.slice none 0 0, .int .i64 (rchk l)])) w') := Lib.hid (fun w' hb => ⟨_, [], by rw [(ru_rules h0).1], hb, by rw [(ru_rules h0).2]; exact modFr_nil _ _⟩)
    obtain ⟨c, hc⟩ : ∃ c, rchk l = c := ⟨_, rfl⟩
    rw [hc] at KC HE h0
    have h2 : (c != 0) = true := by rw [bne_iff_ne]; exact h0
    clear h0 hc
    go_enter Tryd.func10, Tryd.ntmps10
    go_wp2_with fail
    refine (KC.out _ HV.out).mono ?_
    rintro e w1 ⟨rfl, hb⟩
    have B1 := Lib.hid hb
    clear hb
    go_wp2_with fail
    go_ret2
    exact HE.out _ B1.out
theorem ru_one (l : List Rw) (wd : List Md) : ruC l wd 1 = stC l wd ∧ ruL l wd 1 = stL l wd := by
  have hr : runF l 1 wd = if stC l wd ≠ 0 then (stC l wd, []) else (0, stL l wd) := by
    rw [runF]
    split
    · rfl
    · rw [runF]
  have e : ruC l wd 1 = stC l wd := by
    unfold ruC
    by_cases h0 : rchk l = 0
    · by_cases h1 : chk wd = 0
      · rw [if_neg (by simp [h0]), if_neg (by simp [h1]), if_neg (by omega)]
        show (runF l 1 wd).1 = _
        rw [hr]
        split
        · rfl
        · rename_i h; simp at h; exact h.symm
      · rw [if_neg (by simp [h0]), if_pos h1, (st_word h0 h1).1]
    · rw [if_pos h0, (st_rules h0).1]
  refine ⟨e, ?_⟩
  unfold ruL
  rw [e]
  by_cases h : stC l wd = 0
  · rw [if_pos h]
    show (runF l 1 wd).2 = _
    rw [hr, if_neg (by simp [h])]
  · rw [if_neg h]
    unfold stL; rw [if_neg h]
/-- How Step ends. -/
def PtEnd (l : List Rw) (wd : List Md) (w : World) (e : Ending) (w' : World) : Prop := ∃ v vs, e = .returned (.tuple #[v, .int .i64 (stC l wd)]) ∧ Below w.heap.size w w' ∧ ModFr w' w.heap.size v (stL l wd) vs
set_option maxRecDepth 100000 in
set_option maxHeartbeats 1600000 in
theorem pstep1_any (v : Value) (l : List Rw) (hmax : l.length ≤ 9223372036854775807) (hs : ∀ r ∈ l, RwSm r) (wv : Value) (wd : List Md) (hwl : wd.length ≤ 9223372036854775807) (hwa : ∀ m ∈ wd, m.a.length ≤ 9223372036854775807) (w : World) (hv : Rws w v l) (hw : Mods w wv wd) (hnil : NilOr wv) :
    Calls Tryd.prog 9 #[v, wv] w (PtEnd l wd w) := by
  have K := Lib.hid (prun_any v l hmax hs wv wd hwl hwa 1 w hv hw hnil)
  obtain ⟨p, cap, rfl⟩ := hv.slice
  obtain ⟨p2, cap2, rfl⟩ := hw.slice
  unfold PuEnd at K
  rw [(ru_one l wd).1, (ru_one l wd).2] at K
  clear hv hw hs hwa hnil
  obtain ⟨c, hc⟩ : ∃ c, stC l wd = c := ⟨_, rfl⟩
  have HC := Lib.hid hc
  rw [hc] at K
  clear hc
  go_enter Tryd.func9, Tryd.ntmps9
  go_wp2_with fail
  refine K.out.mono ?_
  rintro e w1 ⟨v1, vs, rfl, hb, hm⟩
  have HE : Hid (PtEnd l wd w (.returned (.tuple #[v1, .int .i64 c])) w1) := Lib.hid ⟨_, vs, by rw [HC.out], hb, hm⟩
  clear hb hm
  go_wp2_with fail
  go_ret2
  exact HE.out
end Go.Proofs.YtlmofdmbcddddaaDoor
namespace Go.Proofs.YtlmofdmbcddddaaDoor
open Go.RowKit
open WM RM
set_option linter.unusedVariables false
set_option linter.unusedSimpArgs false

/-- How form ends. -/
def FoEnd (c x : Int) (w : World) (e : Ending) (w' : World) : Prop := ∃ b, e = .returned (.agg #[.int .i64 c, .slice (some ⟨b, 0, none⟩) 1 1]) ∧ Below w.heap.size w w' ∧ w'.heap[b]? = some (.cells #[.int .i64 x] 3 (0, 0)) ∧ w.heap.size ≤ b
theorem form_lit (c x : Int) (w : World) : Calls Tryd.prog 8 #[.int .i64 c, .int .i64 x] w (FoEnd c x w) := by
  have HF : Hid (FoEnd c x w (.returned (.agg #[.int .i64 c, .slice (some ⟨w.heap.size + 1, 0, none⟩) 1 1])) ((w.alloc (.cells #[.int .i64 c, .slice (some ⟨w.heap.size + 1, 0, none⟩) 1 1] 35)).alloc (.cells #[.int .i64 x] 3))) := Lib.hid (by
    refine ⟨_, rfl, ((Below.refl _ _).alloc (Nat.le_refl _) _).alloc (by simp) _, ?_, by omega⟩
    have h := heap_alloc_new (w.alloc (.cells #[.int .i64 c, .slice (some ⟨w.heap.size + 1, 0, none⟩) 1 1] 35)) (.cells #[.int .i64 x] 3)
    rw [World.size_alloc] at h
    exact h)
  have HC : Hid (∀ j u, #[Value.int .i64 c, .slice (some ⟨w.heap.size + 1, 0, none⟩) 1 1][j]? = some u → ((w.alloc (.cells #[.int .i64 c, .slice (some ⟨w.heap.size + 1, 0, none⟩) 1 1] 35)).alloc (.cells #[.int .i64 x] 3)).cell? ⟨w.heap.size, j, none⟩ = some u) := Lib.hid (fun j u h => by
    have N1 : ((w.alloc (.cells #[.int .i64 c, .slice (some ⟨w.heap.size + 1, 0, none⟩) 1 1] 35)).alloc (.cells #[.int .i64 x] 3)).heap[w.heap.size]? = some (.cells #[.int .i64 c, .slice (some ⟨w.heap.size + 1, 0, none⟩) 1 1] 35 (0, 0)) := heap_alloc_old (heap_alloc_new _ _) _
    simp only [World.cell?, N1]; exact h)
  go_enter Tryd.func8, Tryd.ntmps8
  go_wp2_with fail
  have c0 := HC.out 0 _ rfl
  have c1 := HC.out 1 _ rfl
  exact bodyPost_ret (v := .agg #[.int .i64 c, .slice (some ⟨w.heap.size + 1, 0, none⟩) 1 1]) (by simp [results, Tryd.results8, go_sem, c0, c1] <;> rfl) rfl HF.out
/-- The rules of the examples. -/
def givR : List Rw := [⟨65, 1, 0, 0, [⟨-1, [1]⟩], 0, [⟨70, [⟨0, [1]⟩]⟩, ⟨91, []⟩, ⟨43, []⟩, ⟨65, [⟨-1, [1]⟩]⟩, ⟨93, []⟩]⟩, ⟨65, 1, 0, 0, [], 0, [⟨70, [⟨0, [0]⟩]⟩]⟩]
def givC (g o1 o2 : Nat) : Array Value := #[.int .u8 65, .int .i64 1, .int .u8 0, .int .u8 0, .slice (some ⟨g, 0, none⟩) 1 1, .int .i64 0, .slice (some ⟨o1, 0, none⟩) 5 5, .int .u8 65, .int .i64 1, .int .u8 0, .int .u8 0, .slice none 0 0, .int .i64 0, .slice (some ⟨o2, 0, none⟩) 1 1]
/-- Where they lie. -/
structure GivAt (w : World) (lo r g o1 o2 p1 p2 p3 f1 f2 f3 f4 : Nat) : Prop where
  R : w.heap[r]? = some (.cells (givC g o1 o2) 31 (0, 0))
  G : w.heap[g]? = some (.cells #[.int .i64 (-1), .slice (some ⟨f1, 0, none⟩) 1 1] 35 (0, 0))
  O1 : w.heap[o1]? = some (.cells #[.int .u8 70, .slice (some ⟨p1, 0, none⟩) 1 1, .int .u8 91, .slice none 0 0, .int .u8 43, .slice none 0 0, .int .u8 65, .slice (some ⟨p2, 0, none⟩) 1 1, .int .u8 93, .slice none 0 0] 33 (0, 0))
  O2 : w.heap[o2]? = some (.cells #[.int .u8 70, .slice (some ⟨p3, 0, none⟩) 1 1] 33 (0, 0))
  P1 : w.heap[p1]? = some (.cells #[.int .i64 0, .slice (some ⟨f2, 0, none⟩) 1 1] 35 (0, 0))
  P2 : w.heap[p2]? = some (.cells #[.int .i64 (-1), .slice (some ⟨f3, 0, none⟩) 1 1] 35 (0, 0))
  P3 : w.heap[p3]? = some (.cells #[.int .i64 0, .slice (some ⟨f4, 0, none⟩) 1 1] 35 (0, 0))
  F1 : w.heap[f1]? = some (.cells #[.int .i64 1] 3 (0, 0))
  F2 : w.heap[f2]? = some (.cells #[.int .i64 1] 3 (0, 0))
  F3 : w.heap[f3]? = some (.cells #[.int .i64 1] 3 (0, 0))
  F4 : w.heap[f4]? = some (.cells #[.int .i64 0] 3 (0, 0))
  hr : lo ≤ r
  hg : lo ≤ g
  hp : g ≠ p2
  rng : ∀ b ∈ [o1, o2, p1, p2, p3, f1, f2, f3, f4], lo ≤ b
theorem GivAt.later {w w1 : World} {lo r g o1 o2 p1 p2 p3 f1 f2 f3 f4 : Nat} (h : GivAt w lo r g o1 o2 p1 p2 p3 f1 f2 f3 f4) (hb : Below w.heap.size w w1) : GivAt w1 lo r g o1 o2 p1 p2 p3 f1 f2 f3 f4 := by
  have k : ∀ {b : Nat} {o : Obj}, w.heap[b]? = some o → w1.heap[b]? = some o := fun hk => (hb.block _ (lt_of_block hk)).trans hk
  exact ⟨k h.R, k h.G, k h.O1, k h.O2, k h.P1, k h.P2, k h.P3, k h.F1, k h.F2, k h.F3, k h.F4, h.hr, h.hg, h.hp, h.rng⟩
theorem ints_one {w : World} {b : Nat} {x : Int} (h : w.heap[b]? = some (.cells #[.int .i64 x] 3 (0, 0))) : Ints w (.slice (some ⟨b, 0, none⟩) 1 1) [x] := by
  refine .some b 0 1 [x] (by simp) (lt_of_block h) fun i hi => ?_
  obtain rfl : i = 0 := by simpa using hi
  simp [World.cell?, h]
theorem fms_one {w : World} {b f : Nat} {c x : Int} (h : w.heap[b]? = some (.cells #[.int .i64 c, .slice (some ⟨f, 0, none⟩) 1 1] 35 (0, 0))) (hf : w.heap[f]? = some (.cells #[.int .i64 x] 3 (0, 0))) : Fms w (.slice (some ⟨b, 0, none⟩) 1 1) [⟨c, [x]⟩] := by
  refine .some b 0 1 [⟨c, [x]⟩] (by simp) (lt_of_block h) fun i hi => ?_
  obtain rfl : i = 0 := by simpa using hi
  exact ⟨by simp [World.cell?, h], .slice (some ⟨f, 0, none⟩) 1 1, by simp [World.cell?, h], ints_one hf⟩
theorem GivAt.out1 {w : World} {lo r g o1 o2 p1 p2 p3 f1 f2 f3 f4 : Nat} (h : GivAt w lo r g o1 o2 p1 p2 p3 f1 f2 f3 f4) : Shs w (.slice (some ⟨o1, 0, none⟩) 5 5) [⟨70, [⟨0, [1]⟩]⟩, ⟨91, []⟩, ⟨43, []⟩, ⟨65, [⟨-1, [1]⟩]⟩, ⟨93, []⟩] := by
  have hO := h.O1
  refine .some o1 0 5 [⟨70, [⟨0, [1]⟩]⟩, ⟨91, []⟩, ⟨43, []⟩, ⟨65, [⟨-1, [1]⟩]⟩, ⟨93, []⟩] (by simp) (lt_of_block hO) fun i hi => ?_
  have : i = 0 ∨ i = 1 ∨ i = 2 ∨ i = 3 ∨ i = 4 := by simp at hi; omega
  rcases this with rfl | rfl | rfl | rfl | rfl
  · exact ⟨by simp [World.cell?, hO], .slice (some ⟨p1, 0, none⟩) 1 1, by simp [World.cell?, hO], fms_one h.P1 h.F2⟩
  · exact ⟨by simp [World.cell?, hO], .slice none 0 0, by simp [World.cell?, hO], .none _ _⟩
  · exact ⟨by simp [World.cell?, hO], .slice none 0 0, by simp [World.cell?, hO], .none _ _⟩
  · exact ⟨by simp [World.cell?, hO], .slice (some ⟨p2, 0, none⟩) 1 1, by simp [World.cell?, hO], fms_one h.P2 h.F3⟩
  · exact ⟨by simp [World.cell?, hO], .slice none 0 0, by simp [World.cell?, hO], .none _ _⟩
theorem GivAt.out2 {w : World} {lo r g o1 o2 p1 p2 p3 f1 f2 f3 f4 : Nat} (h : GivAt w lo r g o1 o2 p1 p2 p3 f1 f2 f3 f4) : Shs w (.slice (some ⟨o2, 0, none⟩) 1 1) [⟨70, [⟨0, [0]⟩]⟩] := by
  have hO := h.O2
  refine .some o2 0 1 [⟨70, [⟨0, [0]⟩]⟩] (by simp) (lt_of_block hO) fun i hi => ?_
  obtain rfl : i = 0 := by simpa using hi
  exact ⟨by simp [World.cell?, hO], .slice (some ⟨p3, 0, none⟩) 1 1, by simp [World.cell?, hO], fms_one h.P3 h.F4⟩
theorem GivAt.rws {w : World} {lo r g o1 o2 p1 p2 p3 f1 f2 f3 f4 : Nat} (h : GivAt w lo r g o1 o2 p1 p2 p3 f1 f2 f3 f4) : Rws w (.slice (some ⟨r, 0, none⟩) 2 2) givR := by
  have hR := h.R
  unfold givC at hR
  refine .some r 0 2 givR (by decide) (lt_of_block hR) fun i hi => ?_
  have : i = 0 ∨ i = 1 := by
    have : i < 2 := hi
    omega
  rcases this with rfl | rfl
  · exact ⟨by simp [World.cell?, hR, givR], by simp [World.cell?, hR, givR], by simp [World.cell?, hR, givR], by simp [World.cell?, hR, givR], by simp [World.cell?, hR, givR], ⟨.slice (some ⟨g, 0, none⟩) 1 1, by simp [World.cell?, hR], fms_one h.G h.F1⟩, ⟨.slice (some ⟨o1, 0, none⟩) 5 5, by simp [World.cell?, hR], h.out1⟩⟩
  · exact ⟨by simp [World.cell?, hR, givR], by simp [World.cell?, hR, givR], by simp [World.cell?, hR, givR], by simp [World.cell?, hR, givR], by simp [World.cell?, hR, givR], ⟨.slice none 0 0, by simp [World.cell?, hR], .none _ _⟩, ⟨.slice (some ⟨o2, 0, none⟩) 1 1, by simp [World.cell?, hR], h.out2⟩⟩
/-- How given ends. -/
def GnEnd (w : World) (e : Ending) (w' : World) : Prop := ∃ r g o1 o2 p1 p2 p3 f1 f2 f3 f4, e = .returned (.slice (some ⟨r, 0, none⟩) 2 2) ∧ Below w.heap.size w w' ∧ GivAt w' w.heap.size r g o1 o2 p1 p2 p3 f1 f2 f3 f4
theorem blk_k {w w' : World} {b : Nat} {o : Obj} (h : w.heap[b]? = some o) (hb : Below w.heap.size w w') : w'.heap[b]? = some o := (hb.block _ (lt_of_block h)).trans h
set_option maxRecDepth 100000 in
set_option maxHeartbeats 1600000 in
theorem givn_any (w : World) : Calls Tryd.prog 5 #[] w (GnEnd w) := by
  have K := Lib.hid form_lit
  go_enter Tryd.func5, Tryd.ntmps5
  go_wp2_with fail
  refine (K.out (-1) 1 _).mono ?_
  rintro e w1 ⟨f1, rfl, hb, hf, hl⟩
  have B1 := Lib.hid hb
  have F1 := Lib.hid hf
  have L1 := Lib.hid hl
  clear hb hf hl
  go_wp2_with fail
  refine (K.out 0 1 _).mono ?_
  rintro e w2 ⟨f2, rfl, hb, hf, hl⟩
  have B2 := Lib.hid (B1.out.trans ((((Below.refl _ _).alloc (Nat.le_refl _) (.cells #[.int .i64 (-1), .slice (some ⟨f1, 0, none⟩) 1 1] 35)).trans (hb.mono (by simp))).mono B1.out.size))
  have F12 := Lib.hid (blk_k (heap_alloc_old F1.out (.cells #[.int .i64 (-1), .slice (some ⟨f1, 0, none⟩) 1 1] 35)) hb)
  have G2 := Lib.hid (blk_k (heap_alloc_new w1 (.cells #[.int .i64 (-1), .slice (some ⟨f1, 0, none⟩) 1 1] 35)) hb)
  have F2 := Lib.hid hf
  have L2 := Lib.hid hl
  clear hb hf hl
  go_wp2_with fail
  refine (K.out (-1) 1 _).mono ?_
  rintro e w3 ⟨f3, rfl, hb, hf, hl⟩
  have B3 := Lib.hid (B2.out.trans ((((Below.refl _ _).alloc (Nat.le_refl _) (.cells #[.int .i64 0, .slice (some ⟨f2, 0, none⟩) 1 1] 35)).trans (hb.mono (by simp))).mono B2.out.size))
  have F13 := Lib.hid (blk_k (heap_alloc_old F12.out (.cells #[.int .i64 0, .slice (some ⟨f2, 0, none⟩) 1 1] 35)) hb)
  have G3 := Lib.hid (blk_k (heap_alloc_old G2.out (.cells #[.int .i64 0, .slice (some ⟨f2, 0, none⟩) 1 1] 35)) hb)
  have F23 := Lib.hid (blk_k (heap_alloc_old F2.out (.cells #[.int .i64 0, .slice (some ⟨f2, 0, none⟩) 1 1] 35)) hb)
  have P13 := Lib.hid (blk_k (heap_alloc_new w2 (.cells #[.int .i64 0, .slice (some ⟨f2, 0, none⟩) 1 1] 35)) hb)
  have F3 := Lib.hid hf
  have L3 := Lib.hid hl
  clear hb hf hl
  go_wp2_with fail
  refine (K.out 0 0 _).mono ?_
  rintro e w4 ⟨f4, rfl, hb, hf, hl⟩
  have B4 := Lib.hid (B3.out.trans (((((Below.refl _ _).alloc (Nat.le_refl _) (.cells #[.int .i64 (-1), .slice (some ⟨f3, 0, none⟩) 1 1] 35)).alloc (by simp) (.cells #[.int .u8 70, .slice (some ⟨w2.heap.size, 0, none⟩) 1 1, .int .u8 91, .slice none 0 0, .int .u8 43, .slice none 0 0, .int .u8 65, .slice (some ⟨w3.heap.size, 0, none⟩) 1 1, .int .u8 93, .slice none 0 0] 33)).trans (hb.mono (by simp; omega))).mono B3.out.size))
  have old : ∀ {b : Nat} {o : Obj}, w3.heap[b]? = some o → w4.heap[b]? = some o := fun h => blk_k (heap_alloc_old (heap_alloc_old h (.cells #[.int .i64 (-1), .slice (some ⟨f3, 0, none⟩) 1 1] 35)) (.cells #[.int .u8 70, .slice (some ⟨w2.heap.size, 0, none⟩) 1 1, .int .u8 91, .slice none 0 0, .int .u8 43, .slice none 0 0, .int .u8 65, .slice (some ⟨w3.heap.size, 0, none⟩) 1 1, .int .u8 93, .slice none 0 0] 33)) hb
  have O1 := Lib.hid (blk_k (heap_alloc_new (w3.alloc (.cells #[.int .i64 (-1), .slice (some ⟨f3, 0, none⟩) 1 1] 35)) (.cells #[.int .u8 70, .slice (some ⟨w2.heap.size, 0, none⟩) 1 1, .int .u8 91, .slice none 0 0, .int .u8 43, .slice none 0 0, .int .u8 65, .slice (some ⟨w3.heap.size, 0, none⟩) 1 1, .int .u8 93, .slice none 0 0] 33)) hb)
  have P2 := Lib.hid (blk_k (heap_alloc_old (heap_alloc_new w3 (.cells #[.int .i64 (-1), .slice (some ⟨f3, 0, none⟩) 1 1] 35)) (.cells #[.int .u8 70, .slice (some ⟨w2.heap.size, 0, none⟩) 1 1, .int .u8 91, .slice none 0 0, .int .u8 43, .slice none 0 0, .int .u8 65, .slice (some ⟨w3.heap.size, 0, none⟩) 1 1, .int .u8 93, .slice none 0 0] 33)) hb)
  have old4 : ∀ {b : Nat} {o : Obj}, w4.heap[b]? = some o → (((w4.alloc (.cells #[.int .i64 0, .slice (some ⟨f4, 0, none⟩) 1 1] 35)).alloc (.cells #[.int .u8 70, .slice (some ⟨w4.heap.size, 0, none⟩) 1 1] 33)).alloc (.cells (givC w1.heap.size (w3.heap.size + 1) (w4.heap.size + 1)) 31)).heap[b]? = some o := fun h => heap_alloc_old (heap_alloc_old (heap_alloc_old h (.cells #[.int .i64 0, .slice (some ⟨f4, 0, none⟩) 1 1] 35)) (.cells #[.int .u8 70, .slice (some ⟨w4.heap.size, 0, none⟩) 1 1] 33)) (.cells (givC w1.heap.size (w3.heap.size + 1) (w4.heap.size + 1)) 31)
  have O2 := heap_alloc_old (heap_alloc_new (w4.alloc (.cells #[.int .i64 0, .slice (some ⟨f4, 0, none⟩) 1 1] 35)) (.cells #[.int .u8 70, .slice (some ⟨w4.heap.size, 0, none⟩) 1 1] 33)) (.cells (givC w1.heap.size (w3.heap.size + 1) (w4.heap.size + 1)) 31)
  have P3 := heap_alloc_old (heap_alloc_old (heap_alloc_new w4 (.cells #[.int .i64 0, .slice (some ⟨f4, 0, none⟩) 1 1] 35)) (.cells #[.int .u8 70, .slice (some ⟨w4.heap.size, 0, none⟩) 1 1] 33)) (.cells (givC w1.heap.size (w3.heap.size + 1) (w4.heap.size + 1)) 31)
  have RR' := heap_alloc_new ((w4.alloc (.cells #[.int .i64 0, .slice (some ⟨f4, 0, none⟩) 1 1] 35)).alloc (.cells #[.int .u8 70, .slice (some ⟨w4.heap.size, 0, none⟩) 1 1] 33)) (.cells (givC w1.heap.size (w3.heap.size + 1) (w4.heap.size + 1)) 31)
  rw [World.size_alloc] at O2 O1
  rw [World.size_alloc, World.size_alloc] at RR'
  have hb1 := B1.out.size
  have hb2 := B2.out.size
  have hb3 := B3.out.size
  have hb4 := B4.out.size
  have w1s : w.heap.size ≤ w1.heap.size := hb1
  have hl1 := L1.out
  have hl2 := L2.out
  have hl3 := L3.out
  have hl4 := hl
  simp only [World.size_alloc] at hl2 hl3 hl4
  have hk2 : w1.heap.size < w2.heap.size := lt_of_block G2.out
  have hk3 : w2.heap.size < w3.heap.size := lt_of_block P13.out
  have HE : Hid (GnEnd w (.returned (.slice (some ⟨w4.heap.size + 1 + 1, 0, none⟩) 2 2)) (((w4.alloc (.cells #[.int .i64 0, .slice (some ⟨f4, 0, none⟩) 1 1] 35)).alloc (.cells #[.int .u8 70, .slice (some ⟨w4.heap.size, 0, none⟩) 1 1] 33)).alloc (.cells (givC w1.heap.size (w3.heap.size + 1) (w4.heap.size + 1)) 31))) := Lib.hid
    ⟨_, w1.heap.size, w3.heap.size + 1, w4.heap.size + 1, w2.heap.size, w3.heap.size, w4.heap.size, f1, f2, f3, f4, rfl, B4.out.trans (((((Below.refl _ _).alloc (Nat.le_refl _) _).alloc (by simp) _).alloc (by simp; omega) _).mono B4.out.size),
      RR', old4 (old G3.out), old4 O1.out, O2, old4 (old P13.out), old4 P2.out, P3, old4 (old F13.out), old4 (old F23.out), old4 (old F3.out), old4 hf, by omega, by omega, by omega, by
      intro b hb
      simp only [List.mem_cons, List.not_mem_nil, or_false] at hb
      rcases hb with rfl | rfl | rfl | rfl | rfl | rfl | rfl | rfl | rfl <;> omega⟩
  clear hb hf hl old old4 O2 P3 RR'
  go_wp2_with fail
  go_ret
  exact HE.out
end Go.Proofs.YtlmofdmbcddddaaDoor
namespace Go.Proofs.YtlmofdmbcddddaaDoor
open Go.RowKit
open WM RM
set_option linter.unusedVariables false
set_option linter.unusedSimpArgs false

theorem rb_let {r : Rw} (h : letB r.c = false) : ruleB r = false := by unfold ruleB; rw [h]; simp
theorem rb_bra {r : Rw} (h : braB r.c = true) : ruleB r = false := by unfold ruleB; rw [h]; simp
theorem rb_lo {r : Rw} (h : r.ar < 0) : ruleB r = false := by unfold ruleB; rw [decide_eq_false (by omega : ¬ 0 ≤ r.ar)]; simp
theorem rb_hi {r : Rw} (h : 4 < r.ar) : ruleB r = false := by unfold ruleB; rw [decide_eq_false (by omega : ¬ r.ar ≤ 4)]; simp
theorem rb_gs {r : Rw} {k : Nat} (hk : k < r.gs.length) (h : formB r.gs[k] r.ar = false) : ruleB r = false := by
  have : r.gs.all (formB · r.ar) = false := by rw [List.all_eq_false]; exact ⟨_, List.getElem_mem hk, by rw [h]; simp⟩
  unfold ruleB; rw [this]; simp
theorem rb_out {r : Rw} {k : Nat} (hk : k < r.out.length) (h : shB r.out[k] r.ar = false) : ruleB r = false := by
  have : r.out.all (shB · r.ar) = false := by rw [List.all_eq_false]; exact ⟨_, List.getElem_mem hk, by rw [h]; simp⟩
  unfold ruleB; rw [this]; simp
theorem rb_chk {r : Rw} {b : Bool} (h1 : letB r.c = true) (h2 : braB r.c = false) (h3 : ¬ r.ar < 0) (h4 : ¬ 4 < r.ar) (h5 : ∀ k, (hk : k < r.gs.length) → formB r.gs[k] r.ar = true) (h6 : ∀ k, (hk : k < r.out.length) → shB r.out[k] r.ar = true) (h7 : decide (chk (r.out.map shM) = 0) = b) : ruleB r = b := by
  have a1 : r.gs.all (formB · r.ar) = true := by
    rw [List.all_eq_true]; intro x hx
    obtain ⟨j, hj, rfl⟩ := List.mem_iff_getElem.1 hx
    exact h5 j hj
  have a2 : r.out.all (shB · r.ar) = true := by
    rw [List.all_eq_true]; intro x hx
    obtain ⟨j, hj, rfl⟩ := List.mem_iff_getElem.1 hx
    exact h6 j hj
  unfold ruleB
  rw [h1, h2, a1, a2, h7, decide_eq_true (by omega : 0 ≤ r.ar), decide_eq_true (by omega : r.ar ≤ 4)]
  simp
theorem sh_no1 {s : Sh} {n : Int} (h : fineB (shM s) = false) : shB s n = false := by unfold shB; rw [h]; rfl
theorem sh_no2 {s : Sh} {n : Int} {k : Nat} (hk : k < s.a.length) (h : formB s.a[k] n = false) : shB s n = false := by
  have : s.a.all (formB · n) = false := by rw [List.all_eq_false]; exact ⟨_, List.getElem_mem hk, by rw [h]; simp⟩
  unfold shB; rw [this]; simp
theorem sh_yes {s : Sh} {n : Int} (h : fineB (shM s) = true) (h2 : ∀ k, (hk : k < s.a.length) → formB s.a[k] n = true) : shB s n = true := by
  have : s.a.all (formB · n) = true := by
    rw [List.all_eq_true]; intro x hx
    obtain ⟨j, hj, rfl⟩ := List.mem_iff_getElem.1 hx
    exact h2 j hj
  unfold shB; rw [h, this]; rfl
/-- Where the loop over Out stands. -/
structure FrAt (w0 : World) (out : List Sh) (ar : Int) (k : Nat) (v : Value) (wr : World) : Prop where
  hi : k ≤ out.length
  below : Below w0.heap.size w0 wr
  own : ∃ vs, ModFr wr w0.heap.size v ((out.take k).map shM) vs
  good : ∀ j, (h : j < out.length) → j < k → shB out[j] ar = true
/-- A module in a new block, and its args in another. -/
structure TwoBl (W1 W2 : World) (mb ib : Nat) (s : Sh) : Prop where
  below : Below W1.heap.size W1 W2
  mod : W2.heap[mb]? = some (.cells #[.int .u8 s.c.toNat, .slice (some ⟨ib, 0, none⟩) s.a.length s.a.length] 25 (0, 0))
  own : W2.ownsRow W1.heap.size 3 1 (.slice (some ⟨ib, 0, none⟩) s.a.length s.a.length) (shM s).a.length (valsL (shM s).a)
theorem zero_own (w : World) (n base : Nat) (hn : n ≤ 10) (hb : base ≤ w.heap.size) : (w.alloc (.cells (zeros n) 3)).ownsRow base 3 1 (.slice (some ⟨w.heap.size, 0, none⟩) n n) n (valsL (List.replicate n 0)) := by
  have h := World.ownsRow_lit (base := base) (e := 3) (size := 1) w (zeros n) n hb (by have : maxLen = 9223372036854775807 := rfl; omega) (by rw [zeros_size, Nat.mul_one])
  have e : (zeros n).toList = valsL (List.replicate n 0) := by
    apply List.ext_getElem
    · simp [zeros_size, valsL]
    · intro i h1 h2
      have h3 : i < n := by simpa [zeros_size] using h1
      have := zeros_at h3
      rw [Array.getElem?_eq_some_iff] at this
      obtain ⟨_, h4⟩ := this
      simp [valsL, h4]
  rw [e] at h; exact h
theorem twoBl_a (W1 : World) (s : Sh) (h : s.a.length ≤ 10) : TwoBl W1 ((W1.alloc (.cells (zeros s.a.length) 3)).alloc (.cells #[.int .u8 s.c.toNat, .slice (some ⟨W1.heap.size, 0, none⟩) s.a.length s.a.length] 25)).drew (W1.heap.size + 1) W1.heap.size s := by
  refine ⟨(((Below.refl _ _).alloc (Nat.le_refl _) _).alloc (by simp) _).drew, ?_, ?_⟩
  · have := heap_alloc_new (W1.alloc (.cells (zeros s.a.length) 3)) (.cells #[.int .u8 s.c.toNat, .slice (some ⟨W1.heap.size, 0, none⟩) s.a.length s.a.length] 25)
    rw [World.size_alloc] at this
    exact this
  · have h2 := (zero_own W1 s.a.length W1.heap.size h (Nat.le_refl _)).alloc (.cells #[.int .u8 s.c.toNat, .slice (some ⟨W1.heap.size, 0, none⟩) s.a.length s.a.length] 25)
    have e : (shM s).a.length = s.a.length := by simp [shM]
    rw [e]; exact h2
theorem twoBl_b (W1 : World) (s : Sh) (h : s.a.length ≤ 10) : TwoBl W1 ((W1.alloc (.cells #[.int .u8 s.c.toNat, .slice (some ⟨W1.heap.size + 1, 0, none⟩) s.a.length s.a.length] 25)).alloc (.cells (zeros s.a.length) 3)).drew W1.heap.size (W1.heap.size + 1) s := by
  refine ⟨(((Below.refl _ _).alloc (Nat.le_refl _) _).alloc (by simp) _).drew, ?_, ?_⟩
  · exact heap_alloc_old (heap_alloc_new W1 _) _
  · have h2 := zero_own (W1.alloc (.cells #[.int .u8 s.c.toNat, .slice (some ⟨W1.heap.size + 1, 0, none⟩) s.a.length s.a.length] 25)) s.a.length W1.heap.size h (by simp)
    have e : (shM s).a.length = s.a.length := by simp [shM]
    rw [e]
    rw [World.size_alloc] at h2
    exact h2
theorem u8_91 (c : UInt8) : ((c.toNat : Int) == 91) = (c == 91) := by rw [show (91 : Int) = ((91 : UInt8).toNat : Int) from rfl, u8_eq]
theorem u8_93 (c : UInt8) : ((c.toNat : Int) == 93) = (c == 93) := by rw [show (93 : Int) = ((93 : UInt8).toNat : Int) from rfl, u8_eq]
end Go.Proofs.YtlmofdmbcddddaaDoor
namespace Go.Proofs.YtlmofdmbcddddaaDoor
open Go.RowKit
open WM RM
set_option linter.unusedVariables false
set_option linter.unusedSimpArgs false

theorem giv_sm : ∀ r ∈ givR, RwSm r := by
  intro r hr
  have : r = givR[0] ∨ r = givR[1] := by simpa [givR] using hr
  rcases this with rfl | rfl
  · refine ⟨by decide, by decide, ?_, ?_⟩
    · intro f hf
      have : ∀ f ∈ givR[0].gs, f.cs.length ≤ 10 := by decide
      exact this f hf
    · intro s hs
      have h1 : ∀ s ∈ givR[0].out, s.a.length ≤ 10 := by decide
      have h2 : ∀ s ∈ givR[0].out, ∀ f ∈ s.a, f.cs.length ≤ 10 := by decide
      exact ⟨h1 s hs, h2 s hs⟩
  · refine ⟨by decide, by decide, ?_, ?_⟩
    · intro f hf
      have : ∀ f ∈ givR[1].gs, f.cs.length ≤ 10 := by decide
      exact this f hf
    · intro s hs
      have h1 : ∀ s ∈ givR[1].out, s.a.length ≤ 10 := by decide
      have h2 : ∀ s ∈ givR[1].out, ∀ f ∈ s.a, f.cs.length ≤ 10 := by decide
      exact ⟨h1 s hs, h2 s hs⟩
set_option maxRecDepth 100000 in
set_option maxHeartbeats 1600000 in
theorem becomes_any (s t : ByteArray) (n : Int) (u d : List Md) (hs : s.size ≤ 1000) (hu : u.length ≤ 1000) (hua : ∀ m ∈ u, m.a.length ≤ 1000) (hd : d.length ≤ 1000) (hda : ∀ m ∈ d, m.a.length ≤ 1000) (h1 : pC (lA s) = 0 ∧ pL (lA s) = u) (h2 : ruC givR u n = 0 ∧ ruL givR u n = d) (h3 : tC d = 0 ∧ tS d = lA t) (w : World) (he : Env w) :
    Calls Tryd.prog 20 #[.string s, .int .i64 n, .string t] w fun e w' => e = .returned (.bool true) ∧ Below w.heap.size w w' := by
  have HE := Lib.hid he
  have KP := Lib.hid (fun w he => pparse_any s (by omega) w he)
  unfold PsEnd at KP
  rw [h1.1, h1.2] at KP
  have KG := Lib.hid givn_any
  have KR := Lib.hid (fun v wv w hv hw hn => prun_any v givR (by decide) giv_sm wv u (by omega) (fun m hm => by have := hua m hm; omega) n w hv hw hn)
  unfold PuEnd at KR
  rw [h2.1, h2.2] at KR
  have KT := Lib.hid (fun v w hv he => ptext_any v d (by omega) (fun m hm => by have := hda m hm; omega) w hv he)
  rw [h3.1, h3.2, bA_lA] at KT
  clear he h1 h2 h3
  go_enter Tryd.func20, Tryd.ntmps20
  go_wp2_with fail
  refine (KP.out _ HE.out).mono ?_
  rintro e w1 ⟨v1, vs1, rfl, hb, hm⟩
  have B1 := Lib.hid hb
  have M1 := Lib.hid hm
  obtain ⟨p1, c1, rfl⟩ := hm.mods.slice
  clear hb hm
  go_wp2_with fail
  refine (KG.out _).mono ?_
  rintro e w2 ⟨r, g, o1, o2, q1, q2, q3, f1, f2, f3, f4, rfl, hb, hG⟩
  have C2 := Lib.hid hb
  have B2 := Lib.hid (B1.out.trans (hb.mono B1.out.size))
  have R2 := Lib.hid hG.rws
  clear hb hG
  go_wp2_with fail
  refine (KR.out _ _ _ R2.out (M1.out.later C2.out).mods (M1.out.later C2.out).nilOr).mono ?_
  rintro e w3 ⟨v3, vs3, rfl, hb, hm⟩
  have B3 := Lib.hid (B2.out.trans (hb.mono B2.out.size))
  have M3 := Lib.hid hm
  obtain ⟨p3, c3, rfl⟩ := hm.mods.slice
  clear hb hm
  go_wp2_with fail
  refine (KT.out _ _ M3.out.mods (HE.out.later B3.out)).mono ?_
  rintro e w4 ⟨rfl, hb⟩
  have B4 := Lib.hid (B3.out.trans (hb.mono B3.out.size))
  clear hb
  go_wp2_with fail
  go_ret
  exact ⟨rfl, B4.out⟩
def ex0 : List Md := [⟨65, [2]⟩]
def ex1 : List Md := [⟨70, [2]⟩, ⟨91, []⟩, ⟨43, []⟩, ⟨65, [1]⟩, ⟨93, []⟩]
def ex2 : List Md := [⟨70, [2]⟩, ⟨91, []⟩, ⟨43, []⟩, ⟨70, [1]⟩, ⟨91, []⟩, ⟨43, []⟩, ⟨65, [0]⟩, ⟨93, []⟩, ⟨93, []⟩]
def ex3 : List Md := [⟨70, [2]⟩, ⟨91, []⟩, ⟨43, []⟩, ⟨70, [1]⟩, ⟨91, []⟩, ⟨43, []⟩, ⟨70, [0]⟩, ⟨93, []⟩, ⟨93, []⟩]
def exT0 : Bs := [65, 40, 50, 41]
def exT1 : Bs := [70, 40, 50, 41, 91, 43, 65, 40, 49, 41, 93]
def exT2 : Bs := [70, 40, 50, 41, 91, 43, 70, 40, 49, 41, 91, 43, 65, 40, 48, 41, 93, 93]
def exT3 : Bs := [70, 40, 50, 41, 91, 43, 70, 40, 49, 41, 91, 43, 70, 40, 48, 41, 93, 93]
theorem ex_prs : prs exT0 = some ex0 ∧ prs exT1 = some ex1 ∧ prs exT2 = some ex2 ∧ prs exT3 = some ex3 := by decide +kernel
theorem ex_text {s : Bs} {u : List Md} (h : prs s = some u) (hl : s.length ≤ 1000) : tC u = 0 ∧ tS u = s := by
  obtain ⟨h1, h2⟩ := prs_iff.1 h
  have := tC_yes h1 (by rw [h2]; omega)
  rwa [h2] at this
theorem ex_run : (ruC givR ex0 1 = 0 ∧ ruL givR ex0 1 = ex1) ∧ (ruC givR ex0 2 = 0 ∧ ruL givR ex0 2 = ex2) ∧ (ruC givR ex0 3 = 0 ∧ ruL givR ex0 3 = ex3) ∧ (ruC givR ex0 9 = 0 ∧ ruL givR ex0 9 = ex3) := by decide +kernel
theorem ex_small : (∀ m ∈ ex0, m.a.length ≤ 1000) ∧ (∀ m ∈ ex1, m.a.length ≤ 1000) ∧ (∀ m ∈ ex2, m.a.length ≤ 1000) ∧ (∀ m ∈ ex3, m.a.length ≤ 1000) := by decide
set_option maxRecDepth 100000 in
set_option maxHeartbeats 1600000 in
theorem alive_any (w : World) (he : Env w) : Calls Tryd.prog 11 #[] w fun e w' => e = .returned (.bool true) ∧ Below w.heap.size w w' := by
  have HE := Lib.hid he
  obtain ⟨p0, p1, p2, p3⟩ := ex_prs
  obtain ⟨r1, r2, r3, r9⟩ := ex_run
  obtain ⟨s0, s1, s2, s3⟩ := ex_small
  have hp : pC (lA ⟨#[65, 40, 50, 41]⟩) = 0 ∧ pL (lA ⟨#[65, 40, 50, 41]⟩) = ex0 := pC_some (s := exT0) (by decide) p0
  have K1 := Lib.hid (fun w he => becomes_any ⟨#[65, 40, 50, 41]⟩ ⟨#[70, 40, 50, 41, 91, 43, 65, 40, 49, 41, 93]⟩ 1 ex0 ex1 (by decide) (by decide) s0 (by decide) s1 hp r1 (ex_text p1 (by decide)) w he)
  have K2 := Lib.hid (fun w he => becomes_any ⟨#[65, 40, 50, 41]⟩ ⟨#[70, 40, 50, 41, 91, 43, 70, 40, 49, 41, 91, 43, 65, 40, 48, 41, 93, 93]⟩ 2 ex0 ex2 (by decide) (by decide) s0 (by decide) s2 hp r2 (ex_text p2 (by decide)) w he)
  have K3 := Lib.hid (fun w he => becomes_any ⟨#[65, 40, 50, 41]⟩ ⟨#[70, 40, 50, 41, 91, 43, 70, 40, 49, 41, 91, 43, 70, 40, 48, 41, 93, 93]⟩ 3 ex0 ex3 (by decide) (by decide) s0 (by decide) s3 hp r3 (ex_text p3 (by decide)) w he)
  have K4 := Lib.hid (fun w he => becomes_any ⟨#[65, 40, 50, 41]⟩ ⟨#[70, 40, 50, 41, 91, 43, 70, 40, 49, 41, 91, 43, 70, 40, 48, 41, 93, 93]⟩ 9 ex0 ex3 (by decide) (by decide) s0 (by decide) s3 hp r9 (ex_text p3 (by decide)) w he)
  clear p0 p1 p2 p3 r1 r2 r3 r9 s0 s1 s2 s3 hp he
  go_enter Tryd.func11, Tryd.ntmps11
  go_wp2_with fail
  refine (K1.out _ HE.out).mono ?_
  rintro e w1 ⟨rfl, hb⟩
  have B1 := Lib.hid hb
  clear hb
  go_wp2_with fail
  refine (K2.out _ (HE.out.later B1.out)).mono ?_
  rintro e w2 ⟨rfl, hb⟩
  have B2 := Lib.hid (B1.out.trans (hb.mono B1.out.size))
  clear hb
  go_wp2_with fail
  refine (K3.out _ (HE.out.later B2.out)).mono ?_
  rintro e w3 ⟨rfl, hb⟩
  have B3 := Lib.hid (B2.out.trans (hb.mono B2.out.size))
  clear hb
  go_wp2_with fail
  refine (K4.out _ (HE.out.later B3.out)).mono ?_
  rintro e w4 ⟨rfl, hb⟩
  have B4 := Lib.hid (B3.out.trans (hb.mono B3.out.size))
  clear hb
  go_wp2_with fail
  go_ret
  exact ⟨rfl, B4.out⟩
/-! ### valid -/
def lawB (l : List Rw) (u : List Md) : Bool := !(greatR l) && decide (rchk l = 0) && !(greatB u) && decide (chk u = 0)
theorem lawB_iff {l : List Rw} {u : List Md} : lawB l u = true ↔ greatR l = false ∧ rchk l = 0 ∧ greatB u = false ∧ chk u = 0 := by
  unfold lawB
  simp only [Bool.and_eq_true, Bool.not_eq_true', decide_eq_true_eq]
  constructor
  · rintro ⟨⟨⟨a, b⟩, c⟩, d⟩; exact ⟨a, b, c, d⟩
  · rintro ⟨a, b, c, d⟩; exact ⟨⟨⟨a, b⟩, c⟩, d⟩
end Go.Proofs.YtlmofdmbcddddaaDoor
namespace Go.Proofs.YtlmofdmbcddddaaDoor
open Go.RowKit
open WM RM
set_option linter.unusedVariables false
set_option linter.unusedSimpArgs false

theorem heap_set {w : World} {b j : Nat} {x : Value} {cs : Array Value} {t : TypeId} (h : w.heap[b]? = some (.cells cs t (0, 0))) : (w.setCell ⟨b, j, none⟩ x).heap[b]? = some (.cells (cs.setIfInBounds j x) t (0, 0)) := by
  simp only [World.setCell, Array.getElem?_modify, if_true, h]; rfl
theorem heap_keep {w : World} {b j k : Nat} {x : Value} {o : Option Obj} (hk : k ≠ b) (h : w.heap[k]? = o) : (w.setCell ⟨b, j, none⟩ x).heap[k]? = o := (Below.heap_setCell _ _ _ _ (by simpa using hk)).trans h
/-- The examples' rules in memory; cs: the row's cells; gc: the guard's number. -/
structure GivM (w : World) (lo hi r g o1 o2 p1 p2 p3 f1 f2 f3 f4 : Nat) (cs : Array Value) (gc : Int) : Prop where
  R : w.heap[r]? = some (.cells cs 31 (0, 0))
  G : w.heap[g]? = some (.cells #[.int .i64 gc, .slice (some ⟨f1, 0, none⟩) 1 1] 35 (0, 0))
  O1 : w.heap[o1]? = some (.cells #[.int .u8 70, .slice (some ⟨p1, 0, none⟩) 1 1, .int .u8 91, .slice none 0 0, .int .u8 43, .slice none 0 0, .int .u8 65, .slice (some ⟨p2, 0, none⟩) 1 1, .int .u8 93, .slice none 0 0] 33 (0, 0))
  O2 : w.heap[o2]? = some (.cells #[.int .u8 70, .slice (some ⟨p3, 0, none⟩) 1 1] 33 (0, 0))
  P1 : w.heap[p1]? = some (.cells #[.int .i64 0, .slice (some ⟨f2, 0, none⟩) 1 1] 35 (0, 0))
  P2 : w.heap[p2]? = some (.cells #[.int .i64 (-1), .slice (some ⟨f3, 0, none⟩) 1 1] 35 (0, 0))
  P3 : w.heap[p3]? = some (.cells #[.int .i64 0, .slice (some ⟨f4, 0, none⟩) 1 1] 35 (0, 0))
  F1 : w.heap[f1]? = some (.cells #[.int .i64 1] 3 (0, 0))
  F2 : w.heap[f2]? = some (.cells #[.int .i64 1] 3 (0, 0))
  F3 : w.heap[f3]? = some (.cells #[.int .i64 1] 3 (0, 0))
  F4 : w.heap[f4]? = some (.cells #[.int .i64 0] 3 (0, 0))
  rng : ∀ b ∈ [r, g, o1, o2, p1, p2, p3, f1, f2, f3, f4], lo ≤ b ∧ b < hi
  nr : ∀ b ∈ [g, o1, o2, p1, p2, p3, f1, f2, f3, f4], b ≠ r
  ng : ∀ b ∈ [r, o1, o2, p1, p2, p3, f1, f2, f3, f4], b ≠ g
theorem GivAt.mov {w : World} {lo r g o1 o2 p1 p2 p3 f1 f2 f3 f4 : Nat} (h : GivAt w lo r g o1 o2 p1 p2 p3 f1 f2 f3 f4) : GivM w lo w.heap.size r g o1 o2 p1 p2 p3 f1 f2 f3 f4 (givC g o1 o2) (-1) := by
  have key : ∀ {b c : Nat} {x y : Array Value} {t s : TypeId}, w.heap[b]? = some (.cells x t (0, 0)) → w.heap[c]? = some (.cells y s (0, 0)) → (t = s → x = y → False) → b ≠ c := by
    intro b c x y t s h1 h2 h3 e
    subst e
    rw [h1] at h2
    simp only [Option.some.injEq, Obj.cells.injEq] at h2
    exact h3 h2.2.1 h2.1
  refine ⟨h.R, h.G, h.O1, h.O2, h.P1, h.P2, h.P3, h.F1, h.F2, h.F3, h.F4, ?_, ?_, ?_⟩
  · intro b hb
    have h1 := lt_of_block h.R
    have h2 := lt_of_block h.G
    have h3 := lt_of_block h.O1
    have h4 := lt_of_block h.O2
    have h5 := lt_of_block h.P1
    have h6 := lt_of_block h.P2
    have h7 := lt_of_block h.P3
    have h8 := lt_of_block h.F1
    have h9 := lt_of_block h.F2
    have ha := lt_of_block h.F3
    have hc := lt_of_block h.F4
    have r1 := h.hr
    have r2 := h.hg
    have r3 := h.rng
    simp only [List.mem_cons, List.not_mem_nil, or_false] at hb
    rcases hb with rfl | rfl | hb
    · exact ⟨r1, h1⟩
    · exact ⟨r2, h2⟩
    · refine ⟨r3 b (by simpa using hb), ?_⟩
      rcases hb with rfl | rfl | rfl | rfl | rfl | rfl | rfl | rfl | rfl <;> assumption
  · intro b hb
    simp only [List.mem_cons, List.not_mem_nil, or_false] at hb
    rcases hb with rfl | rfl | rfl | rfl | rfl | rfl | rfl | rfl | rfl | rfl
    · exact key h.G h.R (fun e _ => by revert e; decide)
    · exact key h.O1 h.R (fun e _ => by revert e; decide)
    · exact key h.O2 h.R (fun e _ => by revert e; decide)
    · exact key h.P1 h.R (fun e _ => by revert e; decide)
    · exact key h.P2 h.R (fun e _ => by revert e; decide)
    · exact key h.P3 h.R (fun e _ => by revert e; decide)
    · exact key h.F1 h.R (fun e _ => by revert e; decide)
    · exact key h.F2 h.R (fun e _ => by revert e; decide)
    · exact key h.F3 h.R (fun e _ => by revert e; decide)
    · exact key h.F4 h.R (fun e _ => by revert e; decide)
  · intro b hb
    simp only [List.mem_cons, List.not_mem_nil, or_false] at hb
    rcases hb with rfl | rfl | rfl | rfl | rfl | rfl | rfl | rfl | rfl | rfl
    · exact key h.R h.G (fun e _ => by revert e; decide)
    · exact key h.O1 h.G (fun e _ => by revert e; decide)
    · exact key h.O2 h.G (fun e _ => by revert e; decide)
    · exact key h.P1 h.G (fun _ e => by simp at e)
    · exact fun e => h.hp e.symm
    · exact key h.P3 h.G (fun _ e => by simp at e)
    · exact key h.F1 h.G (fun e _ => by revert e; decide)
    · exact key h.F2 h.G (fun e _ => by revert e; decide)
    · exact key h.F3 h.G (fun e _ => by revert e; decide)
    · exact key h.F4 h.G (fun e _ => by revert e; decide)
theorem GivM.same {w w1 : World} {lo hi r g o1 o2 p1 p2 p3 f1 f2 f3 f4 : Nat} {cs : Array Value} {gc : Int} (h : GivM w lo hi r g o1 o2 p1 p2 p3 f1 f2 f3 f4 cs gc) (k : ∀ {b : Nat} {o : Obj}, lo ≤ b → b < hi → w.heap[b]? = some o → w1.heap[b]? = some o) : GivM w1 lo hi r g o1 o2 p1 p2 p3 f1 f2 f3 f4 cs gc := by
  have q := h.rng
  simp only [List.mem_cons, List.not_mem_nil, or_false, forall_eq_or_imp, forall_eq] at q
  obtain ⟨q0, q1, q2, q3, q4, q5, q6, q7, q8, q9, qa⟩ := q
  exact ⟨k q0.1 q0.2 h.R, k q1.1 q1.2 h.G, k q2.1 q2.2 h.O1, k q3.1 q3.2 h.O2, k q4.1 q4.2 h.P1, k q5.1 q5.2 h.P2, k q6.1 q6.2 h.P3, k q7.1 q7.2 h.F1, k q8.1 q8.2 h.F2, k q9.1 q9.2 h.F3, k qa.1 qa.2 h.F4, h.rng, h.nr, h.ng⟩
theorem GivM.later {w w1 : World} {lo hi r g o1 o2 p1 p2 p3 f1 f2 f3 f4 : Nat} {cs : Array Value} {gc : Int} (h : GivM w lo hi r g o1 o2 p1 p2 p3 f1 f2 f3 f4 cs gc) (hb : Below w.heap.size w w1) : GivM w1 lo hi r g o1 o2 p1 p2 p3 f1 f2 f3 f4 cs gc := h.same fun _ _ hk => blk_k hk hb
theorem GivM.keep {w : World} {lo hi r g o1 o2 p1 p2 p3 f1 f2 f3 f4 : Nat} {cs : Array Value} {gc : Int} (h : GivM w lo hi r g o1 o2 p1 p2 p3 f1 f2 f3 f4 cs gc) (s j : Nat) (x : Value) (hs : s < lo ∨ hi ≤ s) : GivM (w.setCell ⟨s, j, none⟩ x) lo hi r g o1 o2 p1 p2 p3 f1 f2 f3 f4 cs gc := h.same fun h1 h2 hk => heap_keep (by omega) hk
theorem GivM.row {w : World} {lo hi r g o1 o2 p1 p2 p3 f1 f2 f3 f4 : Nat} {cs : Array Value} {gc : Int} (h : GivM w lo hi r g o1 o2 p1 p2 p3 f1 f2 f3 f4 cs gc) (j : Nat) (x : Value) : GivM (w.setCell ⟨r, j, none⟩ x) lo hi r g o1 o2 p1 p2 p3 f1 f2 f3 f4 (cs.setIfInBounds j x) gc := by
  have q := h.nr
  simp only [List.mem_cons, List.not_mem_nil, or_false, forall_eq_or_imp, forall_eq] at q
  obtain ⟨q1, q2, q3, q4, q5, q6, q7, q8, q9, qa⟩ := q
  exact ⟨heap_set h.R, heap_keep q1 h.G, heap_keep q2 h.O1, heap_keep q3 h.O2, heap_keep q4 h.P1, heap_keep q5 h.P2, heap_keep q6 h.P3, heap_keep q7 h.F1, heap_keep q8 h.F2, heap_keep q9 h.F3, heap_keep qa h.F4, h.rng, h.nr, h.ng⟩
theorem GivM.grd {w : World} {lo hi r g o1 o2 p1 p2 p3 f1 f2 f3 f4 : Nat} {cs : Array Value} {gc : Int} (h : GivM w lo hi r g o1 o2 p1 p2 p3 f1 f2 f3 f4 cs gc) (x : Int) : GivM (w.setCell ⟨g, 0, none⟩ (.int .i64 x)) lo hi r g o1 o2 p1 p2 p3 f1 f2 f3 f4 cs x := by
  have q := h.ng
  simp only [List.mem_cons, List.not_mem_nil, or_false, forall_eq_or_imp, forall_eq] at q
  obtain ⟨q1, q2, q3, q4, q5, q6, q7, q8, q9, qa⟩ := q
  refine ⟨heap_keep q1 h.R, ?_, heap_keep q2 h.O1, heap_keep q3 h.O2, heap_keep q4 h.P1, heap_keep q5 h.P2, heap_keep q6 h.P3, heap_keep q7 h.F1, heap_keep q8 h.F2, heap_keep q9 h.F3, heap_keep qa h.F4, h.rng, h.nr, h.ng⟩
  have := heap_set (j := 0) (x := .int .i64 x) h.G
  simpa using this
theorem GivM.rr {w : World} {lo hi r g o1 o2 p1 p2 p3 f1 f2 f3 f4 : Nat} {cs : Array Value} {gc : Int} (h : GivM w lo hi r g o1 o2 p1 p2 p3 f1 f2 f3 f4 cs gc) : lo ≤ r ∧ r < hi := h.rng r (by simp)
theorem GivM.gg {w : World} {lo hi r g o1 o2 p1 p2 p3 f1 f2 f3 f4 : Nat} {cs : Array Value} {gc : Int} (h : GivM w lo hi r g o1 o2 p1 p2 p3 f1 f2 f3 f4 cs gc) : lo ≤ g ∧ g < hi := h.rng g (by simp)
theorem GivM.cell {w : World} {lo hi r g o1 o2 p1 p2 p3 f1 f2 f3 f4 : Nat} {cs : Array Value} {gc : Int} (h : GivM w lo hi r g o1 o2 p1 p2 p3 f1 f2 f3 f4 cs gc) (j : Nat) (x : Value) (hx : cs[j]? = some x) : w.cell? ⟨r, j, none⟩ = some x ∧ w.frozen? ⟨r, j, none⟩ = false := by
  constructor
  · simp only [World.cell?, h.R]; exact hx
  · simp [World.frozen?, h.R]
theorem GivM.gcell {w : World} {lo hi r g o1 o2 p1 p2 p3 f1 f2 f3 f4 : Nat} {cs : Array Value} {gc : Int} (h : GivM w lo hi r g o1 o2 p1 p2 p3 f1 f2 f3 f4 cs gc) : w.cell? ⟨g, 0, none⟩ = some (.int .i64 gc) ∧ w.frozen? ⟨g, 0, none⟩ = false := by
  constructor
  · simp [World.cell?, h.G]
  · simp [World.frozen?, h.G]
/-- The examples' rules with one thing put to another. -/
def givM (c1 : UInt8) (a1 : Int) (l1 : UInt8) (k : Int) (wt2 : Int) (out2 : List Sh) : List Rw := [⟨c1, a1, l1, 0, [⟨k, [1]⟩], 0, [⟨70, [⟨0, [1]⟩]⟩, ⟨91, []⟩, ⟨43, []⟩, ⟨65, [⟨-1, [1]⟩]⟩, ⟨93, []⟩]⟩, ⟨65, 1, 0, 0, [], wt2, out2⟩]
def outF : List Sh := [⟨70, [⟨0, [0]⟩]⟩]
theorem GivM.out1 {w : World} {lo hi r g o1 o2 p1 p2 p3 f1 f2 f3 f4 : Nat} {cs : Array Value} {gc : Int} (h : GivM w lo hi r g o1 o2 p1 p2 p3 f1 f2 f3 f4 cs gc) : Shs w (.slice (some ⟨o1, 0, none⟩) 5 5) [⟨70, [⟨0, [1]⟩]⟩, ⟨91, []⟩, ⟨43, []⟩, ⟨65, [⟨-1, [1]⟩]⟩, ⟨93, []⟩] := by
  have hO := h.O1
  refine .some o1 0 5 [⟨70, [⟨0, [1]⟩]⟩, ⟨91, []⟩, ⟨43, []⟩, ⟨65, [⟨-1, [1]⟩]⟩, ⟨93, []⟩] (by simp) (lt_of_block hO) fun i hi => ?_
  have : i = 0 ∨ i = 1 ∨ i = 2 ∨ i = 3 ∨ i = 4 := by simp at hi; omega
  rcases this with rfl | rfl | rfl | rfl | rfl
  · exact ⟨by simp [World.cell?, hO], .slice (some ⟨p1, 0, none⟩) 1 1, by simp [World.cell?, hO], fms_one h.P1 h.F2⟩
  · exact ⟨by simp [World.cell?, hO], .slice none 0 0, by simp [World.cell?, hO], .none _ _⟩
  · exact ⟨by simp [World.cell?, hO], .slice none 0 0, by simp [World.cell?, hO], .none _ _⟩
  · exact ⟨by simp [World.cell?, hO], .slice (some ⟨p2, 0, none⟩) 1 1, by simp [World.cell?, hO], fms_one h.P2 h.F3⟩
  · exact ⟨by simp [World.cell?, hO], .slice none 0 0, by simp [World.cell?, hO], .none _ _⟩
theorem GivM.out2 {w : World} {lo hi r g o1 o2 p1 p2 p3 f1 f2 f3 f4 : Nat} {cs : Array Value} {gc : Int} (h : GivM w lo hi r g o1 o2 p1 p2 p3 f1 f2 f3 f4 cs gc) : Shs w (.slice (some ⟨o2, 0, none⟩) 1 1) outF := by
  have hO := h.O2
  refine .some o2 0 1 outF (by decide) (lt_of_block hO) fun i hi => ?_
  obtain rfl : i = 0 := by
    have : i < 1 := hi
    omega
  exact ⟨by simp [World.cell?, hO, outF], .slice (some ⟨p3, 0, none⟩) 1 1, by simp [World.cell?, hO], fms_one h.P3 h.F4⟩
theorem GivM.rws {w : World} {lo hi r g o1 o2 p1 p2 p3 f1 f2 f3 f4 : Nat} {gc : Int} (c1 : UInt8) (a1 : Int) (l1 : UInt8) (wt2 : Int) (ov : Value) (out2 : List Sh) (hov : Shs w ov out2)
    (h : GivM w lo hi r g o1 o2 p1 p2 p3 f1 f2 f3 f4 #[.int .u8 c1.toNat, .int .i64 a1, .int .u8 l1.toNat, .int .u8 0, .slice (some ⟨g, 0, none⟩) 1 1, .int .i64 0, .slice (some ⟨o1, 0, none⟩) 5 5, .int .u8 65, .int .i64 1, .int .u8 0, .int .u8 0, .slice none 0 0, .int .i64 wt2, ov] gc) : Rws w (.slice (some ⟨r, 0, none⟩) 2 2) (givM c1 a1 l1 gc wt2 out2) := by
  have hR := h.R
  refine .some r 0 2 (givM c1 a1 l1 gc wt2 out2) (by simp [givM]) (lt_of_block hR) fun i hi => ?_
  have : i = 0 ∨ i = 1 := by
    have : i < 2 := hi
    omega
  rcases this with rfl | rfl
  · exact ⟨by simp [World.cell?, hR, givM], by simp [World.cell?, hR, givM], by simp [World.cell?, hR, givM], by simp [World.cell?, hR, givM], by simp [World.cell?, hR, givM], ⟨.slice (some ⟨g, 0, none⟩) 1 1, by simp [World.cell?, hR], fms_one h.G h.F1⟩, ⟨.slice (some ⟨o1, 0, none⟩) 5 5, by simp [World.cell?, hR], h.out1⟩⟩
  · exact ⟨by simp [World.cell?, hR, givM], by simp [World.cell?, hR, givM], by simp [World.cell?, hR, givM], by simp [World.cell?, hR, givM], by simp [World.cell?, hR, givM], ⟨.slice none 0 0, by simp [World.cell?, hR], .none _ _⟩, ⟨ov, by simp [World.cell?, hR], hov⟩⟩
end Go.Proofs.YtlmofdmbcddddaaDoor
