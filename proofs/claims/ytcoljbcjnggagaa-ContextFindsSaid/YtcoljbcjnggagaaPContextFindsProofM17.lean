/-
  Texts of the proof, merged: PConRefU, PConLawF, PConCap, PConRow.
-/
import Derived.Test.YtcoljbcjnggagaaPContextFindsProofM16
import Derived.Test.YtcoljbcjnggagaaPContextFindsProofM5
import Derived.Test.YtcoljbcjnggagaaPContextFindsProofM11
import Derived.Test.YtcoljbcjnggagaaRows
import Derived.ProofKit
import Derived.OpenShut
import Derived.ChangeSlices
import Derived.ChangeMaps5
import Derived.Deep.DeepHandedRow
import Derived.Deep.SlicePairs
import Derived.Lib.LaidTab
import Derived.Lib.SmallJoins
import Derived.Stop.LaidErr
import Derived.Stop.Joined
import Derived.JoinedCond
import GoSem.PinnedTables
namespace Go.Proofs.Ytcoljbcjnggagaa
open Go.RowKit
open WM RM CM
set_option linter.unusedVariables false
set_option linter.unusedSimpArgs false

/-- How Run ends. -/
def CruEnd (g : Bs) (l : List Rw) (wd : List Md) (n : Int) (w : World) (e : Ending) (w' : World) : Prop := ∃ v vs, e = .returned (.tuple #[v, .int .i64 (cruC g l wd n)]) ∧ Below w.heap.size w w' ∧ ModFr w' w.heap.size v (cruL g l wd n) vs
/-- Where the loop stands. -/
structure CrnAt (w : World) (g : Bs) (l : List Rw) (wd : List Md) (n i : Nat) (u : List Md) (v : Value) (wr : World) : Prop where
  hi : i ≤ n
  below : Below w.heap.size w wr
  own : ∃ vs, ModFr wr w.heap.size v u vs
  len : u.length ≤ 2000
  args : ∀ m ∈ u, m.a.length ≤ 10
  ok : chk u = 0
  eq : cruF g l n wd = cruF g l (n - i) u
theorem chB_runr {g : Bs} {l : List Rw} {u : List Md} {n : Int} (h : chB g l u ≠ 0) : cruC g l u n = chB g l u ∧ cruL g l u n = [] := by
  by_cases h0 : cchk g l = 0
  · rw [chB_ok h0] at h ⊢
    exact cru_word h0 h
  · rw [chB_no h0]; exact cru_rules h0
set_option maxRecDepth 100000 in
set_option maxHeartbeats 6400000 in
theorem crefrun_any (v : Value) (l : List Rw) (hmax : l.length ≤ 9223372036854775807) (hs : ∀ r ∈ l, RwSm r) (s : ByteArray) (hss : s.size ≤ 9223372036854775807) (wv : Value) (wd : List Md) (hwl : wd.length ≤ 2100) (hwa : ∀ m ∈ wd, m.a.length ≤ 10) (n : Int) (w : World) (hv : Rws w v l) (hw : Mods w wv wd) :
    Calls Try.prog 19 #[v, .string s, wv, .int .i64 n] w (CruEnd (lA s) l wd n w) := by
  have KC := Lib.hid (fun w h h' => refcboth_any v l hmax hs s hss wv wd hwl hwa w h h')
  have KStp := Lib.hid (fun p2 cap2 u h1 h2 h3 w h h' => crefstep_any v l hmax hs s hss p2 cap2 u h1 h2 h3 w h h')
  obtain ⟨p, cap, rfl⟩ := hv.slice
  obtain ⟨p2, cap2, rfl⟩ := hw.slice
  have HV := Lib.hid hv
  have HW := Lib.hid hw
  clear hv hw hs
  generalize lA s = g at KC KStp ⊢
  by_cases hch : chB g l wd = 0
  · obtain ⟨h0, h1⟩ := chB_zero hch
    have H0 := Lib.hid h0
    have H1 := Lib.hid h1
    have KT := Lib.hid (fun w h => twin_any (.slice p2 wd.length cap2) wd hwl hwa w h)
    have HSml : Hid (wd.length ≤ 2000 ∧ ∀ m ∈ wd, m.a.length ≤ 10) := Lib.hid ⟨(chk_zero.1 h1).1, hwa⟩
    rw [hch] at KC
    clear h0 h1 hch
    by_cases h2 : n < 0
    · have HE : Hid (∀ w', Below w.heap.size w w' → CruEnd g l wd n w (.returned (.tuple #[.slice none 0 0, .int .i64 2])) w') := Lib.hid (fun w' hb => by
        have h5 := cru_arg (n := n) H0.out H1.out (.inl h2)
        exact ⟨_, [], by rw [h5.1], hb, by rw [h5.2]; exact modFr_nil _ _⟩)
      go_enter Try.func19, Try.ntmps19
      go_wp2_with fail
      refine (KC.out _ HV.out HW.out).mono ?_
      rintro e w1 ⟨rfl, hb⟩
      have B1 := Lib.hid hb
      clear hb
      go_wp2_with fail
      go_ret2
      exact HE.out _ B1.out
    · by_cases h3 : 30 < n
      · have HE : Hid (∀ w', Below w.heap.size w w' → CruEnd g l wd n w (.returned (.tuple #[.slice none 0 0, .int .i64 2])) w') := Lib.hid (fun w' hb => by
          have h5 := cru_arg (n := n) H0.out H1.out (.inr h3)
          exact ⟨_, [], by rw [h5.1], hb, by rw [h5.2]; exact modFr_nil _ _⟩)
        go_enter Try.func19, Try.ntmps19
        go_wp2_with fail
        refine (KC.out _ HV.out HW.out).mono ?_
        rintro e w1 ⟨rfl, hb⟩
        have B1 := Lib.hid hb
        clear hb
        go_wp2_with fail
        go_ret2
        exact HE.out _ B1.out
      · obtain ⟨N, hN⟩ : ∃ N : Nat, n = (N : Int) := ⟨n.toNat, by omega⟩
        subst hN
        have HR : Hid (∀ c u, cruF g l N wd = (c, u) → cruC g l wd (N : Int) = c ∧ cruL g l wd (N : Int) = if c = 0 then u else []) := Lib.hid (fun c u h => cru_run H0.out H1.out (by omega) h)
        go_enter Try.func19, Try.ntmps19
        go_wp2_with fail
        refine (KC.out _ HV.out HW.out).mono ?_
        rintro e w1 ⟨rfl, hb⟩
        have B2 := Lib.hid hb
        clear hb
        go_wp2_with fail
        refine (KT.out _ (HW.out.later B2.out)).mono ?_
        rintro e w3 ⟨v3, vs3, rfl, hb, hmo⟩
        have S3 : Hid (CrnAt w g l wd N 0 wd v3 w3) := Lib.hid ⟨Nat.zero_le _, B2.out.trans (hb.mono B2.out.size), ⟨vs3, (modFr_of_own hmo).mono B2.out.size⟩, HSml.out.1, HSml.out.2, H1.out, rfl⟩
        clear hb hmo
        go_wp2_with fail
        go_loopw [2, 10] (fun v i wr => ∃ (i' : Nat) (u : List Md), i = .int .i64 (i' : Nat) ∧ CrnAt w g l wd N i' u v wr) (fun _ i _ => N - (intOf i).toNat)
        case atStart => exact ⟨0, wd, rfl, S3.out⟩
        case round =>
          rename World => wo
          obtain ⟨i, u, rfl, hS⟩ := hrel
          have HSt := Lib.hid hS
          have hi := hS.hi
          have hsz := hS.below.size
          obtain ⟨vs, hm⟩ := hS.own
          obtain ⟨q, c, hq, hqc⟩ := own_sl3 hm.row
          subst hq
          have HMF := Lib.hid hm
          have HOk := Lib.hid hS.ok
          clear hS hm
          by_cases hlt : i < N
          · have k1 : (i : Int) < (N : Int) := by omega
            have HEq : Hid (cruF g l N wd = cruF g l (N - (i + 1) + 1) u) := Lib.hid (by rw [HSt.out.eq]; congr 1; omega)
            have KS1 := Lib.hid (KStp.out q c u hqc (by have := HSt.out.len; omega) HSt.out.args wo (HV.out.later HSt.out.below) HMF.out.mods)
            unfold CrsEnd at KS1
            by_cases h5 : csC g l u = 0
            · have HN : Hid (∀ w' v' vs', Below wo.heap.size wo w' → ModFr w' wo.heap.size v' (csL g l u) vs' → CrnAt w g l wd N (i + 1) (csL g l u) v' w') := Lib.hid (fun w' v' vs' hb hm =>
                ⟨hlt, HSt.out.below.trans (hb.mono hsz), ⟨vs', hm.mono hsz⟩, (chk_zero.1 (csL_chk H0.out HOk.out)).1, fun m hm' => by
                have := (fine_args4 (List.all_eq_true.1 (chk_zero.1 (csL_chk H0.out HOk.out)).2.1 m hm')).1
                omega, csL_chk H0.out HOk.out, by rw [HEq.out, cruF_ok h5]⟩)
              rw [h5] at KS1
              clear h5
              go_wp2_with fail
              refine KS1.out.mono ?_
              rintro e w4 ⟨v4, vs4, rfl, hb, hm⟩
              have HT := Lib.hid (HN.out _ _ _ hb hm)
              clear hb hm
              go_wp2_with fail
              go_roundw
              case rel => exact ⟨i + 1, _, by go_num, HT.out⟩
              case measure => first | (simp [intOf]; done) | (simp [intOf]; omega)
            · have HE : Hid (∀ w', Below wo.heap.size wo w' → CruEnd g l wd (N : Int) w (.returned (.tuple #[.slice none 0 0, .int .i64 (csC g l u)])) w') := Lib.hid (fun w' hb => by
                have h6 := HR.out _ _ (HEq.out.trans (cruF_no h5))
                rw [if_neg h5] at h6
                exact ⟨_, [], by rw [h6.1], HSt.out.below.trans (hb.mono hsz), by rw [h6.2]; exact modFr_nil _ _⟩)
              obtain ⟨z, hz⟩ : ∃ z, csC g l u = z := ⟨_, rfl⟩
              rw [hz] at KS1 HE h5
              have h6 : (z != 0) = true := by rw [bne_iff_ne]; exact h5
              clear h5 hz
              go_wp2_with fail
              refine KS1.out.mono ?_
              rintro e w4 ⟨v4, vs4, rfl, hb, hm⟩
              have B4 := Lib.hid hb
              clear hb hm
              go_wp2_with fail
              go_ret2
              exact HE.out _ B4.out
          · obtain rfl : i = N := by omega
            have k1 : ¬ (i : Int) < (i : Int) := by omega
            have HE : Hid (CruEnd g l wd (i : Int) w (.returned (.tuple #[.slice q u.length c, .int .i64 0])) wo) := Lib.hid (by
              have h6 := HR.out 0 u (by rw [HSt.out.eq, Nat.sub_self]; rfl)
              rw [if_pos rfl] at h6
              exact ⟨_, vs, by rw [h6.1], HSt.out.below, by rw [h6.2]; exact HMF.out⟩)
            go_wp2_with fail
            go_ret2
            exact HE.out
  · have HE : Hid (∀ w', Below w.heap.size w w' → CruEnd g l wd n w (.returned (.tuple #[.slice none 0 0, .int .i64 (chB g l wd)])) w') := Lib.hid (fun w' hb => ⟨_, [], by rw [(chB_runr hch).1], hb, by rw [(chB_runr hch).2]; exact modFr_nil _ _⟩)
    obtain ⟨c, hc⟩ : ∃ c, chB g l wd = c := ⟨_, rfl⟩
    rw [hc] at KC HE hch
    have h2 : (c != 0) = true := by rw [bne_iff_ne]; exact hch
    clear hch hc
    go_enter Try.func19, Try.ntmps19
    go_wp2_with fail
    refine (KC.out _ HV.out HW.out).mono ?_
    rintro e w1 ⟨rfl, hb⟩
    have B1 := Lib.hid hb
    clear hb
    go_wp2_with fail
    refine (KC.out _ (HV.out.later B1.out) (HW.out.later B1.out)).mono ?_
    rintro e w2 ⟨rfl, hb⟩
    have B2 := Lib.hid (B1.out.trans (hb.mono B1.out.size))
    clear hb
    go_wp2_with fail
    go_ret2
    exact HE.out _ B2.out
theorem fi_chr {g : Bs} {l : List Rw} {u : List Md} {i : Int} (h : chB g l u ≠ 0) : cfiC g l u i = chB g l u ∧ cfiV g l u i = 0 := by
  have e : cfiC g l u i = chB g l u := by
    unfold cfiC
    by_cases h0 : cchk g l = 0
    · rw [chB_ok h0] at h ⊢
      rw [if_neg (by simp [h0]), if_pos h]
    · rw [chB_no h0, if_pos h0]
  exact ⟨e, by unfold cfiV; rw [e, if_neg h]⟩
theorem fi_argr {g : Bs} {l : List Rw} {u : List Md} {i : Int} (h : chB g l u = 0) (h1 : i < 0 ∨ (u.length : Int) ≤ i) : cfiC g l u i = 2 ∧ cfiV g l u i = 0 := by
  obtain ⟨a, b⟩ := chB_zero h
  have e : cfiC g l u i = 2 := by unfold cfiC; rw [if_neg (by simp [a]), if_neg (by simp [b]), if_pos h1]
  exact ⟨e, by unfold cfiV; rw [e]; rfl⟩
theorem fi_okr {g : Bs} {l : List Rw} {u : List Md} {i : Nat} (h : chB g l u = 0) (h1 : i < u.length) : cfiC g l u (i : Int) = 0 ∧ cfiV g l u (i : Int) = cfirst g l u i := by
  obtain ⟨a, b⟩ := chB_zero h
  have e : cfiC g l u (i : Int) = 0 := by unfold cfiC; rw [if_neg (by simp [a]), if_neg (by simp [b]), if_neg (by omega)]
  exact ⟨e, by unfold cfiV; rw [e, if_pos rfl, Int.toNat_natCast]⟩
set_option maxRecDepth 100000 in
set_option maxHeartbeats 3200000 in
theorem creffind_any (v : Value) (l : List Rw) (hmax : l.length ≤ 9223372036854775807) (hs : ∀ r ∈ l, RwSm r) (s : ByteArray) (hss : s.size ≤ 9223372036854775807) (wv : Value) (u : List Md) (hwl : u.length ≤ 2100) (hwa : ∀ m ∈ u, m.a.length ≤ 10) (i : Int) (w : World) (hv : Rws w v l) (hw : Mods w wv u) :
    Calls Try.prog 12 #[v, .string s, wv, .int .i64 i] w fun e w' => e = .returned (.tuple #[.int .i64 (cfiV (lA s) l u i), .int .i64 (cfiC (lA s) l u i)]) ∧ Below w.heap.size w w' := by
  have KC := Lib.hid (fun w h h' => refcboth_any v l hmax hs s hss wv u hwl hwa w h h')
  have KFi := Lib.hid (fun hru huf i hi w h h' => crefirst_any v l hmax hru s hss wv u (by omega) huf i hi w h h')
  obtain ⟨p, cap, rfl⟩ := hv.slice
  obtain ⟨p2, cap2, rfl⟩ := hw.slice
  have HV := Lib.hid hv
  have HW := Lib.hid hw
  have HS := Lib.hid hs
  clear hv hw hs
  generalize lA s = g at KC KFi ⊢
  by_cases hch : chB g l u = 0
  · obtain ⟨h0, h1⟩ := chB_zero hch
    have hz := cchk_zero h0
    have KT := Lib.hid (fun i hi w h h' => KFi.out (fun r hr => ⟨(hz.2.1 r hr).1, by have := (HS.out r hr).1; omega⟩) (fun m hm => List.all_eq_true.1 (chk_zero.1 h1).2.1 m hm) i hi w h h')
    have HCh := Lib.hid hch
    rw [hch] at KC
    clear hz h0 h1 hch KFi
    by_cases h1 : i < 0
    · obtain ⟨f1, f2⟩ := fi_argr HCh.out (.inl h1)
      rw [f1, f2]
      clear f1 f2
      go_enter Try.func12, Try.ntmps12
      go_wp2_with fail
      refine (KC.out _ HV.out HW.out).mono ?_
      rintro e w1 ⟨rfl, hb⟩
      have B1 := Lib.hid hb
      clear hb
      go_wp2_with fail
      go_ret2
      exact ⟨rfl, B1.out⟩
    · by_cases h2 : (u.length : Int) ≤ i
      · obtain ⟨f1, f2⟩ := fi_argr HCh.out (.inr h2)
        rw [f1, f2]
        clear f1 f2
        go_enter Try.func12, Try.ntmps12
        go_wp2_with fail
        refine (KC.out _ HV.out HW.out).mono ?_
        rintro e w1 ⟨rfl, hb⟩
        have B1 := Lib.hid hb
        clear hb
        go_wp2_with fail
        go_ret2
        exact ⟨rfl, B1.out⟩
      · obtain ⟨n, rfl⟩ : ∃ n : Nat, i = (n : Int) := ⟨i.toNat, by omega⟩
        have hlt : n < u.length := by omega
        obtain ⟨f1, f2⟩ := fi_okr HCh.out hlt
        rw [f1, f2]
        have KT1 := Lib.hid (KT.out n hlt)
        generalize cfirst g l u n = z at KT1 ⊢
        clear f1 f2 KT
        go_enter Try.func12, Try.ntmps12
        go_wp2_with fail
        refine (KC.out _ HV.out HW.out).mono ?_
        rintro e w1 ⟨rfl, hb⟩
        have B1 := Lib.hid hb
        clear hb
        go_wp2_with fail
        refine (KT1.out _ (HV.out.later B1.out) (HW.out.later B1.out)).mono ?_
        rintro e w2 ⟨rfl, hb⟩
        have B2 := Lib.hid (B1.out.trans (hb.mono B1.out.size))
        clear hb
        go_wp2_with fail
        go_ret2
        exact ⟨rfl, B2.out⟩
  · obtain ⟨f1, f2⟩ := fi_chr (i := i) hch
    rw [f1, f2]
    generalize chB g l u = c at KC hch ⊢
    have h2 : (c != 0) = true := by rw [bne_iff_ne]; exact hch
    clear hch f1 f2 KFi
    go_enter Try.func12, Try.ntmps12
    go_wp2_with fail
    refine (KC.out _ HV.out HW.out).mono ?_
    rintro e w1 ⟨rfl, hb⟩
    have B1 := Lib.hid hb
    clear hb
    go_wp2_with fail
    refine (KC.out _ (HV.out.later B1.out) (HW.out.later B1.out)).mono ?_
    rintro e w2 ⟨rfl, hb⟩
    have B2 := Lib.hid (B1.out.trans (hb.mono B1.out.size))
    clear hb
    go_wp2_with fail
    go_ret2
    exact ⟨rfl, B2.out⟩
end Go.Proofs.Ytcoljbcjnggagaa
namespace Go.Proofs.Ytcoljbcjnggagaa
open Go.RowKit
open WM RM CM
set_option linter.unusedVariables false
set_option linter.unusedSimpArgs false

set_option maxRecDepth 100000 in
set_option maxHeartbeats 3200000 in
theorem cfinds_walk (v : Value) (l : List Rw) (hmax : l.length ≤ 9223372036854775807) (s : ByteArray) (hss : s.size ≤ 9223372036854775807) (wv : Value) (wd : List Md) (hwl : wd.length ≤ 9223372036854775807) (hwa : ∀ m ∈ wd, m.a.length ≤ 9223372036854775807) (i : Int) (w : World) (h1 : Rws w v l) (hnv : NilOr v) (h2 : Mods w wv wd) :
    Calls Try.prog 3 #[v, .string s, wv, .int .i64 i] w fun e w' => e = .returned (.bool true) ∧ Below w.heap.size w w' := by
  have KG := Lib.hid (refgreat_any v l hmax w h1)
  have KW := Lib.hid (great_any wv wd hwl w h2 hwa)
  have KL1 := Lib.hid (fun w h => pleft_any wv wd hwl hwa i s hss w h)
  have KR1 := Lib.hid (fun w h => pright_any wv wd hwl hwa i s hss w h)
  have KL2 := Lib.hid (fun h1 h2 w h => refleft_any wv wd h1 h2 i s hss w h)
  have KR2 := Lib.hid (fun h1 h2 w h => refright_any wv wd h1 h2 i s hss w h)
  have KF1 := Lib.hid (fun h1 h2 w h h' => cpfind_any v l h1 h2 s hss wv wd hwl hwa i w h hnv h')
  have KF2 := Lib.hid (fun h2 h3 h4 w h h' => creffind_any v l hmax h2 s hss wv wd h3 h4 i w h h')
  have KC1 := Lib.hid (fun h1 h2 w h => pccheck_any v l h1 h2 s hss w h hnv)
  have KC2 := Lib.hid (fun h2 w h => refccheck_any v l hmax h2 s hss w h)
  obtain ⟨p, cap, rfl⟩ := h1.slice
  obtain ⟨p2, cap2, rfl⟩ := h2.slice
  have HV1 := Lib.hid h1
  have HV2 := Lib.hid h2
  clear h1 h2 hnv hwa
  generalize lA s = g at KL1 KL2 KR1 KR2 KF1 KF2 KC1 KC2
  cases hg : greatR l with
  | true =>
    rw [hg] at KG
    clear hg
    go_enter Try.func3, Try.ntmps3
    go_wp2_with fail
    (refine KG.out.mono ?_; rintro e wx ⟨rfl, rfl⟩; go_wp2_with fail)
    go_ret
    exact ⟨rfl, Below.refl _ _⟩
  | false =>
    rw [hg] at KG
    obtain ⟨g1, g2⟩ := greatR_sm hg
    clear hg
    cases hg2 : greatB wd with
    | true =>
      rw [hg2] at KW
      clear hg2
      go_enter Try.func3, Try.ntmps3
      go_wp2_with fail
      (refine KG.out.mono ?_; rintro e wx ⟨rfl, rfl⟩; go_wp2_with fail)
      (refine KW.out.mono ?_; rintro e wx ⟨rfl, rfl⟩; go_wp2_with fail)
      go_ret
      exact ⟨rfl, Below.refl _ _⟩
    | false =>
      rw [hg2] at KW
      obtain ⟨lb, lbb⟩ := great_no hg2
      clear hg2
      by_cases c3 : (300 : Int) < (wd.length : Int)
      · clear g1 g2 lb lbb
        go_enter Try.func3, Try.ntmps3
        go_wp2_with fail
        (refine KG.out.mono ?_; rintro e wx ⟨rfl, rfl⟩; go_wp2_with fail)
        (refine KW.out.mono ?_; rintro e wx ⟨rfl, rfl⟩; go_wp2_with fail)
        go_ret
        exact ⟨rfl, Below.refl _ _⟩
      by_cases c4 : (100 : Int) < (s.size : Int)
      · clear g1 g2 lb lbb
        go_enter Try.func3, Try.ntmps3
        go_wp2_with fail
        (refine KG.out.mono ?_; rintro e wx ⟨rfl, rfl⟩; go_wp2_with fail)
        (refine KW.out.mono ?_; rintro e wx ⟨rfl, rfl⟩; go_wp2_with fail)
        go_ret
        exact ⟨rfl, Below.refl _ _⟩
      have J2 := Lib.hid (KL2.out lb lbb)
      have J4 := Lib.hid (KR2.out lb lbb)
      have J5 := Lib.hid (KF1.out g1 g2)
      have J6 := Lib.hid (KF2.out g2 lb lbb)
      have J7 := Lib.hid (KC1.out g1 g2)
      have J8 := Lib.hid (KC2.out g2)
      generalize lefV g wd i = x1 at KL1 J2
      generalize rigV g wd i = x2 at KR1 J4
      generalize askC g wd i = x3 at KL1 J2 KR1 J4
      generalize cfiV g l wd i = x4 at J5 J6
      generalize cfiC g l wd i = x5 at J5 J6
      generalize cchk g l = x6 at J7 J8
      clear KL2 KR2 KF1 KF2 KC1 KC2 g1 g2 lb lbb
      have t1 : (x1 == x1) = true := beq_self_eq_true _
      have t2 : (x2 == x2) = true := beq_self_eq_true _
      have t3 : (x3 == x3) = true := beq_self_eq_true _
      have t4 : (x4 == x4) = true := beq_self_eq_true _
      have t5 : (x5 == x5) = true := beq_self_eq_true _
      have t6 : (x6 == x6) = true := beq_self_eq_true _
      go_enter Try.func3, Try.ntmps3
      go_wp2_with fail
      (refine KG.out.mono ?_; rintro e wx ⟨rfl, rfl⟩; go_wp2_with fail)
      (refine KW.out.mono ?_; rintro e wx ⟨rfl, rfl⟩; go_wp2_with fail)
      refine (KL1.out _ HV2.out).mono ?_
      rintro e w1 ⟨rfl, hb⟩
      have B1 := Lib.hid hb
      clear hb
      go_wp2_with fail
      refine (J2.out _ (HV2.out.later B1.out)).mono ?_
      rintro e w2 ⟨rfl, hb⟩
      have B2 := Lib.hid (B1.out.trans (hb.mono B1.out.size))
      clear hb
      go_wp2_with fail
      refine (KR1.out _ (HV2.out.later B2.out)).mono ?_
      rintro e w3 ⟨rfl, hb⟩
      have B3 := Lib.hid (B2.out.trans (hb.mono B2.out.size))
      clear hb
      go_wp2_with fail
      refine (J4.out _ (HV2.out.later B3.out)).mono ?_
      rintro e w4 ⟨rfl, hb⟩
      have B4 := Lib.hid (B3.out.trans (hb.mono B3.out.size))
      clear hb
      go_wp2_with fail
      refine (J5.out _ (HV1.out.later B4.out) (HV2.out.later B4.out)).mono ?_
      rintro e w5 ⟨rfl, hb⟩
      have B5 := Lib.hid (B4.out.trans (hb.mono B4.out.size))
      clear hb
      go_wp2_with fail
      refine (J6.out _ (HV1.out.later B5.out) (HV2.out.later B5.out)).mono ?_
      rintro e w6 ⟨rfl, hb⟩
      have B6 := Lib.hid (B5.out.trans (hb.mono B5.out.size))
      clear hb
      go_wp2_with fail
      refine (J7.out _ (HV1.out.later B6.out)).mono ?_
      rintro e w7 ⟨rfl, hb⟩
      have B7 := Lib.hid (B6.out.trans (hb.mono B6.out.size))
      clear hb
      go_wp2_with fail
      refine (J8.out _ (HV1.out.later B7.out)).mono ?_
      rintro e w8 ⟨rfl, hb⟩
      have B8 := Lib.hid (B7.out.trans (hb.mono B7.out.size))
      clear hb
      go_wp2_with fail
      go_ret
      exact ⟨rfl, B8.out⟩
end Go.Proofs.Ytcoljbcjnggagaa
namespace Go.Proofs.Ytcoljbcjnggagaa
open Go.ChangeShapes Go.WideShapes Go.ChangeAt Go.RowKit Go.Joins Go.Deep
open WM RM
set_option linter.unusedVariables false
set_option linter.unusedSimpArgs false
set_option maxRecDepth 100000
section
variable {H : Type} {enc : TypeId × Value → H} {W : World} {base : Nat} {spare : Nat → Bool} {held : Bool}
theorem rwsNil {v : Value} {d : DataW H} {p : List MemPlace} {a0 : Option Addr} {len cap : Nat} (hv : v = .slice a0 len cap) (h : DataW.Trod enc Try.prog W base spare held 22 v d p) : NilOr v := by
  obtain ⟨fuel, hf⟩ := h
  subst hv
  have hf2 : DataW.trod enc Try.prog W base spare held fuel 22 [.slice a0 len cap] = some (d, p) := by simpa [Value.cells] using hf
  rcases DataW.trod_slice Try.underlying22 hf2 with ⟨hcs, -⟩ | ⟨ad, len', cap', elems, rest, n, _, hcs, hx, _, hlc, hcm, hel, -⟩
  · simp at hcs
    obtain ⟨rfl, rfl, rfl⟩ := hcs
    exact .inl rfl
  · simp at hcs
    obtain ⟨rfl, rfl, rfl⟩ := hcs
    exact .inr ⟨_, _, _, rfl⟩
end
end Go.Proofs.Ytcoljbcjnggagaa
namespace Go.Proofs.Ytcoljbcjnggagaa.ConRow
set_option maxRecDepth 100000
set_option linter.unusedVariables false
set_option linter.unusedSimpArgs false
open Go.ChangeShapes Go.WideShapes Go.ChangeAt Go.RowKit Go.Joins Go.Deep

theorem own : ownKnob Try.prog.godebug = none := by kernel_rfl
theorem laid : laidOutB Try.prog = true := by kernel_rfl
theorem u8_of {k : Int} (h : (Lit.int .u8 k).wf = true) : ∃ c : UInt8, k = c.toNat := by
  have e1 : IntKind.u8.min = 0 := by decide
  have e2 : IntKind.u8.max = 255 := by decide
  simp [Lit.wf, e1, e2] at h
  exact ⟨UInt8.ofNat k.toNat, by rw [UInt8.toNat_ofNat']; omega⟩
end Go.Proofs.Ytcoljbcjnggagaa.ConRow
