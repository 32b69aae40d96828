/-
  Texts of the proof, merged: PConPrK, PConPrD, PConRefS.
-/
import Derived.Test.YtcoljbcjnggagaaPContextFindsProofM15
import Derived.Test.YtcoljbcjnggagaaPContextFindsProofM14
import Derived.Test.YtcoljbcjnggagaaPContextFindsProofM8
import Derived.Test.YtcoljbcjnggagaaPContextFindsProofM9
import Derived.Test.YtcoljbcjnggagaaPContextFindsProofM12
import Derived.Test.YtcoljbcjnggagaaPContextFindsProofM5
namespace Go.Proofs.Ytcoljbcjnggagaa
open Go.RowKit
open WM RM CM
set_option linter.unusedVariables false
set_option linter.unusedSimpArgs false

theorem csp_eq (g : Bs) (l : List Rw) (u : List Md) (b0 : Nat) (w : World) (e : Ending) (w' : World) : CspEnd g l u b0 w e w' ↔ ∃ v vs, e = .returned (.tuple #[v, .int .i64 (csC g l u)]) ∧ Below w.heap.size w w' ∧ ModFr w' b0 v (csL g l u) vs := Iff.rfl
/-- How Run ends. -/
def CpuEnd (g : Bs) (l : List Rw) (wd : List Md) (n : Int) (w : World) (e : Ending) (w' : World) : Prop := ∃ v vs, e = .returned (.tuple #[v, .int .i64 (cruC g l wd n)]) ∧ Below w.heap.size w w' ∧ ModFr w' w.heap.size v (cruL g l wd n) vs
/-- Where the loop stands. -/
structure CpnAt (w : World) (g : Bs) (l : List Rw) (wd : List Md) (n i : Nat) (u : List Md) (v : Value) (wr : World) : Prop where
  hi : i ≤ n
  below : Below w.heap.size w wr
  own : ∃ vs, ModFr wr w.heap.size v u vs
  ok : chk u = 0
  eq : cruF g l n wd = cruF g l (n - i) u
theorem chB_run {g : Bs} {l : List Rw} {u : List Md} {n : Int} (h : chB g l u ≠ 0) : cruC g l u n = chB g l u ∧ cruL g l u n = [] := by
  by_cases h0 : cchk g l = 0
  · rw [chB_ok h0] at h ⊢
    exact cru_word h0 h
  · rw [chB_no h0]; exact cru_rules h0
set_option maxRecDepth 100000 in
set_option maxHeartbeats 6400000 in
theorem cprun_any (v : Value) (l : List Rw) (hmax : l.length ≤ 50) (hs : ∀ r ∈ l, RwSm r) (s : ByteArray) (hss : s.size ≤ 9223372036854775807) (wv : Value) (wd : List Md) (hwl : wd.length ≤ 9223372036854775807) (hwa : ∀ m ∈ wd, m.a.length ≤ 9223372036854775807) (n : Int) (w : World) (hv : Rws w v l) (hnv : NilOr v) (hw : Mods w wv wd) (hnil : NilOr wv) :
    Calls Try.prog 18 #[v, .string s, wv, .int .i64 n] w (CpuEnd (lA s) l wd n w) := by
  have KC := Lib.hid (pcboth_any v l hmax hs s hss wv wd hwl hwa w hv hnv hw)
  have KStp := Lib.hid (fun p cap h0 wv u us h1 b0 w h2 h3 h4 => cpstep_any p cap l hs s h0 wv u us h1 b0 w h2 h3 h4)
  obtain ⟨p, cap, rfl⟩ := hv.slice
  obtain ⟨p2, cap2, rfl⟩ := hw.slice
  have HV := Lib.hid hv
  have HW := Lib.hid hw
  clear hv hw hwa hs hnv
  generalize lA s = g at KC KStp ⊢
  by_cases hch : chB g l wd = 0
  · obtain ⟨h0, h1⟩ := chB_zero hch
    have H0 := Lib.hid h0
    have H1 := Lib.hid h1
    have KT := Lib.hid (fun (w : World) (h : Mods w (.slice p2 wd.length cap2) wd) => ptwin_any (.slice p2 wd.length cap2) wd (by have := (chk_zero.1 h1).1; omega) (fun m hm => by have := chk_args h1 m hm; omega) w h hnil)
    rw [hch] at KC
    clear h0 h1 hch hnil
    by_cases h2 : n < 0
    · have HE : Hid (∀ w', Below w.heap.size w w' → CpuEnd g l wd n w (.returned (.tuple #[.slice none 0 0, .int .i64 2])) w') := Lib.hid (fun w' hb => by
        have h5 := cru_arg (n := n) H0.out H1.out (.inl h2)
        exact ⟨_, [], by rw [h5.1], hb, by rw [h5.2]; exact modFr_nil _ _⟩)
      go_enter Try.func18, Try.ntmps18
      go_wp2_with fail
      refine KC.out.mono ?_
      rintro e w1 ⟨rfl, hb⟩
      have B1 := Lib.hid hb
      clear hb
      go_wp2_with fail
      go_ret2
      exact HE.out _ B1.out
    · by_cases h3 : 30 < n
      · have HE : Hid (∀ w', Below w.heap.size w w' → CpuEnd g l wd n w (.returned (.tuple #[.slice none 0 0, .int .i64 2])) w') := Lib.hid (fun w' hb => by
          have h5 := cru_arg (n := n) H0.out H1.out (.inr h3)
          exact ⟨_, [], by rw [h5.1], hb, by rw [h5.2]; exact modFr_nil _ _⟩)
        go_enter Try.func18, Try.ntmps18
        go_wp2_with fail
        refine KC.out.mono ?_
        rintro e w1 ⟨rfl, hb⟩
        have B1 := Lib.hid hb
        clear hb
        go_wp2_with fail
        go_ret2
        exact HE.out _ B1.out
      · obtain ⟨N, hN⟩ : ∃ N : Nat, n = (N : Int) := ⟨n.toNat, by omega⟩
        subst hN
        have HR : Hid (∀ c u, cruF g l N wd = (c, u) → cruC g l wd (N : Int) = c ∧ cruL g l wd (N : Int) = if c = 0 then u else []) := Lib.hid (fun c u h => cru_run H0.out H1.out (by omega) h)
        go_enter Try.func18, Try.ntmps18
        go_wp2_with fail
        refine KC.out.mono ?_
        rintro e w1 ⟨rfl, hb⟩
        have B2 := Lib.hid hb
        clear hb
        go_wp2_with fail
        refine (KT.out _ (HW.out.later B2.out)).mono ?_
        rintro e w3 ⟨v3, vs3, rfl, hb, hmo⟩
        have S3 : Hid (CpnAt w g l wd N 0 wd v3 w3) := Lib.hid ⟨Nat.zero_le _, B2.out.trans (hb.mono B2.out.size), ⟨vs3, hmo.mono B2.out.size⟩, H1.out, rfl⟩
        clear hb hmo
        go_wp2_with fail
        go_loopw [11, 30] (fun v i wr => ∃ (i' : Nat) (u : List Md), i = .int .i64 (i' : Nat) ∧ CpnAt w g l wd N i' u v wr) (fun _ i _ => N - (intOf i).toNat)
        case atStart => exact ⟨0, wd, rfl, S3.out⟩
        case round =>
          rename World => wo
          obtain ⟨i, u, rfl, hS⟩ := hrel
          have HSt := Lib.hid hS
          have hi := hS.hi
          have hsz := hS.below.size
          obtain ⟨vs, hm⟩ := hS.own
          obtain ⟨q, c, hq⟩ := fr_slice hm.row
          subst hq
          have HMF := Lib.hid hm
          have HOk := Lib.hid hS.ok
          clear hS hm
          by_cases hlt : i < N
          · have k1 : (i : Int) < (N : Int) := by omega
            have HEq : Hid (cruF g l N wd = cruF g l (N - (i + 1) + 1) u) := Lib.hid (by rw [HSt.out.eq]; congr 1; omega)
            have KS1 := Lib.hid (KStp.out p cap H0.out (.slice q u.length c) u vs HOk.out w.heap.size wo hsz (HV.out.later HSt.out.below) HMF.out)
            unfold CspEnd at KS1
            by_cases h5 : csC g l u = 0
            · have HN : Hid (∀ w' v' vs', Below wo.heap.size wo w' → ModFr w' w.heap.size v' (csL g l u) vs' → CpnAt w g l wd N (i + 1) (csL g l u) v' w') := Lib.hid (fun w' v' vs' hb hm =>
                ⟨hlt, HSt.out.below.trans (hb.mono hsz), ⟨vs', hm⟩, csL_chk H0.out HOk.out, by rw [HEq.out, cruF_ok h5]⟩)
              rw [h5] at KS1
              clear h5
              go_wp2_with fail
              refine KS1.out.mono ?_
              rintro e w4 ⟨v4, vs4, rfl, hb, hm⟩
              have HT := Lib.hid (HN.out _ _ _ hb hm)
              clear hb hm
              go_wp2_with fail
              go_roundw
              case rel => exact ⟨i + 1, _, by go_num, HT.out⟩
              case measure => first | (simp [intOf]; done) | (simp [intOf]; omega)
            · have HE : Hid (∀ w', Below wo.heap.size wo w' → CpuEnd g l wd (N : Int) w (.returned (.tuple #[.slice none 0 0, .int .i64 (csC g l u)])) w') := Lib.hid (fun w' hb => by
                have h6 := HR.out _ _ (HEq.out.trans (cruF_no h5))
                rw [if_neg h5] at h6
                exact ⟨_, [], by rw [h6.1], HSt.out.below.trans (hb.mono hsz), by rw [h6.2]; exact modFr_nil _ _⟩)
              obtain ⟨z, hz⟩ : ∃ z, csC g l u = z := ⟨_, rfl⟩
              rw [hz] at KS1 HE h5
              have h6 : (z != 0) = true := by rw [bne_iff_ne]; exact h5
              clear h5 hz
              go_wp2_with fail
              refine KS1.out.mono ?_
              rintro e w4 ⟨v4, vs4, rfl, hb, hm⟩
              have B4 := Lib.hid hb
              clear hb hm
              go_wp2_with fail
              go_ret2
              exact HE.out _ B4.out
          · obtain rfl : i = N := by omega
            have k1 : ¬ (i : Int) < (i : Int) := by omega
            have HE : Hid (CpuEnd g l wd (i : Int) w (.returned (.tuple #[.slice q u.length c, .int .i64 0])) wo) := Lib.hid (by
              have h6 := HR.out 0 u (by rw [HSt.out.eq, Nat.sub_self]; rfl)
              rw [if_pos rfl] at h6
              exact ⟨_, vs, by rw [h6.1], HSt.out.below, by rw [h6.2]; exact HMF.out⟩)
            go_wp2_with fail
            go_ret2
            exact HE.out
  · have HE : Hid (∀ w', Below w.heap.size w w' → CpuEnd g l wd n w (.returned (.tuple #[.slice none 0 0, .int .i64 (chB g l wd)])) w') := Lib.hid (fun w' hb => ⟨_, [], by rw [(chB_run hch).1], hb, by rw [(chB_run hch).2]; exact modFr_nil _ _⟩)
    obtain ⟨c, hc⟩ : ∃ c, chB g l wd = c := ⟨_, rfl⟩
    rw [hc] at KC HE hch
    have h2 : (c != 0) = true := by rw [bne_iff_ne]; exact hch
    clear hch hc
    go_enter Try.func18, Try.ntmps18
    go_wp2_with fail
    refine KC.out.mono ?_
    rintro e w1 ⟨rfl, hb⟩
    have B1 := Lib.hid hb
    clear hb
    go_wp2_with fail
    go_ret2
    exact HE.out _ B1.out
theorem cru_one (g : Bs) (l : List Rw) (wd : List Md) : cruC g l wd 1 = csC g l wd ∧ cruL g l wd 1 = csL g l wd := by
  have hr : cruF g l 1 wd = if csC g l wd ≠ 0 then (csC g l wd, []) else (0, csL g l wd) := by
    rw [cruF]
    split
    · rfl
    · rw [cruF]
  have e : cruC g l wd 1 = csC g l wd := by
    unfold cruC
    by_cases h0 : cchk g l = 0
    · by_cases h1 : chk wd = 0
      · rw [if_neg (by simp [h0]), if_neg (by simp [h1]), if_neg (by omega)]
        show (cruF g l 1 wd).1 = _
        rw [hr]
        split
        · rfl
        · rename_i h; simp at h; exact h.symm
      · rw [if_neg (by simp [h0]), if_pos h1, (cs_word h0 h1).1]
    · rw [if_pos h0, (cs_rules h0).1]
  refine ⟨e, ?_⟩
  unfold cruL
  rw [e]
  by_cases h : csC g l wd = 0
  · rw [if_pos h]
    show (cruF g l 1 wd).2 = _
    rw [hr, if_neg (by simp [h])]
  · rw [if_neg h]
    unfold csL; rw [if_neg h]
/-- How Step ends. -/
def CptEnd (g : Bs) (l : List Rw) (wd : List Md) (w : World) (e : Ending) (w' : World) : Prop := ∃ v vs, e = .returned (.tuple #[v, .int .i64 (csC g l wd)]) ∧ Below w.heap.size w w' ∧ ModFr w' w.heap.size v (csL g l wd) vs
set_option maxRecDepth 100000 in
set_option maxHeartbeats 1600000 in
theorem cpstep1_any (v : Value) (l : List Rw) (hmax : l.length ≤ 50) (hs : ∀ r ∈ l, RwSm r) (s : ByteArray) (hss : s.size ≤ 9223372036854775807) (wv : Value) (wd : List Md) (hwl : wd.length ≤ 9223372036854775807) (hwa : ∀ m ∈ wd, m.a.length ≤ 9223372036854775807) (w : World) (hv : Rws w v l) (hnv : NilOr v) (hw : Mods w wv wd) (hnil : NilOr wv) :
    Calls Try.prog 16 #[v, .string s, wv] w (CptEnd (lA s) l wd w) := by
  have K := Lib.hid (cprun_any v l hmax hs s hss wv wd hwl hwa 1 w hv hnv hw hnil)
  obtain ⟨p, cap, rfl⟩ := hv.slice
  obtain ⟨p2, cap2, rfl⟩ := hw.slice
  unfold CpuEnd at K
  rw [(cru_one (lA s) l wd).1, (cru_one (lA s) l wd).2] at K
  generalize lA s = g at K ⊢
  clear hv hw hs hwa hnil hnv
  obtain ⟨c, hc⟩ : ∃ c, csC g l wd = c := ⟨_, rfl⟩
  have HC := Lib.hid hc
  rw [hc] at K
  clear hc
  go_enter Try.func16, Try.ntmps16
  go_wp2_with fail
  refine K.out.mono ?_
  rintro e w1 ⟨v1, vs, rfl, hb, hm⟩
  have HE : Hid (CptEnd g l wd w (.returned (.tuple #[v1, .int .i64 c])) w1) := Lib.hid ⟨_, vs, by rw [HC.out], hb, hm⟩
  clear hb hm
  go_wp2_with fail
  go_ret2
  exact HE.out
theorem fi_ch {g : Bs} {l : List Rw} {u : List Md} {i : Int} (h : chB g l u ≠ 0) : cfiC g l u i = chB g l u ∧ cfiV g l u i = 0 := by
  have e : cfiC g l u i = chB g l u := by
    unfold cfiC
    by_cases h0 : cchk g l = 0
    · rw [chB_ok h0] at h ⊢
      rw [if_neg (by simp [h0]), if_pos h]
    · rw [chB_no h0, if_pos h0]
  exact ⟨e, by unfold cfiV; rw [e, if_neg h]⟩
theorem fi_arg {g : Bs} {l : List Rw} {u : List Md} {i : Int} (h : chB g l u = 0) (h1 : i < 0 ∨ (u.length : Int) ≤ i) : cfiC g l u i = 2 ∧ cfiV g l u i = 0 := by
  obtain ⟨a, b⟩ := chB_zero h
  have e : cfiC g l u i = 2 := by unfold cfiC; rw [if_neg (by simp [a]), if_neg (by simp [b]), if_pos h1]
  exact ⟨e, by unfold cfiV; rw [e]; rfl⟩
theorem fi_ok {g : Bs} {l : List Rw} {u : List Md} {i : Nat} (h : chB g l u = 0) (h1 : i < u.length) : cfiC g l u (i : Int) = 0 ∧ cfiV g l u (i : Int) = cfirst g l u i := by
  obtain ⟨a, b⟩ := chB_zero h
  have e : cfiC g l u (i : Int) = 0 := by unfold cfiC; rw [if_neg (by simp [a]), if_neg (by simp [b]), if_neg (by omega)]
  exact ⟨e, by unfold cfiV; rw [e, if_pos rfl, Int.toNat_natCast]⟩
set_option maxRecDepth 100000 in
set_option maxHeartbeats 3200000 in
theorem cpfind_any (v : Value) (l : List Rw) (hmax : l.length ≤ 50) (hs : ∀ r ∈ l, RwSm r) (s : ByteArray) (hss : s.size ≤ 9223372036854775807) (wv : Value) (u : List Md) (hwl : u.length ≤ 9223372036854775807) (hwa : ∀ m ∈ u, m.a.length ≤ 9223372036854775807) (i : Int) (w : World) (hv : Rws w v l) (hnv : NilOr v) (hw : Mods w wv u) :
    Calls Try.prog 11 #[v, .string s, wv, .int .i64 i] w fun e w' => e = .returned (.tuple #[.int .i64 (cfiV (lA s) l u i), .int .i64 (cfiC (lA s) l u i)]) ∧ Below w.heap.size w w' := by
  have KC := Lib.hid (pcboth_any v l hmax hs s hss wv u hwl hwa w hv hnv hw)
  obtain ⟨p, cap, rfl⟩ := hv.slice
  obtain ⟨p2, cap2, rfl⟩ := hw.slice
  have HV := Lib.hid hv
  have HW := Lib.hid hw
  clear hv hw hnv
  by_cases hch : chB (lA s) l u = 0
  · obtain ⟨h0, h1⟩ := chB_zero hch
    have hz := cchk_zero h0
    have hu := chk_zero.1 h1
    have KL := Lib.hid (fun w h => look_any (.slice p2 u.length cap2) u h1 s w h)
    have KT := Lib.hid (fun i hi g1 g2 w h1 h2 h3 h4 => pvfirst_any (.slice p l.length cap) l (by have := (many_no hz.1).1; omega) hs (fun r hr => ⟨(hz.2.1 r hr).1, ((many_no hz.1).2 r hr).1⟩) s p2 cap2 u hu.1 (fun m hm => List.all_eq_true.1 hu.2.1 m hm) i hi g1 g2 w h1 h2 h3 h4)
    have HCh := Lib.hid hch
    rw [hch] at KC
    clear hz hu h0 h1 hch hs hwa
    generalize lA s = g at KL KT HCh ⊢
    by_cases h1 : i < 0
    · obtain ⟨f1, f2⟩ := fi_arg HCh.out (.inl h1)
      rw [f1, f2]
      go_enter Try.func11, Try.ntmps11
      go_wp2_with fail
      refine KC.out.mono ?_
      rintro e w1 ⟨rfl, hb⟩
      have B1 := Lib.hid hb
      clear hb f1 f2
      go_wp2_with fail
      go_ret2
      exact ⟨rfl, B1.out⟩
    · by_cases h2 : (u.length : Int) ≤ i
      · obtain ⟨f1, f2⟩ := fi_arg HCh.out (.inr h2)
        rw [f1, f2]
        go_enter Try.func11, Try.ntmps11
        go_wp2_with fail
        refine KC.out.mono ?_
        rintro e w1 ⟨rfl, hb⟩
        have B1 := Lib.hid hb
        clear hb f1 f2
        go_wp2_with fail
        go_ret2
        exact ⟨rfl, B1.out⟩
      · obtain ⟨n, rfl⟩ : ∃ n : Nat, i = (n : Int) := ⟨i.toNat, by omega⟩
        have hlt : n < u.length := by omega
        obtain ⟨f1, f2⟩ := fi_ok HCh.out hlt
        rw [f1, f2]
        have KT1 := Lib.hid (KT.out n hlt)
        generalize cfirst g l u n = z at KT1 ⊢
        go_enter Try.func11, Try.ntmps11
        go_wp2_with fail
        refine KC.out.mono ?_
        rintro e w1 ⟨rfl, hb⟩
        have B1 := Lib.hid hb
        clear hb f1 f2
        go_wp2_with fail
        refine (KL.out _ (HW.out.later B1.out)).mono ?_
        rintro e w2 ⟨g1, g2, rfl, hb, hr1, hr2, _, _⟩
        have B2 := Lib.hid (B1.out.trans (hb.mono B1.out.size))
        have KT2 := Lib.hid (KT1.out g1 g2 w2 (HV.out.later B2.out) (HW.out.later B2.out) hr1 hr2)
        clear hb hr1 hr2 KT KT1
        go_wp2_with fail
        refine KT2.out.mono ?_
        rintro e w3 ⟨rfl, hb⟩
        have B3 := Lib.hid (B2.out.trans (hb.mono B2.out.size))
        clear hb
        go_wp2_with fail
        go_ret2
        exact ⟨rfl, B3.out⟩
  · obtain ⟨f1, f2⟩ := fi_ch (i := i) hch
    rw [f1, f2]
    generalize chB (lA s) l u = c at KC hch ⊢
    have h2 : (c != 0) = true := by rw [bne_iff_ne]; exact hch
    clear hch f1 f2 hs hwa
    go_enter Try.func11, Try.ntmps11
    go_wp2_with fail
    refine KC.out.mono ?_
    rintro e w1 ⟨rfl, hb⟩
    have B1 := Lib.hid hb
    clear hb
    go_wp2_with fail
    go_ret2
    exact ⟨rfl, B1.out⟩
end Go.Proofs.Ytcoljbcjnggagaa
namespace Go.Proofs.Ytcoljbcjnggagaa
open Go.RowKit
open WM RM CM
set_option linter.unusedVariables false
set_option linter.unusedSimpArgs false

set_option maxRecDepth 100000 in
set_option maxHeartbeats 3200000 in
theorem neighbourL_any (v : Value) (u : List Md) (hu : u.length ≤ 9223372036854775807) (hua : ∀ m ∈ u, m.a.length ≤ 9223372036854775807) (i : Int) (s : ByteArray) (hs : s.size ≤ 9223372036854775807) (l : List Int) (hl : l.length = u.length) (x : Int)
    (hx : ∀ n : Nat, i = (n : Int) → ∀ h : n < l.length, askC (lA s) u i = 0 → l[n] = x) (hx0 : askC (lA s) u i ≠ 0 → x = 0)
    (KS : ∀ w, chk u = 0 → Mods w v u → Calls Try.prog 23 #[v, .string s] w (NbEnd l w)) (w : World) (hv : Mods w v u) :
    Calls Try.prog 22 #[.func (.func 23) #[] #[], v, .int .i64 i, .string s] w fun e w' => e = .returned (.tuple #[.int .i64 x, .int .i64 (askC (lA s) u i)]) ∧ Below w.heap.size w w' := by
  have KC := Lib.hid (fun w h => pcheck_any v u hu hua w h)
  obtain ⟨p, cap, rfl⟩ := hv.slice
  have HV := Lib.hid hv
  have KI := Lib.hid (fun w => cignorable_any s hs w)
  have KL := Lib.hid (fun c w => cletter_any c w)
  have HKS := Lib.hid KS
  clear hv KS
  generalize lA s = g at KI hx hx0 ⊢
  have HX := Lib.hid hx
  clear hx
  by_cases h0 : chk u = 0
  · rw [h0] at KC
    have HC0 := Lib.hid h0
    by_cases h1 : i < 0
    · have HF := ask_lo (g := g) h0 h1
      rw [hx0 (by rw [HF]; decide), HF]
      clear h0 HF hx0
      go_enter Try.func22, Try.ntmps22
      go_wp2_with fail
      refine (KC.out _ HV.out).mono ?_
      rintro e w1 ⟨rfl, hb⟩
      have B1 := Lib.hid hb
      clear hb
      go_wp2_with fail
      go_ret2
      exact ⟨rfl, B1.out⟩
    · by_cases h2 : (u.length : Int) ≤ i
      · have HF := ask_hi (g := g) h0 h2
        rw [hx0 (by rw [HF]; decide), HF]
        clear h0 HF hx0
        go_enter Try.func22, Try.ntmps22
        go_wp2_with fail
        refine (KC.out _ HV.out).mono ?_
        rintro e w1 ⟨rfl, hb⟩
        have B1 := Lib.hid hb
        clear hb
        go_wp2_with fail
        go_ret2
        exact ⟨rfl, B1.out⟩
      · obtain ⟨n, rfl⟩ : ∃ n : Nat, i = (n : Int) := ⟨i.toNat, by omega⟩
        have hlt : n < u.length := by omega
        have k1 : (n : Int) < (u.length : Int) := by omega
        have KL1 := Lib.hid (fun w => KL.out u[n].c w)
        have hmd : (md u ((n : Nat) : Int).toNat) = u[n] := by rw [Int.toNat_natCast, md_get hlt]
        cases hp : plnB u[n].c with
        | false =>
          rw [hp] at KL1
          have HF := ask_bra (g := g) (i := (n : Int)) h0 (by rw [hmd]; exact hp)
          rw [hx0 (by rw [HF]; decide), HF]
          clear h0 hp hmd HF hx0
          go_enter Try.func22, Try.ntmps22
          go_wp2_with fail
          refine (KC.out _ HV.out).mono ?_
          rintro e w1 ⟨rfl, hb⟩
          have B1 := Lib.hid hb
          obtain ⟨b, off, cap', q, d, hpp, e1, _, _, lb⟩ := (HV.out.later hb).at hlt
          obtain rfl : p = some ⟨b, off, none⟩ := by cases hpp; rfl
          clear hb hpp
          generalize u[n].c.toNat = xx at e1 KL1
          go_wp2_with fail
          refine (KL1.out _).mono ?_
          rintro e w2 ⟨rfl, hb⟩
          have B2 := Lib.hid (B1.out.trans (hb.mono B1.out.size))
          clear hb
          go_wp2_with fail
          go_ret2
          exact ⟨rfl, B2.out⟩
        | true =>
          rw [hp] at KL1
          have HF := ask_ign (g := g) (i := (n : Int)) h0 (by omega) k1 (by rw [hmd]; exact hp)
          clear hp hmd
          cases hg : ignB g with
          | true =>
            rw [hg] at KI HF
            rw [if_pos rfl] at HF
            have HX1 := Lib.hid (HX.out n rfl (by rw [hl]; exact hlt) HF)
            have HKS1 := Lib.hid (fun w h => HKS.out w h0 h)
            rw [HF]
            clear hg HF hx0 HX h0
            go_enter Try.func22, Try.ntmps22
            go_wp2_with fail
            refine (KC.out _ HV.out).mono ?_
            rintro e w1 ⟨rfl, hb⟩
            have B1 := Lib.hid hb
            obtain ⟨b, off, cap', q, d, hpp, e1, _, _, lb⟩ := (HV.out.later hb).at hlt
            obtain rfl : p = some ⟨b, off, none⟩ := by cases hpp; rfl
            clear hb hpp
            generalize u[n].c.toNat = xx at e1 KL1
            go_wp2_with fail
            refine (KL1.out _).mono ?_
            rintro e w2 ⟨rfl, hb⟩
            have B2 := Lib.hid (B1.out.trans (hb.mono B1.out.size))
            clear hb
            go_wp2_with fail
            refine (KI.out _).mono ?_
            rintro e w3 ⟨rfl, hb⟩
            have B3 := Lib.hid (B2.out.trans (hb.mono B2.out.size))
            clear hb
            go_wp2_with fail
            refine (HKS1.out _ (HV.out.later B3.out)).mono ?_
            rintro e w4 ⟨gl, rfl, hb, hrow, _⟩
            have B4 := Lib.hid (B3.out.trans (hb.mono B3.out.size))
            have q4 := hrow.cell (i := n) (by rw [hl]; exact hlt)
            rw [HX1.out] at q4
            rw [hl]
            clear hb hrow hl HX1
            go_wp2_with fail
            go_ret2
            exact ⟨rfl, B4.out⟩
          | false =>
            rw [hg] at KI HF
            rw [if_neg (by decide)] at HF
            rw [hx0 (by rw [HF]; decide), HF]
            clear hg HF hx0 HX h0
            go_enter Try.func22, Try.ntmps22
            go_wp2_with fail
            refine (KC.out _ HV.out).mono ?_
            rintro e w1 ⟨rfl, hb⟩
            have B1 := Lib.hid hb
            obtain ⟨b, off, cap', q, d, hpp, e1, _, _, lb⟩ := (HV.out.later hb).at hlt
            obtain rfl : p = some ⟨b, off, none⟩ := by cases hpp; rfl
            clear hb hpp
            generalize u[n].c.toNat = xx at e1 KL1
            go_wp2_with fail
            refine (KL1.out _).mono ?_
            rintro e w2 ⟨rfl, hb⟩
            have B2 := Lib.hid (B1.out.trans (hb.mono B1.out.size))
            clear hb
            go_wp2_with fail
            refine (KI.out _).mono ?_
            rintro e w3 ⟨rfl, hb⟩
            have B3 := Lib.hid (B2.out.trans (hb.mono B2.out.size))
            clear hb
            go_wp2_with fail
            go_ret2
            exact ⟨rfl, B3.out⟩
  · have HF := ask_word (g := g) (i := i) h0
    rw [hx0 (by rw [HF]; exact h0), HF]
    obtain ⟨c, hc⟩ : ∃ c, chk u = c := ⟨_, rfl⟩
    rw [hc] at KC h0 ⊢
    have t0 : (c != 0) = true := by rw [bne_iff_ne]; exact h0
    clear h0 hc HF hx0
    go_enter Try.func22, Try.ntmps22
    go_wp2_with fail
    refine (KC.out _ HV.out).mono ?_
    rintro e w1 ⟨rfl, hb⟩
    have B1 := Lib.hid hb
    clear hb
    go_wp2_with fail
    go_ret2
    exact ⟨rfl, B1.out⟩
set_option maxRecDepth 100000 in
set_option maxHeartbeats 3200000 in
theorem neighbourR_any (v : Value) (u : List Md) (hu : u.length ≤ 9223372036854775807) (hua : ∀ m ∈ u, m.a.length ≤ 9223372036854775807) (i : Int) (s : ByteArray) (hs : s.size ≤ 9223372036854775807) (l : List Int) (hl : l.length = u.length) (x : Int)
    (hx : ∀ n : Nat, i = (n : Int) → ∀ h : n < l.length, askC (lA s) u i = 0 → l[n] = x) (hx0 : askC (lA s) u i ≠ 0 → x = 0)
    (KS : ∀ w, chk u = 0 → Mods w v u → Calls Try.prog 26 #[v, .string s] w (NbEnd l w)) (w : World) (hv : Mods w v u) :
    Calls Try.prog 22 #[.func (.func 26) #[] #[], v, .int .i64 i, .string s] w fun e w' => e = .returned (.tuple #[.int .i64 x, .int .i64 (askC (lA s) u i)]) ∧ Below w.heap.size w w' := by
  have KC := Lib.hid (fun w h => pcheck_any v u hu hua w h)
  obtain ⟨p, cap, rfl⟩ := hv.slice
  have HV := Lib.hid hv
  have KI := Lib.hid (fun w => cignorable_any s hs w)
  have KL := Lib.hid (fun c w => cletter_any c w)
  have HKS := Lib.hid KS
  clear hv KS
  generalize lA s = g at KI hx hx0 ⊢
  have HX := Lib.hid hx
  clear hx
  by_cases h0 : chk u = 0
  · rw [h0] at KC
    have HC0 := Lib.hid h0
    by_cases h1 : i < 0
    · have HF := ask_lo (g := g) h0 h1
      rw [hx0 (by rw [HF]; decide), HF]
      clear h0 HF hx0
      go_enter Try.func22, Try.ntmps22
      go_wp2_with fail
      refine (KC.out _ HV.out).mono ?_
      rintro e w1 ⟨rfl, hb⟩
      have B1 := Lib.hid hb
      clear hb
      go_wp2_with fail
      go_ret2
      exact ⟨rfl, B1.out⟩
    · by_cases h2 : (u.length : Int) ≤ i
      · have HF := ask_hi (g := g) h0 h2
        rw [hx0 (by rw [HF]; decide), HF]
        clear h0 HF hx0
        go_enter Try.func22, Try.ntmps22
        go_wp2_with fail
        refine (KC.out _ HV.out).mono ?_
        rintro e w1 ⟨rfl, hb⟩
        have B1 := Lib.hid hb
        clear hb
        go_wp2_with fail
        go_ret2
        exact ⟨rfl, B1.out⟩
      · obtain ⟨n, rfl⟩ : ∃ n : Nat, i = (n : Int) := ⟨i.toNat, by omega⟩
        have hlt : n < u.length := by omega
        have k1 : (n : Int) < (u.length : Int) := by omega
        have KL1 := Lib.hid (fun w => KL.out u[n].c w)
        have hmd : (md u ((n : Nat) : Int).toNat) = u[n] := by rw [Int.toNat_natCast, md_get hlt]
        cases hp : plnB u[n].c with
        | false =>
          rw [hp] at KL1
          have HF := ask_bra (g := g) (i := (n : Int)) h0 (by rw [hmd]; exact hp)
          rw [hx0 (by rw [HF]; decide), HF]
          clear h0 hp hmd HF hx0
          go_enter Try.func22, Try.ntmps22
          go_wp2_with fail
          refine (KC.out _ HV.out).mono ?_
          rintro e w1 ⟨rfl, hb⟩
          have B1 := Lib.hid hb
          obtain ⟨b, off, cap', q, d, hpp, e1, _, _, lb⟩ := (HV.out.later hb).at hlt
          obtain rfl : p = some ⟨b, off, none⟩ := by cases hpp; rfl
          clear hb hpp
          generalize u[n].c.toNat = xx at e1 KL1
          go_wp2_with fail
          refine (KL1.out _).mono ?_
          rintro e w2 ⟨rfl, hb⟩
          have B2 := Lib.hid (B1.out.trans (hb.mono B1.out.size))
          clear hb
          go_wp2_with fail
          go_ret2
          exact ⟨rfl, B2.out⟩
        | true =>
          rw [hp] at KL1
          have HF := ask_ign (g := g) (i := (n : Int)) h0 (by omega) k1 (by rw [hmd]; exact hp)
          clear hp hmd
          cases hg : ignB g with
          | true =>
            rw [hg] at KI HF
            rw [if_pos rfl] at HF
            have HX1 := Lib.hid (HX.out n rfl (by rw [hl]; exact hlt) HF)
            have HKS1 := Lib.hid (fun w h => HKS.out w h0 h)
            rw [HF]
            clear hg HF hx0 HX h0
            go_enter Try.func22, Try.ntmps22
            go_wp2_with fail
            refine (KC.out _ HV.out).mono ?_
            rintro e w1 ⟨rfl, hb⟩
            have B1 := Lib.hid hb
            obtain ⟨b, off, cap', q, d, hpp, e1, _, _, lb⟩ := (HV.out.later hb).at hlt
            obtain rfl : p = some ⟨b, off, none⟩ := by cases hpp; rfl
            clear hb hpp
            generalize u[n].c.toNat = xx at e1 KL1
            go_wp2_with fail
            refine (KL1.out _).mono ?_
            rintro e w2 ⟨rfl, hb⟩
            have B2 := Lib.hid (B1.out.trans (hb.mono B1.out.size))
            clear hb
            go_wp2_with fail
            refine (KI.out _).mono ?_
            rintro e w3 ⟨rfl, hb⟩
            have B3 := Lib.hid (B2.out.trans (hb.mono B2.out.size))
            clear hb
            go_wp2_with fail
            refine (HKS1.out _ (HV.out.later B3.out)).mono ?_
            rintro e w4 ⟨gl, rfl, hb, hrow, _⟩
            have B4 := Lib.hid (B3.out.trans (hb.mono B3.out.size))
            have q4 := hrow.cell (i := n) (by rw [hl]; exact hlt)
            rw [HX1.out] at q4
            rw [hl]
            clear hb hrow hl HX1
            go_wp2_with fail
            go_ret2
            exact ⟨rfl, B4.out⟩
          | false =>
            rw [hg] at KI HF
            rw [if_neg (by decide)] at HF
            rw [hx0 (by rw [HF]; decide), HF]
            clear hg HF hx0 HX h0
            go_enter Try.func22, Try.ntmps22
            go_wp2_with fail
            refine (KC.out _ HV.out).mono ?_
            rintro e w1 ⟨rfl, hb⟩
            have B1 := Lib.hid hb
            obtain ⟨b, off, cap', q, d, hpp, e1, _, _, lb⟩ := (HV.out.later hb).at hlt
            obtain rfl : p = some ⟨b, off, none⟩ := by cases hpp; rfl
            clear hb hpp
            generalize u[n].c.toNat = xx at e1 KL1
            go_wp2_with fail
            refine (KL1.out _).mono ?_
            rintro e w2 ⟨rfl, hb⟩
            have B2 := Lib.hid (B1.out.trans (hb.mono B1.out.size))
            clear hb
            go_wp2_with fail
            refine (KI.out _).mono ?_
            rintro e w3 ⟨rfl, hb⟩
            have B3 := Lib.hid (B2.out.trans (hb.mono B2.out.size))
            clear hb
            go_wp2_with fail
            go_ret2
            exact ⟨rfl, B3.out⟩
  · have HF := ask_word (g := g) (i := i) h0
    rw [hx0 (by rw [HF]; exact h0), HF]
    obtain ⟨c, hc⟩ : ∃ c, chk u = c := ⟨_, rfl⟩
    rw [hc] at KC h0 ⊢
    have t0 : (c != 0) = true := by rw [bne_iff_ne]; exact h0
    clear h0 hc HF hx0
    go_enter Try.func22, Try.ntmps22
    go_wp2_with fail
    refine (KC.out _ HV.out).mono ?_
    rintro e w1 ⟨rfl, hb⟩
    have B1 := Lib.hid hb
    clear hb
    go_wp2_with fail
    go_ret2
    exact ⟨rfl, B1.out⟩
theorem lef_no {g : Bs} {u : List Md} {i : Int} (h : askC g u i ≠ 0) : lefV g u i = 0 := by unfold lefV; rw [if_neg h]
theorem rig_no {g : Bs} {u : List Md} {i : Int} (h : askC g u i ≠ 0) : rigV g u i = 0 := by unfold rigV; rw [if_neg h]
set_option maxRecDepth 100000 in
set_option maxHeartbeats 800000 in
theorem pleft_any (v : Value) (u : List Md) (hu : u.length ≤ 9223372036854775807) (hua : ∀ m ∈ u, m.a.length ≤ 9223372036854775807) (i : Int) (s : ByteArray) (hs : s.size ≤ 9223372036854775807) (w : World) (hv : Mods w v u) :
    Calls Try.prog 7 #[v, .int .i64 i, .string s] w fun e w' => e = .returned (.tuple #[.int .i64 (lefV (lA s) u i), .int .i64 (askC (lA s) u i)]) ∧ Below w.heap.size w w' := by
  have K := Lib.hid (neighbourL_any v u hu hua i s hs (lfL (lA s) u u.length) (lfL_length _ _ _) (lefV (lA s) u i)
    (fun n hn h h0 => by rw [lfL_length] at h; rw [lfL_get h, if_pos h]; unfold lefV; rw [if_pos h0, hn, Int.toNat_natCast]) lef_no
    (fun w h0 hv => lefts_any v u (chk_zero.1 h0).1 (chk_zero.1 h0).2.2.1 s w hv) w hv)
  obtain ⟨p, cap, rfl⟩ := hv.slice
  clear hv
  generalize lefV (lA s) u i = x at K ⊢
  generalize askC (lA s) u i = c at K ⊢
  go_enter Try.func7, Try.ntmps7
  go_wp2_with fail
  refine K.out.mono ?_
  rintro e w1 ⟨rfl, hb⟩
  have B1 := Lib.hid hb
  clear hb
  go_wp2_with fail
  go_ret2
  exact ⟨rfl, B1.out⟩
set_option maxRecDepth 100000 in
set_option maxHeartbeats 800000 in
theorem pright_any (v : Value) (u : List Md) (hu : u.length ≤ 9223372036854775807) (hua : ∀ m ∈ u, m.a.length ≤ 9223372036854775807) (i : Int) (s : ByteArray) (hs : s.size ≤ 9223372036854775807) (w : World) (hv : Mods w v u) :
    Calls Try.prog 9 #[v, .int .i64 i, .string s] w fun e w' => e = .returned (.tuple #[.int .i64 (rigV (lA s) u i), .int .i64 (askC (lA s) u i)]) ∧ Below w.heap.size w w' := by
  have K := Lib.hid (neighbourR_any v u hu hua i s hs (rgL (lA s) u u.length) (rgL_length _ _ _) (rigV (lA s) u i)
    (fun n hn h h0 => by rw [rgL_length] at h; rw [rgL_get h, if_pos (by omega)]; unfold rigV; rw [if_pos h0, hn, Int.toNat_natCast]) rig_no
    (fun w h0 hv => rights_any v u (chk_zero.1 h0).1 (chk_zero.1 h0).2.2.1 (chk_zero.1 h0).2.2.2 s w hv) w hv)
  obtain ⟨p, cap, rfl⟩ := hv.slice
  clear hv
  generalize rigV (lA s) u i = x at K ⊢
  generalize askC (lA s) u i = c at K ⊢
  go_enter Try.func9, Try.ntmps9
  go_wp2_with fail
  refine K.out.mono ?_
  rintro e w1 ⟨rfl, hb⟩
  have B1 := Lib.hid hb
  clear hb
  go_wp2_with fail
  go_ret2
  exact ⟨rfl, B1.out⟩
end Go.Proofs.Ytcoljbcjnggagaa
namespace Go.Proofs.Ytcoljbcjnggagaa
open Go.RowKit
open WM RM CM
set_option linter.unusedVariables false
set_option linter.unusedSimpArgs false

theorem cstp_badr {g : Bs} {l : List Rw} {u : List Md} {k : Nat} (hk : k < u.length) (hs : csuc g l u k = none) : cstp g l u u.length = none := by
  have := cstp_none hs (u.length - (k + 1))
  rwa [show k + 1 + (u.length - (k + 1)) = u.length by omega] at this
/-- How Step ends. -/
def CrsEnd (g : Bs) (l : List Rw) (wd : List Md) (w : World) (e : Ending) (w' : World) : Prop := ∃ v vs, e = .returned (.tuple #[v, .int .i64 (csC g l wd)]) ∧ Below w.heap.size w w' ∧ ModFr w' w.heap.size v (csL g l wd) vs
/-- Where the loop stands. -/
structure CrAt (w : World) (g : Bs) (l : List Rw) (wd : List Md) (k : Nat) (v : Value) (wr : World) : Prop where
  hi : k ≤ wd.length
  below : Below w.heap.size w wr
  own : ∃ d vs, cstp g l wd k = some d ∧ d.length ≤ 20 * k ∧ ModFr wr w.heap.size v d vs
set_option maxRecDepth 100000 in
set_option maxHeartbeats 6400000 in
theorem crefstep_any (v : Value) (l : List Rw) (hmax : l.length ≤ 9223372036854775807) (hs : ∀ r ∈ l, RwSm r) (s : ByteArray) (hss : s.size ≤ 9223372036854775807) (p2 : Option Addr) (cap2 : Nat) (wd : List Md) (hlc : wd.length ≤ cap2) (hwl : wd.length ≤ 2100) (hwa : ∀ m ∈ wd, m.a.length ≤ 10) (w : World) (hv : Rws w v l) (hw : Mods w (.slice p2 wd.length cap2) wd) :
    Calls Try.prog 17 #[v, .string s, .slice p2 wd.length cap2] w (CrsEnd (lA s) l wd w) := by
  obtain ⟨p, cap, rfl⟩ := hv.slice
  have HV := Lib.hid hv
  have HW := Lib.hid hw
  have KC := Lib.hid (fun w h h' => refcboth_any (.slice p l.length cap) l hmax hs s hss (.slice p2 wd.length cap2) wd hwl hwa w h h')
  have KFi := Lib.hid (fun hru huf i hi w h h' => crefirst_any (.slice p l.length cap) l hmax hru s hss (.slice p2 wd.length cap2) wd (by omega) huf i hi w h h')
  have HS := Lib.hid hs
  have HWA := Lib.hid hwa
  clear hv hw hs hwa
  generalize lA s = g at KC KFi ⊢
  by_cases hch : chB g l wd = 0
  · obtain ⟨h0, h1⟩ := chB_zero hch
    have hz := cchk_zero h0
    have H0 := Lib.hid h0
    have H1 := Lib.hid h1
    rw [hch] at KC
    have hsm : wd.length ≤ 2000 := (chk_zero.1 h1).1
    have HRl := Lib.hid (fun r hr => (hz.2.1 r hr).1)
    have HMn := Lib.hid (many_no hz.1)
    have KT := Lib.hid (fun i hi w h h' => KFi.out (fun r hr => ⟨(hz.2.1 r hr).1, by have := (HS.out r hr).1; omega⟩) (fun m hm => List.all_eq_true.1 (chk_zero.1 h1).2.1 m hm) i hi w h h')
    obtain ⟨j0, hj, hy0, hy1, hy2⟩ := info_parts info_mod
    have HM : Hid (maxLen = 9223372036854775807) := Lib.hid rfl
    clear h0 h1 hz hch KFi
    go_enter Try.func17, Try.ntmps17
    go_wp2_with fail
    refine (KC.out _ HV.out HW.out).mono ?_
    rintro e w2 ⟨rfl, hb⟩
    have B2 := Lib.hid hb
    have S2 : Hid (CrAt w g l wd 0 (.slice none 0 0) w2) := Lib.hid ⟨Nat.zero_le _, B2.out, [], [], rfl, by simp, modFr_nil _ _⟩
    clear hb
    go_wp2_with fail
    go_loopw [8, 9] (fun v i wr => ∃ k, i = .int .i64 (k : Nat) ∧ CrAt w g l wd k v wr) (fun _ i _ => wd.length - (intOf i).toNat)
    case atStart => exact ⟨0, rfl, S2.out⟩
    case round =>
      obtain ⟨k, rfl, hS⟩ := hrel
      have HSt := Lib.hid hS
      have hsz := hS.below.size
      have hkl := hS.hi
      obtain ⟨d, vs, hd, hdl, hm⟩ := hS.own
      have HD := Lib.hid hd
      have HMF := Lib.hid hm
      clear hS hd hm
      by_cases hlt : k < wd.length
      · obtain ⟨b, off, cap', q, qc, hp, e0, e1, hin, lb⟩ := (HW.out.later HSt.out.below).at hlt
        obtain rfl : p2 = some ⟨b, off, none⟩ := by cases hp; rfl
        have k1 : (k : Int) < (wd.length : Int) := by omega
        have k5 : (k : Int) + 1 ≤ (cap2 : Int) := by omega
        have k6 : cap2 - k ≠ 0 := by omega
        have HIn := Lib.hid hin
        have hfi := chk_fine1 H1.out hlt
        have HFi := Lib.hid hfi
        have KT1 := Lib.hid (KT.out k hlt wr (HV.out.later HSt.out.below) (HW.out.later HSt.out.below))
        obtain ⟨z, hz⟩ : ∃ z, cfirst g l wd k = z := ⟨_, rfl⟩
        have HZ := Lib.hid hz
        rw [hz] at KT1
        clear hp hin hfi hz
        go_wp2_with fail
        refine KT1.out.mono ?_
        rintro e w3 ⟨rfl, hb⟩
        have B3 := Lib.hid hb
        have D3 := Lib.hid (HSt.out.below.trans (hb.mono hsz))
        clear hb
        by_cases hz0 : z < 0
        · have HSu2 : Hid (cstp g l wd (k + 1) = some (d ++ [wd[k]])) := Lib.hid (by rw [← md_get hlt]; exact cstp_succ HD.out (csuc_self (by rw [HZ.out]; exact hz0)))
          have hwk := HWA.out _ (List.getElem_mem hlt)
          have KTw := Lib.hid (twin_any (.slice (some ⟨b, off + k * 2, none⟩) 1 (cap2 - k)) [wd[k]] (by simp) (by simpa using hwk) w3 (mods_at1 (HW.out.later D3.out) hlt))
          clear hwk
          generalize hms : [wd[k]] = ms at KTw HSu2
          have hml : ms.length ≤ 1 := by rw [← hms]; exact Nat.le_refl _
          clear hms
          go_wp2_with fail
          refine KTw.out.mono ?_
          rintro e w4 ⟨mv, mvs, rfl, hb, hmo⟩
          have E3 := Lib.hid (B3.out.trans (hb.mono B3.out.size))
          have M2 := Lib.hid ((modFr_of_own hmo).mono B3.out.size)
          clear hb hmo
          have HS5 := Lib.hid (HSt.out.below.trans (E3.out.mono hsz))
          have H1r := Lib.hid ((HMF.out.later E3.out).row)
          rcases j_slice M2.out with ⟨rfl, hb0⟩ | ⟨ad, c, rfl⟩
          · have HT : Hid (CrAt w g l wd (k + 1) u8 w4) := Lib.hid ⟨hlt, HS5.out, d, vs, by rw [HSu2.out, hb0, List.append_nil], by omega, HMF.out.later E3.out⟩
            clear hb0
            go_wp2_with (at_builtin; refine j_append_nil rfl _ _ 23 rfl w.heap.size 55 j0 2 Try.underlying23 hj u8 d.length (modC d vs) rfl H1r.out rfl ?_)
            go_wp2_with fail
            go_roundw
            case rel => exact ⟨k + 1, by go_num, HT.out⟩
            case measure => first | (simp [intOf]; done) | (simp [intOf]; omega)
          · have H3 := Lib.hid (j_cells M2.out).2
            have H4 := Lib.hid (j_one M2.out)
            have hzz := E3.out.size
            go_wp2_with (at_builtin; refine wpList_append_own_at _ rfl _ _ 23 rfl w.heap.size 55 j0 (.agg #[.int .u8 0, .slice none 0 0]) 2 32 Try.underlying23 hj hy0 hy1 hy2 rfl (by decide) u8 d.length (modC d vs) rfl H1r.out ad (ms).length c (modC (ms) mvs) rfl (modC_length _ _ M2.out.len.symm) H3.out H4.out (by rw [HM.out]; omega) (by omega) (by omega) ?_; intro v2 w5 ho2 hg2 hn2 hb2)
            have M3 := Lib.hid (modFr_join HMF.out E3.out M2.out hsz ho2 hg2 hb2)
            have hvl := owns_lt HMF.out.row
            have B6 := Lib.hid (HS5.out.grown hg2 HS5.out.size (fun j e => (hvl j e).1))
            have HT : Hid (CrAt w g l wd (k + 1) v2 w5) := Lib.hid ⟨hlt, B6.out, d ++ ms, vs ++ mvs, HSu2.out, by rw [List.length_append]; omega, M3.out⟩
            clear ho2 hg2 hn2 hb2 hvl
            go_wp2_with fail
            go_roundw
            case rel => exact ⟨k + 1, by go_num, HT.out⟩
            case measure => first | (simp [intOf]; done) | (simp [intOf]; omega)
        · obtain ⟨kk, hkk⟩ : ∃ kk : Nat, z = (kk : Int) := ⟨z.toNat, by omega⟩
          subst hkk
          obtain ⟨hkl2, hfitc⟩ := fstF_fit HZ.out
          have hfit : fitB l[kk] wd[k] = true := by have := cfit_fit hfitc; rwa [md_get hlt] at this
          have HSu : Hid (csuc g l wd k = made l[kk] wd[k]) := Lib.hid (by rw [csuc_made HZ.out hkl2, md_get hlt])
          obtain ⟨b3, off3, cap3, gg, gc, o, oc, hp3, lb3, hat⟩ := (HV.out.later D3.out).at hkl2
          obtain rfl : p = some ⟨b3, off3, none⟩ := by cases hp3; rfl
          have k7 : (kk : Int) < (l.length : Int) := by omega
          have k8 : ¬ ((kk : Int) < 0) := by omega
          have f0 := (B3.out.cell (p := ⟨b, off + k * 2, none⟩) lb).trans e0
          have f1 := (B3.out.cell (p := ⟨b, off + k * 2 + 1, none⟩) lb).trans e1
          have LB3 : Hid (b3 < w3.heap.size) := Lib.hid lb3
          have LB : Hid (b < w3.heap.size) := Lib.hid (Nat.lt_of_lt_of_le lb B3.out.size)
          have HF4 := Lib.hid (fit_ar hfit)
          have HRu := Lib.hid (HRl.out _ (List.getElem_mem hkl2))
          have HSm := Lib.hid (HS.out _ (List.getElem_mem hkl2))
          have HGs := Lib.hid hat.gs
          have HOs := Lib.hid hat.out
          have HI3 := Lib.hid (HIn.out.later B3.out)
          obtain ⟨x0, x1, x2, x3, x4, x5, x6, _, _⟩ := hat
          clear hp3 hfit hfitc
          have KM0 : Hid (∀ w', Below w3.heap.size w3 w' → Calls Try.prog 41 #[.agg #[.int .u8 l[kk].c.toNat, .int .i64 l[kk].ar, .int .u8 l[kk].l.toNat, .int .u8 l[kk].r.toNat, .slice gg l[kk].gs.length gc, .int .i64 l[kk].wt, .slice o l[kk].out.length oc], .agg #[.int .u8 wd[k].c.toNat, .slice q wd[k].a.length qc]] w' (MdEnd l[kk] wd[k] w')) :=
            Lib.hid (fun w' hb => refmade_any l[kk] wd[k] _ _ _ HSm.out (by have := rule_forms HRu.out; rw [HF4.out] at this; exact this) HFi.out w' (HGs.out.later hb) (HOs.out.later hb) (HI3.out.later hb))
          cases hmd : made l[kk] wd[k] with
          | none =>
            have KMd : Hid (∀ w', Below w3.heap.size w3 w' → Calls Try.prog 41 #[.agg #[.int .u8 l[kk].c.toNat, .int .i64 l[kk].ar, .int .u8 l[kk].l.toNat, .int .u8 l[kk].r.toNat, .slice gg l[kk].gs.length gc, .int .i64 l[kk].wt, .slice o l[kk].out.length oc], .agg #[.int .u8 wd[k].c.toNat, .slice q wd[k].a.length qc]] w' fun e w'' => e = .returned (.tuple #[.slice none 0 0, .bool false]) ∧ Below w'.heap.size w' w'') :=
              Lib.hid (fun w' hb => (KM0.out w' hb).mono (by
                rintro e w'' ⟨hb2, ⟨_, rfl⟩ | ⟨v, vs, hy, _⟩⟩
                · exact ⟨rfl, hb2⟩
                · rw [hmd] at hy; simp at hy))
            rw [hmd] at HSu
            have HE : Hid (∀ w', Below w.heap.size w w' → CrsEnd g l wd w (.returned (.tuple #[.slice none 0 0, .int .i64 16])) w') := Lib.hid (fun w' hb => by
              have h5 := cs_none H0.out H1.out (cstp_badr hlt HSu.out)
              exact ⟨_, [], by rw [h5.1], hb, by rw [h5.2]; exact modFr_nil _ _⟩)
            clear hmd
            go_wp2_with fail
            go_region_held3 (fun w' => (∀ o, w'.cell? ⟨b3, o, none⟩ = w3.cell? ⟨b3, o, none⟩) ∧ (∀ o, w'.cell? ⟨b, o, none⟩ = w3.cell? ⟨b, o, none⟩)) (exact st_keep2 LB3.out LB.out ((by with_reducible (repeat (first | exact Below.refl _ _ | refine st_chain ?_ (Hid.out (by assumption)) | refine st_chain ?_ ((Below.refl _ _).alloc (Nat.le_refl _) _) | refine st_chain ?_ (Below.refl _ _).drew))))) (first
              | (go_at_call 41; with_reducible refine (KMd.out _ ((by with_reducible (repeat (first | exact Below.refl _ _ | refine st_chain ?_ (Hid.out (by assumption)) | refine st_chain ?_ ((Below.refl _ _).alloc (Nat.le_refl _) _) | refine st_chain ?_ (Below.refl _ _).drew))))).mono ?_; intro e w' hend; obtain ⟨he, hb⟩ := hend; subst he; replace hb := Lib.hid hb))
            have hb3 : Below w3.heap.size w3 w' := (by with_reducible (repeat (first | exact Below.refl _ _ | refine st_chain ?_ (Hid.out (by assumption)) | refine st_chain ?_ ((Below.refl _ _).alloc (Nat.le_refl _) _) | refine st_chain ?_ (Below.refl _ _).drew)))
            have HF := Lib.hid (HE.out _ (D3.out.trans (hb3.mono D3.out.size)))
            clear hb3
            go_wp2_with fail
            go_ret2
            exact HF.out
          | some ms =>
            have hms : ms = l[kk].out.map (mkM · wd[k].a) := by
              unfold made at hmd
              split at hmd
              · exact (Option.some.inj hmd).symm
              · simp at hmd
            have hml : ms.length ≤ 20 := by
              rw [hms, List.length_map]
              exact (HMn.out.2 _ (List.getElem_mem hkl2)).2
            have KMd : Hid (∀ w', Below w3.heap.size w3 w' → Calls Try.prog 41 #[.agg #[.int .u8 l[kk].c.toNat, .int .i64 l[kk].ar, .int .u8 l[kk].l.toNat, .int .u8 l[kk].r.toNat, .slice gg l[kk].gs.length gc, .int .i64 l[kk].wt, .slice o l[kk].out.length oc], .agg #[.int .u8 wd[k].c.toNat, .slice q wd[k].a.length qc]] w' fun e w'' => ∃ v vs, e = .returned (.tuple #[v, .bool true]) ∧ Below w'.heap.size w' w'' ∧ ModFr w'' w3.heap.size v ms vs) :=
              Lib.hid (fun w' hb => (KM0.out w' hb).mono (by
                rintro e w'' ⟨hb2, ⟨hno, _⟩ | ⟨v, vs, hy, rfl, hm2⟩⟩
                · rw [hmd] at hno; simp at hno
                · exact ⟨v, vs, rfl, hb2, by rw [hms]; exact hm2.mono hb.size⟩))
            rw [hmd] at HSu
            have HSu2 : Hid (cstp g l wd (k + 1) = some (d ++ ms)) := Lib.hid (cstp_succ HD.out HSu.out)
            clear hmd hms HSu
            go_wp2_with fail
            go_region_held3 (fun w' => (∀ o, w'.cell? ⟨b3, o, none⟩ = w3.cell? ⟨b3, o, none⟩) ∧ (∀ o, w'.cell? ⟨b, o, none⟩ = w3.cell? ⟨b, o, none⟩)) (exact st_keep2 LB3.out LB.out ((by with_reducible (repeat (first | exact Below.refl _ _ | refine st_chain ?_ (Hid.out (by assumption)) | refine st_chain ?_ ((Below.refl _ _).alloc (Nat.le_refl _) _) | refine st_chain ?_ (Below.refl _ _).drew))))) (first
              | (go_at_call 41; with_reducible refine (KMd.out _ ((by with_reducible (repeat (first | exact Below.refl _ _ | refine st_chain ?_ (Hid.out (by assumption)) | refine st_chain ?_ ((Below.refl _ _).alloc (Nat.le_refl _) _) | refine st_chain ?_ (Below.refl _ _).drew))))).mono ?_; intro e w' hend; obtain ⟨mv, mvs, he, hb, hmm⟩ := hend; subst he; replace hb := Lib.hid hb; replace hmm := Lib.hid hmm))
            have hb3 : Below w3.heap.size w3 w' := (by with_reducible (repeat (first | exact Below.refl _ _ | refine st_chain ?_ (Hid.out (by assumption)) | refine st_chain ?_ ((Below.refl _ _).alloc (Nat.le_refl _) _) | refine st_chain ?_ (Below.refl _ _).drew)))
            have E3 := Lib.hid (B3.out.trans (hb3.mono B3.out.size))
            have M2 := Lib.hid (hmm.out.mono B3.out.size)
            clear hb hmm hb3
            have HS5 := Lib.hid (HSt.out.below.trans (E3.out.mono hsz))
            have H1r := Lib.hid ((HMF.out.later E3.out).row)
            rcases j_slice M2.out with ⟨rfl, hb0⟩ | ⟨ad, c, rfl⟩
            · have HT : Hid (CrAt w g l wd (k + 1) u8 w') := Lib.hid ⟨hlt, HS5.out, d, vs, by rw [HSu2.out, hb0, List.append_nil], by omega, HMF.out.later E3.out⟩
              clear hb0
              go_wp2_with (at_builtin; refine j_append_nil rfl _ _ 23 rfl w.heap.size 55 j0 2 Try.underlying23 hj u8 d.length (modC d vs) rfl H1r.out rfl ?_)
              go_wp2_with fail
              go_roundw
              case rel => exact ⟨k + 1, by go_num, HT.out⟩
              case measure => first | (simp [intOf]; done) | (simp [intOf]; omega)
            · have H3 := Lib.hid (j_cells M2.out).2
              have H4 := Lib.hid (j_one M2.out)
              have hzz := E3.out.size
              go_wp2_with (at_builtin; refine wpList_append_own_at _ rfl _ _ 23 rfl w.heap.size 55 j0 (.agg #[.int .u8 0, .slice none 0 0]) 2 32 Try.underlying23 hj hy0 hy1 hy2 rfl (by decide) u8 d.length (modC d vs) rfl H1r.out ad (ms).length c (modC (ms) mvs) rfl (modC_length _ _ M2.out.len.symm) H3.out H4.out (by rw [HM.out]; omega) (by omega) (by omega) ?_; intro v2 w5 ho2 hg2 hn2 hb2)
              have M3 := Lib.hid (modFr_join HMF.out E3.out M2.out hsz ho2 hg2 hb2)
              have hvl := owns_lt HMF.out.row
              have B6 := Lib.hid (HS5.out.grown hg2 HS5.out.size (fun j e => (hvl j e).1))
              have HT : Hid (CrAt w g l wd (k + 1) v2 w5) := Lib.hid ⟨hlt, B6.out, d ++ ms, vs ++ mvs, HSu2.out, by rw [List.length_append]; omega, M3.out⟩
              clear ho2 hg2 hn2 hb2 hvl
              go_wp2_with fail
              go_roundw
              case rel => exact ⟨k + 1, by go_num, HT.out⟩
              case measure => first | (simp [intOf]; done) | (simp [intOf]; omega)
      · obtain rfl : k = wd.length := by omega
        have k1 : ¬ (wd.length : Int) < (wd.length : Int) := by omega
        obtain ⟨pu, cu, rfl⟩ := own_sl HMF.out.row
        by_cases h4 : 2000 < d.length
        · have c4 : (2000 : Int) < (d.length : Int) := by omega
          have HE : Hid (CrsEnd g l wd w (.returned (.tuple #[.slice none 0 0, .int .i64 4])) wr) := Lib.hid (by
            have h5 := cs_many H0.out H1.out HD.out h4
            exact ⟨_, [], by rw [h5.1], HSt.out.below, by rw [h5.2]; exact modFr_nil _ _⟩)
          go_wp2_with fail
          go_ret2
          exact HE.out
        · have c4 : ¬ (2000 : Int) < (d.length : Int) := by omega
          have HE : Hid (CrsEnd g l wd w (.returned (.tuple #[.slice pu d.length cu, .int .i64 0])) wr) := Lib.hid (by
            have h5 := cs_ok H0.out H1.out HD.out h4
            exact ⟨_, vs, by rw [h5.1], HSt.out.below, by rw [h5.2]; exact HMF.out⟩)
          go_wp2_with fail
          go_ret2
          exact HE.out
  · have hcs : csC g l wd = chB g l wd ∧ csL g l wd = [] := by
      by_cases h0 : cchk g l = 0
      · rw [chB_ok h0] at hch ⊢; exact cs_word h0 hch
      · rw [chB_no h0]; exact cs_rules h0
    have HE : Hid (∀ w', Below w.heap.size w w' → CrsEnd g l wd w (.returned (.tuple #[.slice none 0 0, .int .i64 (chB g l wd)])) w') := Lib.hid (fun w' hb => ⟨_, [], by rw [hcs.1], hb, by rw [hcs.2]; exact modFr_nil _ _⟩)
    obtain ⟨c, hc⟩ : ∃ c, chB g l wd = c := ⟨_, rfl⟩
    rw [hc] at KC HE hch
    have h2 : (c != 0) = true := by rw [bne_iff_ne]; exact hch
    clear hch hc hcs
    go_enter Try.func17, Try.ntmps17
    go_wp2_with fail
    refine (KC.out _ HV.out HW.out).mono ?_
    rintro e w1 ⟨rfl, hb⟩
    have B1 := Lib.hid hb
    clear hb
    go_wp2_with fail
    refine (KC.out _ (HV.out.later B1.out) (HW.out.later B1.out)).mono ?_
    rintro e w2 ⟨rfl, hb⟩
    have B2 := Lib.hid (B1.out.trans (hb.mono B1.out.size))
    clear hb
    go_wp2_with fail
    go_ret2
    exact HE.out _ B2.out
end Go.Proofs.Ytcoljbcjnggagaa
