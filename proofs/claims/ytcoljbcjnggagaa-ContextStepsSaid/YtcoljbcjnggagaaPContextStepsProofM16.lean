/-
  Texts of the proof, merged: PConPrK, PConRefS, PConRefU, PRewSpoil, PConSpoil.
-/
import Derived.Test.YtcoljbcjnggagaaPContextStepsProofM15
import Derived.Test.YtcoljbcjnggagaaPContextStepsProofM14
import Derived.Test.YtcoljbcjnggagaaPContextStepsProofM12
import Derived.Test.YtcoljbcjnggagaaPContextStepsProofM5
import Derived.Test.YtcoljbcjnggagaaPContextStepsProofM4
namespace Go.Proofs.Ytcoljbcjnggagaa
open Go.RowKit
open WM RM CM
set_option linter.unusedVariables false
set_option linter.unusedSimpArgs false

theorem csp_eq (g : Bs) (l : List Rw) (u : List Md) (b0 : Nat) (w : World) (e : Ending) (w' : World) : CspEnd g l u b0 w e w' ↔ ∃ v vs, e = .returned (.tuple #[v, .int .i64 (csC g l u)]) ∧ Below w.heap.size w w' ∧ ModFr w' b0 v (csL g l u) vs := Iff.rfl
/-- How Run ends. -/
def CpuEnd (g : Bs) (l : List Rw) (wd : List Md) (n : Int) (w : World) (e : Ending) (w' : World) : Prop := ∃ v vs, e = .returned (.tuple #[v, .int .i64 (cruC g l wd n)]) ∧ Below w.heap.size w w' ∧ ModFr w' w.heap.size v (cruL g l wd n) vs
/-- Where the loop stands. -/
structure CpnAt (w : World) (g : Bs) (l : List Rw) (wd : List Md) (n i : Nat) (u : List Md) (v : Value) (wr : World) : Prop where
  hi : i ≤ n
  below : Below w.heap.size w wr
  own : ∃ vs, ModFr wr w.heap.size v u vs
  ok : chk u = 0
  eq : cruF g l n wd = cruF g l (n - i) u
theorem chB_run {g : Bs} {l : List Rw} {u : List Md} {n : Int} (h : chB g l u ≠ 0) : cruC g l u n = chB g l u ∧ cruL g l u n = [] := by
  by_cases h0 : cchk g l = 0
  · rw [chB_ok h0] at h ⊢
    exact cru_word h0 h
  · rw [chB_no h0]; exact cru_rules h0
set_option maxRecDepth 100000 in
set_option maxHeartbeats 6400000 in
theorem cprun_any (v : Value) (l : List Rw) (hmax : l.length ≤ 50) (hs : ∀ r ∈ l, RwSm r) (s : ByteArray) (hss : s.size ≤ 9223372036854775807) (wv : Value) (wd : List Md) (hwl : wd.length ≤ 9223372036854775807) (hwa : ∀ m ∈ wd, m.a.length ≤ 9223372036854775807) (n : Int) (w : World) (hv : Rws w v l) (hnv : NilOr v) (hw : Mods w wv wd) (hnil : NilOr wv) :
    Calls Try.prog 18 #[v, .string s, wv, .int .i64 n] w (CpuEnd (lA s) l wd n w) := by
  have KC := Lib.hid (pcboth_any v l hmax hs s hss wv wd hwl hwa w hv hnv hw)
  have KStp := Lib.hid (fun p cap h0 wv u us h1 b0 w h2 h3 h4 => cpstep_any p cap l hs s h0 wv u us h1 b0 w h2 h3 h4)
  obtain ⟨p, cap, rfl⟩ := hv.slice
  obtain ⟨p2, cap2, rfl⟩ := hw.slice
  have HV := Lib.hid hv
  have HW := Lib.hid hw
  clear hv hw hwa hs hnv
  generalize lA s = g at KC KStp ⊢
  by_cases hch : chB g l wd = 0
  · obtain ⟨h0, h1⟩ := chB_zero hch
    have H0 := Lib.hid h0
    have H1 := Lib.hid h1
    have KT := Lib.hid (fun (w : World) (h : Mods w (.slice p2 wd.length cap2) wd) => ptwin_any (.slice p2 wd.length cap2) wd (by have := (chk_zero.1 h1).1; omega) (fun m hm => by have := chk_args h1 m hm; omega) w h hnil)
    rw [hch] at KC
    clear h0 h1 hch hnil
    by_cases h2 : n < 0
    · have HE : Hid (∀ w', Below w.heap.size w w' → CpuEnd g l wd n w (.returned (.tuple #[.slice none 0 0, .int .i64 2])) w') := Lib.hid (fun w' hb => by
        have h5 := cru_arg (n := n) H0.out H1.out (.inl h2)
        exact ⟨_, [], by rw [h5.1], hb, by rw [h5.2]; exact modFr_nil _ _⟩)
      go_enter Try.func18, Try.ntmps18
      go_wp2_with fail
      refine KC.out.mono ?_
      rintro e w1 ⟨rfl, hb⟩
      have B1 := Lib.hid hb
      clear hb
      go_wp2_with fail
      go_ret2
      exact HE.out _ B1.out
    · by_cases h3 : 30 < n
      · have HE : Hid (∀ w', Below w.heap.size w w' → CpuEnd g l wd n w (.returned (.tuple #[.slice none 0 0, .int .i64 2])) w') := Lib.hid (fun w' hb => by
          have h5 := cru_arg (n := n) H0.out H1.out (.inr h3)
          exact ⟨_, [], by rw [h5.1], hb, by rw [h5.2]; exact modFr_nil _ _⟩)
        go_enter Try.func18, Try.ntmps18
        go_wp2_with fail
        refine KC.out.mono ?_
        rintro e w1 ⟨rfl, hb⟩
        have B1 := Lib.hid hb
        clear hb
        go_wp2_with fail
        go_ret2
        exact HE.out _ B1.out
      · obtain ⟨N, hN⟩ : ∃ N : Nat, n = (N : Int) := ⟨n.toNat, by omega⟩
        subst hN
        have HR : Hid (∀ c u, cruF g l N wd = (c, u) → cruC g l wd (N : Int) = c ∧ cruL g l wd (N : Int) = if c = 0 then u else []) := Lib.hid (fun c u h => cru_run H0.out H1.out (by omega) h)
        go_enter Try.func18, Try.ntmps18
        go_wp2_with fail
        refine KC.out.mono ?_
        rintro e w1 ⟨rfl, hb⟩
        have B2 := Lib.hid hb
        clear hb
        go_wp2_with fail
        refine (KT.out _ (HW.out.later B2.out)).mono ?_
        rintro e w3 ⟨v3, vs3, rfl, hb, hmo⟩
        have S3 : Hid (CpnAt w g l wd N 0 wd v3 w3) := Lib.hid ⟨Nat.zero_le _, B2.out.trans (hb.mono B2.out.size), ⟨vs3, hmo.mono B2.out.size⟩, H1.out, rfl⟩
        clear hb hmo
        go_wp2_with fail
        go_loopw [11, 30] (fun v i wr => ∃ (i' : Nat) (u : List Md), i = .int .i64 (i' : Nat) ∧ CpnAt w g l wd N i' u v wr) (fun _ i _ => N - (intOf i).toNat)
        case atStart => exact ⟨0, wd, rfl, S3.out⟩
        case round =>
          rename World => wo
          obtain ⟨i, u, rfl, hS⟩ := hrel
          have HSt := Lib.hid hS
          have hi := hS.hi
          have hsz := hS.below.size
          obtain ⟨vs, hm⟩ := hS.own
          obtain ⟨q, c, hq⟩ := fr_slice hm.row
          subst hq
          have HMF := Lib.hid hm
          have HOk := Lib.hid hS.ok
          clear hS hm
          by_cases hlt : i < N
          · have k1 : (i : Int) < (N : Int) := by omega
            have HEq : Hid (cruF g l N wd = cruF g l (N - (i + 1) + 1) u) := Lib.hid (by rw [HSt.out.eq]; congr 1; omega)
            have KS1 := Lib.hid (KStp.out p cap H0.out (.slice q u.length c) u vs HOk.out w.heap.size wo hsz (HV.out.later HSt.out.below) HMF.out)
            unfold CspEnd at KS1
            by_cases h5 : csC g l u = 0
            · have HN : Hid (∀ w' v' vs', Below wo.heap.size wo w' → ModFr w' w.heap.size v' (csL g l u) vs' → CpnAt w g l wd N (i + 1) (csL g l u) v' w') := Lib.hid (fun w' v' vs' hb hm =>
                ⟨hlt, HSt.out.below.trans (hb.mono hsz), ⟨vs', hm⟩, csL_chk H0.out HOk.out, by rw [HEq.out, cruF_ok h5]⟩)
              rw [h5] at KS1
              clear h5
              go_wp2_with fail
              refine KS1.out.mono ?_
              rintro e w4 ⟨v4, vs4, rfl, hb, hm⟩
              have HT := Lib.hid (HN.out _ _ _ hb hm)
              clear hb hm
              go_wp2_with fail
              go_roundw
              case rel => exact ⟨i + 1, _, by go_num, HT.out⟩
              case measure => first | (simp [intOf]; done) | (simp [intOf]; omega)
            · have HE : Hid (∀ w', Below wo.heap.size wo w' → CpuEnd g l wd (N : Int) w (.returned (.tuple #[.slice none 0 0, .int .i64 (csC g l u)])) w') := Lib.hid (fun w' hb => by
                have h6 := HR.out _ _ (HEq.out.trans (cruF_no h5))
                rw [if_neg h5] at h6
                exact ⟨_, [], by rw [h6.1], HSt.out.below.trans (hb.mono hsz), by rw [h6.2]; exact modFr_nil _ _⟩)
              obtain ⟨z, hz⟩ : ∃ z, csC g l u = z := ⟨_, rfl⟩
              rw [hz] at KS1 HE h5
              have h6 : (z != 0) = true := by rw [bne_iff_ne]; exact h5
              clear h5 hz
              go_wp2_with fail
              refine KS1.out.mono ?_
              rintro e w4 ⟨v4, vs4, rfl, hb, hm⟩
              have B4 := Lib.hid hb
              clear hb hm
              go_wp2_with fail
              go_ret2
              exact HE.out _ B4.out
          · obtain rfl : i = N := by omega
            have k1 : ¬ (i : Int) < (i : Int) := by omega
            have HE : Hid (CpuEnd g l wd (i : Int) w (.returned (.tuple #[.slice q u.length c, .int .i64 0])) wo) := Lib.hid (by
              have h6 := HR.out 0 u (by rw [HSt.out.eq, Nat.sub_self]; rfl)
              rw [if_pos rfl] at h6
              exact ⟨_, vs, by rw [h6.1], HSt.out.below, by rw [h6.2]; exact HMF.out⟩)
            go_wp2_with fail
            go_ret2
            exact HE.out
  · have HE : Hid (∀ w', Below w.heap.size w w' → CpuEnd g l wd n w (.returned (.tuple #[.slice none 0 0, .int .i64 (chB g l wd)])) w') := Lib.hid (fun w' hb => ⟨_, [], by rw [(chB_run hch).1], hb, by rw [(chB_run hch).2]; exact modFr_nil _ _⟩)
    obtain ⟨c, hc⟩ : ∃ c, chB g l wd = c := ⟨_, rfl⟩
    rw [hc] at KC HE hch
    have h2 : (c != 0) = true := by rw [bne_iff_ne]; exact hch
    clear hch hc
    go_enter Try.func18, Try.ntmps18
    go_wp2_with fail
    refine KC.out.mono ?_
    rintro e w1 ⟨rfl, hb⟩
    have B1 := Lib.hid hb
    clear hb
    go_wp2_with fail
    go_ret2
    exact HE.out _ B1.out
theorem cru_one (g : Bs) (l : List Rw) (wd : List Md) : cruC g l wd 1 = csC g l wd ∧ cruL g l wd 1 = csL g l wd := by
  have hr : cruF g l 1 wd = if csC g l wd ≠ 0 then (csC g l wd, []) else (0, csL g l wd) := by
    rw [cruF]
    split
    · rfl
    · rw [cruF]
  have e : cruC g l wd 1 = csC g l wd := by
    unfold cruC
    by_cases h0 : cchk g l = 0
    · by_cases h1 : chk wd = 0
      · rw [if_neg (by simp [h0]), if_neg (by simp [h1]), if_neg (by omega)]
        show (cruF g l 1 wd).1 = _
        rw [hr]
        split
        · rfl
        · rename_i h; simp at h; exact h.symm
      · rw [if_neg (by simp [h0]), if_pos h1, (cs_word h0 h1).1]
    · rw [if_pos h0, (cs_rules h0).1]
  refine ⟨e, ?_⟩
  unfold cruL
  rw [e]
  by_cases h : csC g l wd = 0
  · rw [if_pos h]
    show (cruF g l 1 wd).2 = _
    rw [hr, if_neg (by simp [h])]
  · rw [if_neg h]
    unfold csL; rw [if_neg h]
/-- How Step ends. -/
def CptEnd (g : Bs) (l : List Rw) (wd : List Md) (w : World) (e : Ending) (w' : World) : Prop := ∃ v vs, e = .returned (.tuple #[v, .int .i64 (csC g l wd)]) ∧ Below w.heap.size w w' ∧ ModFr w' w.heap.size v (csL g l wd) vs
set_option maxRecDepth 100000 in
set_option maxHeartbeats 1600000 in
theorem cpstep1_any (v : Value) (l : List Rw) (hmax : l.length ≤ 50) (hs : ∀ r ∈ l, RwSm r) (s : ByteArray) (hss : s.size ≤ 9223372036854775807) (wv : Value) (wd : List Md) (hwl : wd.length ≤ 9223372036854775807) (hwa : ∀ m ∈ wd, m.a.length ≤ 9223372036854775807) (w : World) (hv : Rws w v l) (hnv : NilOr v) (hw : Mods w wv wd) (hnil : NilOr wv) :
    Calls Try.prog 16 #[v, .string s, wv] w (CptEnd (lA s) l wd w) := by
  have K := Lib.hid (cprun_any v l hmax hs s hss wv wd hwl hwa 1 w hv hnv hw hnil)
  obtain ⟨p, cap, rfl⟩ := hv.slice
  obtain ⟨p2, cap2, rfl⟩ := hw.slice
  unfold CpuEnd at K
  rw [(cru_one (lA s) l wd).1, (cru_one (lA s) l wd).2] at K
  generalize lA s = g at K ⊢
  clear hv hw hs hwa hnil hnv
  obtain ⟨c, hc⟩ : ∃ c, csC g l wd = c := ⟨_, rfl⟩
  have HC := Lib.hid hc
  rw [hc] at K
  clear hc
  go_enter Try.func16, Try.ntmps16
  go_wp2_with fail
  refine K.out.mono ?_
  rintro e w1 ⟨v1, vs, rfl, hb, hm⟩
  have HE : Hid (CptEnd g l wd w (.returned (.tuple #[v1, .int .i64 c])) w1) := Lib.hid ⟨_, vs, by rw [HC.out], hb, hm⟩
  clear hb hm
  go_wp2_with fail
  go_ret2
  exact HE.out
theorem fi_ch {g : Bs} {l : List Rw} {u : List Md} {i : Int} (h : chB g l u ≠ 0) : cfiC g l u i = chB g l u ∧ cfiV g l u i = 0 := by
  have e : cfiC g l u i = chB g l u := by
    unfold cfiC
    by_cases h0 : cchk g l = 0
    · rw [chB_ok h0] at h ⊢
      rw [if_neg (by simp [h0]), if_pos h]
    · rw [chB_no h0, if_pos h0]
  exact ⟨e, by unfold cfiV; rw [e, if_neg h]⟩
theorem fi_arg {g : Bs} {l : List Rw} {u : List Md} {i : Int} (h : chB g l u = 0) (h1 : i < 0 ∨ (u.length : Int) ≤ i) : cfiC g l u i = 2 ∧ cfiV g l u i = 0 := by
  obtain ⟨a, b⟩ := chB_zero h
  have e : cfiC g l u i = 2 := by unfold cfiC; rw [if_neg (by simp [a]), if_neg (by simp [b]), if_pos h1]
  exact ⟨e, by unfold cfiV; rw [e]; rfl⟩
theorem fi_ok {g : Bs} {l : List Rw} {u : List Md} {i : Nat} (h : chB g l u = 0) (h1 : i < u.length) : cfiC g l u (i : Int) = 0 ∧ cfiV g l u (i : Int) = cfirst g l u i := by
  obtain ⟨a, b⟩ := chB_zero h
  have e : cfiC g l u (i : Int) = 0 := by unfold cfiC; rw [if_neg (by simp [a]), if_neg (by simp [b]), if_neg (by omega)]
  exact ⟨e, by unfold cfiV; rw [e, if_pos rfl, Int.toNat_natCast]⟩
set_option maxRecDepth 100000 in
set_option maxHeartbeats 3200000 in
theorem cpfind_any (v : Value) (l : List Rw) (hmax : l.length ≤ 50) (hs : ∀ r ∈ l, RwSm r) (s : ByteArray) (hss : s.size ≤ 9223372036854775807) (wv : Value) (u : List Md) (hwl : u.length ≤ 9223372036854775807) (hwa : ∀ m ∈ u, m.a.length ≤ 9223372036854775807) (i : Int) (w : World) (hv : Rws w v l) (hnv : NilOr v) (hw : Mods w wv u) :
    Calls Try.prog 11 #[v, .string s, wv, .int .i64 i] w fun e w' => e = .returned (.tuple #[.int .i64 (cfiV (lA s) l u i), .int .i64 (cfiC (lA s) l u i)]) ∧ Below w.heap.size w w' := by
  have KC := Lib.hid (pcboth_any v l hmax hs s hss wv u hwl hwa w hv hnv hw)
  obtain ⟨p, cap, rfl⟩ := hv.slice
  obtain ⟨p2, cap2, rfl⟩ := hw.slice
  have HV := Lib.hid hv
  have HW := Lib.hid hw
  clear hv hw hnv
  by_cases hch : chB (lA s) l u = 0
  · obtain ⟨h0, h1⟩ := chB_zero hch
    have hz := cchk_zero h0
    have hu := chk_zero.1 h1
    have KL := Lib.hid (fun w h => look_any (.slice p2 u.length cap2) u h1 s w h)
    have KT := Lib.hid (fun i hi g1 g2 w h1 h2 h3 h4 => pvfirst_any (.slice p l.length cap) l (by have := (many_no hz.1).1; omega) hs (fun r hr => ⟨(hz.2.1 r hr).1, ((many_no hz.1).2 r hr).1⟩) s p2 cap2 u hu.1 (fun m hm => List.all_eq_true.1 hu.2.1 m hm) i hi g1 g2 w h1 h2 h3 h4)
    have HCh := Lib.hid hch
    rw [hch] at KC
    clear hz hu h0 h1 hch hs hwa
    generalize lA s = g at KL KT HCh ⊢
    by_cases h1 : i < 0
    · obtain ⟨f1, f2⟩ := fi_arg HCh.out (.inl h1)
      rw [f1, f2]
      go_enter Try.func11, Try.ntmps11
      go_wp2_with fail
      refine KC.out.mono ?_
      rintro e w1 ⟨rfl, hb⟩
      have B1 := Lib.hid hb
      clear hb f1 f2
      go_wp2_with fail
      go_ret2
      exact ⟨rfl, B1.out⟩
    · by_cases h2 : (u.length : Int) ≤ i
      · obtain ⟨f1, f2⟩ := fi_arg HCh.out (.inr h2)
        rw [f1, f2]
        go_enter Try.func11, Try.ntmps11
        go_wp2_with fail
        refine KC.out.mono ?_
        rintro e w1 ⟨rfl, hb⟩
        have B1 := Lib.hid hb
        clear hb f1 f2
        go_wp2_with fail
        go_ret2
        exact ⟨rfl, B1.out⟩
      · obtain ⟨n, rfl⟩ : ∃ n : Nat, i = (n : Int) := ⟨i.toNat, by omega⟩
        have hlt : n < u.length := by omega
        obtain ⟨f1, f2⟩ := fi_ok HCh.out hlt
        rw [f1, f2]
        have KT1 := Lib.hid (KT.out n hlt)
        generalize cfirst g l u n = z at KT1 ⊢
        go_enter Try.func11, Try.ntmps11
        go_wp2_with fail
        refine KC.out.mono ?_
        rintro e w1 ⟨rfl, hb⟩
        have B1 := Lib.hid hb
        clear hb f1 f2
        go_wp2_with fail
        refine (KL.out _ (HW.out.later B1.out)).mono ?_
        rintro e w2 ⟨g1, g2, rfl, hb, hr1, hr2, _, _⟩
        have B2 := Lib.hid (B1.out.trans (hb.mono B1.out.size))
        have KT2 := Lib.hid (KT1.out g1 g2 w2 (HV.out.later B2.out) (HW.out.later B2.out) hr1 hr2)
        clear hb hr1 hr2 KT KT1
        go_wp2_with fail
        refine KT2.out.mono ?_
        rintro e w3 ⟨rfl, hb⟩
        have B3 := Lib.hid (B2.out.trans (hb.mono B2.out.size))
        clear hb
        go_wp2_with fail
        go_ret2
        exact ⟨rfl, B3.out⟩
  · obtain ⟨f1, f2⟩ := fi_ch (i := i) hch
    rw [f1, f2]
    generalize chB (lA s) l u = c at KC hch ⊢
    have h2 : (c != 0) = true := by rw [bne_iff_ne]; exact hch
    clear hch f1 f2 hs hwa
    go_enter Try.func11, Try.ntmps11
    go_wp2_with fail
    refine KC.out.mono ?_
    rintro e w1 ⟨rfl, hb⟩
    have B1 := Lib.hid hb
    clear hb
    go_wp2_with fail
    go_ret2
    exact ⟨rfl, B1.out⟩
end Go.Proofs.Ytcoljbcjnggagaa
namespace Go.Proofs.Ytcoljbcjnggagaa
open Go.RowKit
open WM RM CM
set_option linter.unusedVariables false
set_option linter.unusedSimpArgs false

theorem cstp_badr {g : Bs} {l : List Rw} {u : List Md} {k : Nat} (hk : k < u.length) (hs : csuc g l u k = none) : cstp g l u u.length = none := by
  have := cstp_none hs (u.length - (k + 1))
  rwa [show k + 1 + (u.length - (k + 1)) = u.length by omega] at this
/-- How Step ends. -/
def CrsEnd (g : Bs) (l : List Rw) (wd : List Md) (w : World) (e : Ending) (w' : World) : Prop := ∃ v vs, e = .returned (.tuple #[v, .int .i64 (csC g l wd)]) ∧ Below w.heap.size w w' ∧ ModFr w' w.heap.size v (csL g l wd) vs
/-- Where the loop stands. -/
structure CrAt (w : World) (g : Bs) (l : List Rw) (wd : List Md) (k : Nat) (v : Value) (wr : World) : Prop where
  hi : k ≤ wd.length
  below : Below w.heap.size w wr
  own : ∃ d vs, cstp g l wd k = some d ∧ d.length ≤ 20 * k ∧ ModFr wr w.heap.size v d vs
set_option maxRecDepth 100000 in
set_option maxHeartbeats 6400000 in
theorem crefstep_any (v : Value) (l : List Rw) (hmax : l.length ≤ 9223372036854775807) (hs : ∀ r ∈ l, RwSm r) (s : ByteArray) (hss : s.size ≤ 9223372036854775807) (p2 : Option Addr) (cap2 : Nat) (wd : List Md) (hlc : wd.length ≤ cap2) (hwl : wd.length ≤ 2100) (hwa : ∀ m ∈ wd, m.a.length ≤ 10) (w : World) (hv : Rws w v l) (hw : Mods w (.slice p2 wd.length cap2) wd) :
    Calls Try.prog 17 #[v, .string s, .slice p2 wd.length cap2] w (CrsEnd (lA s) l wd w) := by
  obtain ⟨p, cap, rfl⟩ := hv.slice
  have HV := Lib.hid hv
  have HW := Lib.hid hw
  have KC := Lib.hid (fun w h h' => refcboth_any (.slice p l.length cap) l hmax hs s hss (.slice p2 wd.length cap2) wd hwl hwa w h h')
  have KFi := Lib.hid (fun hru huf i hi w h h' => crefirst_any (.slice p l.length cap) l hmax hru s hss (.slice p2 wd.length cap2) wd (by omega) huf i hi w h h')
  have HS := Lib.hid hs
  have HWA := Lib.hid hwa
  clear hv hw hs hwa
  generalize lA s = g at KC KFi ⊢
  by_cases hch : chB g l wd = 0
  · obtain ⟨h0, h1⟩ := chB_zero hch
    have hz := cchk_zero h0
    have H0 := Lib.hid h0
    have H1 := Lib.hid h1
    rw [hch] at KC
    have hsm : wd.length ≤ 2000 := (chk_zero.1 h1).1
    have HRl := Lib.hid (fun r hr => (hz.2.1 r hr).1)
    have HMn := Lib.hid (many_no hz.1)
    have KT := Lib.hid (fun i hi w h h' => KFi.out (fun r hr => ⟨(hz.2.1 r hr).1, by have := (HS.out r hr).1; omega⟩) (fun m hm => List.all_eq_true.1 (chk_zero.1 h1).2.1 m hm) i hi w h h')
    obtain ⟨j0, hj, hy0, hy1, hy2⟩ := info_parts info_mod
    have HM : Hid (maxLen = 9223372036854775807) := Lib.hid rfl
    clear h0 h1 hz hch KFi
    go_enter Try.func17, Try.ntmps17
    go_wp2_with fail
    refine (KC.out _ HV.out HW.out).mono ?_
    rintro e w2 ⟨rfl, hb⟩
    have B2 := Lib.hid hb
    have S2 : Hid (CrAt w g l wd 0 (.slice none 0 0) w2) := Lib.hid ⟨Nat.zero_le _, B2.out, [], [], rfl, by simp, modFr_nil _ _⟩
    clear hb
    go_wp2_with fail
    go_loopw [8, 9] (fun v i wr => ∃ k, i = .int .i64 (k : Nat) ∧ CrAt w g l wd k v wr) (fun _ i _ => wd.length - (intOf i).toNat)
    case atStart => exact ⟨0, rfl, S2.out⟩
    case round =>
      obtain ⟨k, rfl, hS⟩ := hrel
      have HSt := Lib.hid hS
      have hsz := hS.below.size
      have hkl := hS.hi
      obtain ⟨d, vs, hd, hdl, hm⟩ := hS.own
      have HD := Lib.hid hd
      have HMF := Lib.hid hm
      clear hS hd hm
      by_cases hlt : k < wd.length
      · obtain ⟨b, off, cap', q, qc, hp, e0, e1, hin, lb⟩ := (HW.out.later HSt.out.below).at hlt
        obtain rfl : p2 = some ⟨b, off, none⟩ := by cases hp; rfl
        have k1 : (k : Int) < (wd.length : Int) := by omega
        have k5 : (k : Int) + 1 ≤ (cap2 : Int) := by omega
        have k6 : cap2 - k ≠ 0 := by omega
        have HIn := Lib.hid hin
        have hfi := chk_fine1 H1.out hlt
        have HFi := Lib.hid hfi
        have KT1 := Lib.hid (KT.out k hlt wr (HV.out.later HSt.out.below) (HW.out.later HSt.out.below))
        obtain ⟨z, hz⟩ : ∃ z, cfirst g l wd k = z := ⟨_, rfl⟩
        have HZ := Lib.hid hz
        rw [hz] at KT1
        clear hp hin hfi hz
        go_wp2_with fail
        refine KT1.out.mono ?_
        rintro e w3 ⟨rfl, hb⟩
        have B3 := Lib.hid hb
        have D3 := Lib.hid (HSt.out.below.trans (hb.mono hsz))
        clear hb
        by_cases hz0 : z < 0
        · have HSu2 : Hid (cstp g l wd (k + 1) = some (d ++ [wd[k]])) := Lib.hid (by rw [← md_get hlt]; exact cstp_succ HD.out (csuc_self (by rw [HZ.out]; exact hz0)))
          have hwk := HWA.out _ (List.getElem_mem hlt)
          have KTw := Lib.hid (twin_any (.slice (some ⟨b, off + k * 2, none⟩) 1 (cap2 - k)) [wd[k]] (by simp) (by simpa using hwk) w3 (mods_at1 (HW.out.later D3.out) hlt))
          clear hwk
          generalize hms : [wd[k]] = ms at KTw HSu2
          have hml : ms.length ≤ 1 := by rw [← hms]; exact Nat.le_refl _
          clear hms
          go_wp2_with fail
          refine KTw.out.mono ?_
          rintro e w4 ⟨mv, mvs, rfl, hb, hmo⟩
          have E3 := Lib.hid (B3.out.trans (hb.mono B3.out.size))
          have M2 := Lib.hid ((modFr_of_own hmo).mono B3.out.size)
          clear hb hmo
          have HS5 := Lib.hid (HSt.out.below.trans (E3.out.mono hsz))
          have H1r := Lib.hid ((HMF.out.later E3.out).row)
          rcases j_slice M2.out with ⟨rfl, hb0⟩ | ⟨ad, c, rfl⟩
          · have HT : Hid (CrAt w g l wd (k + 1) u8 w4) := Lib.hid ⟨hlt, HS5.out, d, vs, by rw [HSu2.out, hb0, List.append_nil], by omega, HMF.out.later E3.out⟩
            clear hb0
            go_wp2_with (at_builtin; refine j_append_nil rfl _ _ 23 rfl w.heap.size 55 j0 2 Try.underlying23 hj u8 d.length (modC d vs) rfl H1r.out rfl ?_)
            go_wp2_with fail
            go_roundw
            case rel => exact ⟨k + 1, by go_num, HT.out⟩
            case measure => first | (simp [intOf]; done) | (simp [intOf]; omega)
          · have H3 := Lib.hid (j_cells M2.out).2
            have H4 := Lib.hid (j_one M2.out)
            have hzz := E3.out.size
            go_wp2_with (at_builtin; refine wpList_append_own_at _ rfl _ _ 23 rfl w.heap.size 55 j0 (.agg #[.int .u8 0, .slice none 0 0]) 2 32 Try.underlying23 hj hy0 hy1 hy2 rfl (by decide) u8 d.length (modC d vs) rfl H1r.out ad (ms).length c (modC (ms) mvs) rfl (modC_length _ _ M2.out.len.symm) H3.out H4.out (by rw [HM.out]; omega) (by omega) (by omega) ?_; intro v2 w5 ho2 hg2 hn2 hb2)
            have M3 := Lib.hid (modFr_join HMF.out E3.out M2.out hsz ho2 hg2 hb2)
            have hvl := owns_lt HMF.out.row
            have B6 := Lib.hid (HS5.out.grown hg2 HS5.out.size (fun j e => (hvl j e).1))
            have HT : Hid (CrAt w g l wd (k + 1) v2 w5) := Lib.hid ⟨hlt, B6.out, d ++ ms, vs ++ mvs, HSu2.out, by rw [List.length_append]; omega, M3.out⟩
            clear ho2 hg2 hn2 hb2 hvl
            go_wp2_with fail
            go_roundw
            case rel => exact ⟨k + 1, by go_num, HT.out⟩
            case measure => first | (simp [intOf]; done) | (simp [intOf]; omega)
        · obtain ⟨kk, hkk⟩ : ∃ kk : Nat, z = (kk : Int) := ⟨z.toNat, by omega⟩
          subst hkk
          obtain ⟨hkl2, hfitc⟩ := fstF_fit HZ.out
          have hfit : fitB l[kk] wd[k] = true := by have := cfit_fit hfitc; rwa [md_get hlt] at this
          have HSu : Hid (csuc g l wd k = made l[kk] wd[k]) := Lib.hid (by rw [csuc_made HZ.out hkl2, md_get hlt])
          obtain ⟨b3, off3, cap3, gg, gc, o, oc, hp3, lb3, hat⟩ := (HV.out.later D3.out).at hkl2
          obtain rfl : p = some ⟨b3, off3, none⟩ := by cases hp3; rfl
          have k7 : (kk : Int) < (l.length : Int) := by omega
          have k8 : ¬ ((kk : Int) < 0) := by omega
          have f0 := (B3.out.cell (p := ⟨b, off + k * 2, none⟩) lb).trans e0
          have f1 := (B3.out.cell (p := ⟨b, off + k * 2 + 1, none⟩) lb).trans e1
          have LB3 : Hid (b3 < w3.heap.size) := Lib.hid lb3
          have LB : Hid (b < w3.heap.size) := Lib.hid (Nat.lt_of_lt_of_le lb B3.out.size)
          have HF4 := Lib.hid (fit_ar hfit)
          have HRu := Lib.hid (HRl.out _ (List.getElem_mem hkl2))
          have HSm := Lib.hid (HS.out _ (List.getElem_mem hkl2))
          have HGs := Lib.hid hat.gs
          have HOs := Lib.hid hat.out
          have HI3 := Lib.hid (HIn.out.later B3.out)
          obtain ⟨x0, x1, x2, x3, x4, x5, x6, _, _⟩ := hat
          clear hp3 hfit hfitc
          have KM0 : Hid (∀ w', Below w3.heap.size w3 w' → Calls Try.prog 41 #[.agg #[.int .u8 l[kk].c.toNat, .int .i64 l[kk].ar, .int .u8 l[kk].l.toNat, .int .u8 l[kk].r.toNat, .slice gg l[kk].gs.length gc, .int .i64 l[kk].wt, .slice o l[kk].out.length oc], .agg #[.int .u8 wd[k].c.toNat, .slice q wd[k].a.length qc]] w' (MdEnd l[kk] wd[k] w')) :=
            Lib.hid (fun w' hb => refmade_any l[kk] wd[k] _ _ _ HSm.out (by have := rule_forms HRu.out; rw [HF4.out] at this; exact this) HFi.out w' (HGs.out.later hb) (HOs.out.later hb) (HI3.out.later hb))
          cases hmd : made l[kk] wd[k] with
          | none =>
            have KMd : Hid (∀ w', Below w3.heap.size w3 w' → Calls Try.prog 41 #[.agg #[.int .u8 l[kk].c.toNat, .int .i64 l[kk].ar, .int .u8 l[kk].l.toNat, .int .u8 l[kk].r.toNat, .slice gg l[kk].gs.length gc, .int .i64 l[kk].wt, .slice o l[kk].out.length oc], .agg #[.int .u8 wd[k].c.toNat, .slice q wd[k].a.length qc]] w' fun e w'' => e = .returned (.tuple #[.slice none 0 0, .bool false]) ∧ Below w'.heap.size w' w'') :=
              Lib.hid (fun w' hb => (KM0.out w' hb).mono (by
                rintro e w'' ⟨hb2, ⟨_, rfl⟩ | ⟨v, vs, hy, _⟩⟩
                · exact ⟨rfl, hb2⟩
                · rw [hmd] at hy; simp at hy))
            rw [hmd] at HSu
            have HE : Hid (∀ w', Below w.heap.size w w' → CrsEnd g l wd w (.returned (.tuple #[.slice none 0 0, .int .i64 16])) w') := Lib.hid (fun w' hb => by
              have h5 := cs_none H0.out H1.out (cstp_badr hlt HSu.out)
              exact ⟨_, [], by rw [h5.1], hb, by rw [h5.2]; exact modFr_nil _ _⟩)
            clear hmd
            go_wp2_with fail
            go_region_held3 (fun w' => (∀ o, w'.cell? ⟨b3, o, none⟩ = w3.cell? ⟨b3, o, none⟩) ∧ (∀ o, w'.cell? ⟨b, o, none⟩ = w3.cell? ⟨b, o, none⟩)) (exact st_keep2 LB3.out LB.out ((by with_reducible (repeat (first | exact Below.refl _ _ | refine st_chain ?_ (Hid.out (by assumption)) | refine st_chain ?_ ((Below.refl _ _).alloc (Nat.le_refl _) _) | refine st_chain ?_ (Below.refl _ _).drew))))) (first
              | (go_at_call 41; with_reducible refine (KMd.out _ ((by with_reducible (repeat (first | exact Below.refl _ _ | refine st_chain ?_ (Hid.out (by assumption)) | refine st_chain ?_ ((Below.refl _ _).alloc (Nat.le_refl _) _) | refine st_chain ?_ (Below.refl _ _).drew))))).mono ?_; intro e w' hend; obtain ⟨he, hb⟩ := hend; subst he; replace hb := Lib.hid hb))
            have hb3 : Below w3.heap.size w3 w' := (by with_reducible (repeat (first | exact Below.refl _ _ | refine st_chain ?_ (Hid.out (by assumption)) | refine st_chain ?_ ((Below.refl _ _).alloc (Nat.le_refl _) _) | refine st_chain ?_ (Below.refl _ _).drew)))
            have HF := Lib.hid (HE.out _ (D3.out.trans (hb3.mono D3.out.size)))
            clear hb3
            go_wp2_with fail
            go_ret2
            exact HF.out
          | some ms =>
            have hms : ms = l[kk].out.map (mkM · wd[k].a) := by
              unfold made at hmd
              split at hmd
              · exact (Option.some.inj hmd).symm
              · simp at hmd
            have hml : ms.length ≤ 20 := by
              rw [hms, List.length_map]
              exact (HMn.out.2 _ (List.getElem_mem hkl2)).2
            have KMd : Hid (∀ w', Below w3.heap.size w3 w' → Calls Try.prog 41 #[.agg #[.int .u8 l[kk].c.toNat, .int .i64 l[kk].ar, .int .u8 l[kk].l.toNat, .int .u8 l[kk].r.toNat, .slice gg l[kk].gs.length gc, .int .i64 l[kk].wt, .slice o l[kk].out.length oc], .agg #[.int .u8 wd[k].c.toNat, .slice q wd[k].a.length qc]] w' fun e w'' => ∃ v vs, e = .returned (.tuple #[v, .bool true]) ∧ Below w'.heap.size w' w'' ∧ ModFr w'' w3.heap.size v ms vs) :=
              Lib.hid (fun w' hb => (KM0.out w' hb).mono (by
                rintro e w'' ⟨hb2, ⟨hno, _⟩ | ⟨v, vs, hy, rfl, hm2⟩⟩
                · rw [hmd] at hno; simp at hno
                · exact ⟨v, vs, rfl, hb2, by rw [hms]; exact hm2.mono hb.size⟩))
            rw [hmd] at HSu
            have HSu2 : Hid (cstp g l wd (k + 1) = some (d ++ ms)) := Lib.hid (cstp_succ HD.out HSu.out)
            clear hmd hms HSu
            go_wp2_with fail
            go_region_held3 (fun w' => (∀ o, w'.cell? ⟨b3, o, none⟩ = w3.cell? ⟨b3, o, none⟩) ∧ (∀ o, w'.cell? ⟨b, o, none⟩ = w3.cell? ⟨b, o, none⟩)) (exact st_keep2 LB3.out LB.out ((by with_reducible (repeat (first | exact Below.refl _ _ | refine st_chain ?_ (Hid.out (by assumption)) | refine st_chain ?_ ((Below.refl _ _).alloc (Nat.le_refl _) _) | refine st_chain ?_ (Below.refl _ _).drew))))) (first
              | (go_at_call 41; with_reducible refine (KMd.out _ ((by with_reducible (repeat (first | exact Below.refl _ _ | refine st_chain ?_ (Hid.out (by assumption)) | refine st_chain ?_ ((Below.refl _ _).alloc (Nat.le_refl _) _) | refine st_chain ?_ (Below.refl _ _).drew))))).mono ?_; intro e w' hend; obtain ⟨mv, mvs, he, hb, hmm⟩ := hend; subst he; replace hb := Lib.hid hb; replace hmm := Lib.hid hmm))
            have hb3 : Below w3.heap.size w3 w' := (by with_reducible (repeat (first | exact Below.refl _ _ | refine st_chain ?_ (Hid.out (by assumption)) | refine st_chain ?_ ((Below.refl _ _).alloc (Nat.le_refl _) _) | refine st_chain ?_ (Below.refl _ _).drew)))
            have E3 := Lib.hid (B3.out.trans (hb3.mono B3.out.size))
            have M2 := Lib.hid (hmm.out.mono B3.out.size)
            clear hb hmm hb3
            have HS5 := Lib.hid (HSt.out.below.trans (E3.out.mono hsz))
            have H1r := Lib.hid ((HMF.out.later E3.out).row)
            rcases j_slice M2.out with ⟨rfl, hb0⟩ | ⟨ad, c, rfl⟩
            · have HT : Hid (CrAt w g l wd (k + 1) u8 w') := Lib.hid ⟨hlt, HS5.out, d, vs, by rw [HSu2.out, hb0, List.append_nil], by omega, HMF.out.later E3.out⟩
              clear hb0
              go_wp2_with (at_builtin; refine j_append_nil rfl _ _ 23 rfl w.heap.size 55 j0 2 Try.underlying23 hj u8 d.length (modC d vs) rfl H1r.out rfl ?_)
              go_wp2_with fail
              go_roundw
              case rel => exact ⟨k + 1, by go_num, HT.out⟩
              case measure => first | (simp [intOf]; done) | (simp [intOf]; omega)
            · have H3 := Lib.hid (j_cells M2.out).2
              have H4 := Lib.hid (j_one M2.out)
              have hzz := E3.out.size
              go_wp2_with (at_builtin; refine wpList_append_own_at _ rfl _ _ 23 rfl w.heap.size 55 j0 (.agg #[.int .u8 0, .slice none 0 0]) 2 32 Try.underlying23 hj hy0 hy1 hy2 rfl (by decide) u8 d.length (modC d vs) rfl H1r.out ad (ms).length c (modC (ms) mvs) rfl (modC_length _ _ M2.out.len.symm) H3.out H4.out (by rw [HM.out]; omega) (by omega) (by omega) ?_; intro v2 w5 ho2 hg2 hn2 hb2)
              have M3 := Lib.hid (modFr_join HMF.out E3.out M2.out hsz ho2 hg2 hb2)
              have hvl := owns_lt HMF.out.row
              have B6 := Lib.hid (HS5.out.grown hg2 HS5.out.size (fun j e => (hvl j e).1))
              have HT : Hid (CrAt w g l wd (k + 1) v2 w5) := Lib.hid ⟨hlt, B6.out, d ++ ms, vs ++ mvs, HSu2.out, by rw [List.length_append]; omega, M3.out⟩
              clear ho2 hg2 hn2 hb2 hvl
              go_wp2_with fail
              go_roundw
              case rel => exact ⟨k + 1, by go_num, HT.out⟩
              case measure => first | (simp [intOf]; done) | (simp [intOf]; omega)
      · obtain rfl : k = wd.length := by omega
        have k1 : ¬ (wd.length : Int) < (wd.length : Int) := by omega
        obtain ⟨pu, cu, rfl⟩ := own_sl HMF.out.row
        by_cases h4 : 2000 < d.length
        · have c4 : (2000 : Int) < (d.length : Int) := by omega
          have HE : Hid (CrsEnd g l wd w (.returned (.tuple #[.slice none 0 0, .int .i64 4])) wr) := Lib.hid (by
            have h5 := cs_many H0.out H1.out HD.out h4
            exact ⟨_, [], by rw [h5.1], HSt.out.below, by rw [h5.2]; exact modFr_nil _ _⟩)
          go_wp2_with fail
          go_ret2
          exact HE.out
        · have c4 : ¬ (2000 : Int) < (d.length : Int) := by omega
          have HE : Hid (CrsEnd g l wd w (.returned (.tuple #[.slice pu d.length cu, .int .i64 0])) wr) := Lib.hid (by
            have h5 := cs_ok H0.out H1.out HD.out h4
            exact ⟨_, vs, by rw [h5.1], HSt.out.below, by rw [h5.2]; exact HMF.out⟩)
          go_wp2_with fail
          go_ret2
          exact HE.out
  · have hcs : csC g l wd = chB g l wd ∧ csL g l wd = [] := by
      by_cases h0 : cchk g l = 0
      · rw [chB_ok h0] at hch ⊢; exact cs_word h0 hch
      · rw [chB_no h0]; exact cs_rules h0
    have HE : Hid (∀ w', Below w.heap.size w w' → CrsEnd g l wd w (.returned (.tuple #[.slice none 0 0, .int .i64 (chB g l wd)])) w') := Lib.hid (fun w' hb => ⟨_, [], by rw [hcs.1], hb, by rw [hcs.2]; exact modFr_nil _ _⟩)
    obtain ⟨c, hc⟩ : ∃ c, chB g l wd = c := ⟨_, rfl⟩
    rw [hc] at KC HE hch
    have h2 : (c != 0) = true := by rw [bne_iff_ne]; exact hch
    clear hch hc hcs
    go_enter Try.func17, Try.ntmps17
    go_wp2_with fail
    refine (KC.out _ HV.out HW.out).mono ?_
    rintro e w1 ⟨rfl, hb⟩
    have B1 := Lib.hid hb
    clear hb
    go_wp2_with fail
    refine (KC.out _ (HV.out.later B1.out) (HW.out.later B1.out)).mono ?_
    rintro e w2 ⟨rfl, hb⟩
    have B2 := Lib.hid (B1.out.trans (hb.mono B1.out.size))
    clear hb
    go_wp2_with fail
    go_ret2
    exact HE.out _ B2.out
end Go.Proofs.Ytcoljbcjnggagaa
namespace Go.Proofs.Ytcoljbcjnggagaa
open Go.RowKit
open WM RM CM
set_option linter.unusedVariables false
set_option linter.unusedSimpArgs false

/-- How Run ends. -/
def CruEnd (g : Bs) (l : List Rw) (wd : List Md) (n : Int) (w : World) (e : Ending) (w' : World) : Prop := ∃ v vs, e = .returned (.tuple #[v, .int .i64 (cruC g l wd n)]) ∧ Below w.heap.size w w' ∧ ModFr w' w.heap.size v (cruL g l wd n) vs
/-- Where the loop stands. -/
structure CrnAt (w : World) (g : Bs) (l : List Rw) (wd : List Md) (n i : Nat) (u : List Md) (v : Value) (wr : World) : Prop where
  hi : i ≤ n
  below : Below w.heap.size w wr
  own : ∃ vs, ModFr wr w.heap.size v u vs
  len : u.length ≤ 2000
  args : ∀ m ∈ u, m.a.length ≤ 10
  ok : chk u = 0
  eq : cruF g l n wd = cruF g l (n - i) u
theorem chB_runr {g : Bs} {l : List Rw} {u : List Md} {n : Int} (h : chB g l u ≠ 0) : cruC g l u n = chB g l u ∧ cruL g l u n = [] := by
  by_cases h0 : cchk g l = 0
  · rw [chB_ok h0] at h ⊢
    exact cru_word h0 h
  · rw [chB_no h0]; exact cru_rules h0
set_option maxRecDepth 100000 in
set_option maxHeartbeats 6400000 in
theorem crefrun_any (v : Value) (l : List Rw) (hmax : l.length ≤ 9223372036854775807) (hs : ∀ r ∈ l, RwSm r) (s : ByteArray) (hss : s.size ≤ 9223372036854775807) (wv : Value) (wd : List Md) (hwl : wd.length ≤ 2100) (hwa : ∀ m ∈ wd, m.a.length ≤ 10) (n : Int) (w : World) (hv : Rws w v l) (hw : Mods w wv wd) :
    Calls Try.prog 19 #[v, .string s, wv, .int .i64 n] w (CruEnd (lA s) l wd n w) := by
  have KC := Lib.hid (fun w h h' => refcboth_any v l hmax hs s hss wv wd hwl hwa w h h')
  have KStp := Lib.hid (fun p2 cap2 u h1 h2 h3 w h h' => crefstep_any v l hmax hs s hss p2 cap2 u h1 h2 h3 w h h')
  obtain ⟨p, cap, rfl⟩ := hv.slice
  obtain ⟨p2, cap2, rfl⟩ := hw.slice
  have HV := Lib.hid hv
  have HW := Lib.hid hw
  clear hv hw hs
  generalize lA s = g at KC KStp ⊢
  by_cases hch : chB g l wd = 0
  · obtain ⟨h0, h1⟩ := chB_zero hch
    have H0 := Lib.hid h0
    have H1 := Lib.hid h1
    have KT := Lib.hid (fun w h => twin_any (.slice p2 wd.length cap2) wd hwl hwa w h)
    have HSml : Hid (wd.length ≤ 2000 ∧ ∀ m ∈ wd, m.a.length ≤ 10) := Lib.hid ⟨(chk_zero.1 h1).1, hwa⟩
    rw [hch] at KC
    clear h0 h1 hch
    by_cases h2 : n < 0
    · have HE : Hid (∀ w', Below w.heap.size w w' → CruEnd g l wd n w (.returned (.tuple #[.slice none 0 0, .int .i64 2])) w') := Lib.hid (fun w' hb => by
        have h5 := cru_arg (n := n) H0.out H1.out (.inl h2)
        exact ⟨_, [], by rw [h5.1], hb, by rw [h5.2]; exact modFr_nil _ _⟩)
      go_enter Try.func19, Try.ntmps19
      go_wp2_with fail
      refine (KC.out _ HV.out HW.out).mono ?_
      rintro e w1 ⟨rfl, hb⟩
      have B1 := Lib.hid hb
      clear hb
      go_wp2_with fail
      go_ret2
      exact HE.out _ B1.out
    · by_cases h3 : 30 < n
      · have HE : Hid (∀ w', Below w.heap.size w w' → CruEnd g l wd n w (.returned (.tuple #[.slice none 0 0, .int .i64 2])) w') := Lib.hid (fun w' hb => by
          have h5 := cru_arg (n := n) H0.out H1.out (.inr h3)
          exact ⟨_, [], by rw [h5.1], hb, by rw [h5.2]; exact modFr_nil _ _⟩)
        go_enter Try.func19, Try.ntmps19
        go_wp2_with fail
        refine (KC.out _ HV.out HW.out).mono ?_
        rintro e w1 ⟨rfl, hb⟩
        have B1 := Lib.hid hb
        clear hb
        go_wp2_with fail
        go_ret2
        exact HE.out _ B1.out
      · obtain ⟨N, hN⟩ : ∃ N : Nat, n = (N : Int) := ⟨n.toNat, by omega⟩
        subst hN
        have HR : Hid (∀ c u, cruF g l N wd = (c, u) → cruC g l wd (N : Int) = c ∧ cruL g l wd (N : Int) = if c = 0 then u else []) := Lib.hid (fun c u h => cru_run H0.out H1.out (by omega) h)
        go_enter Try.func19, Try.ntmps19
        go_wp2_with fail
        refine (KC.out _ HV.out HW.out).mono ?_
        rintro e w1 ⟨rfl, hb⟩
        have B2 := Lib.hid hb
        clear hb
        go_wp2_with fail
        refine (KT.out _ (HW.out.later B2.out)).mono ?_
        rintro e w3 ⟨v3, vs3, rfl, hb, hmo⟩
        have S3 : Hid (CrnAt w g l wd N 0 wd v3 w3) := Lib.hid ⟨Nat.zero_le _, B2.out.trans (hb.mono B2.out.size), ⟨vs3, (modFr_of_own hmo).mono B2.out.size⟩, HSml.out.1, HSml.out.2, H1.out, rfl⟩
        clear hb hmo
        go_wp2_with fail
        go_loopw [2, 10] (fun v i wr => ∃ (i' : Nat) (u : List Md), i = .int .i64 (i' : Nat) ∧ CrnAt w g l wd N i' u v wr) (fun _ i _ => N - (intOf i).toNat)
        case atStart => exact ⟨0, wd, rfl, S3.out⟩
        case round =>
          rename World => wo
          obtain ⟨i, u, rfl, hS⟩ := hrel
          have HSt := Lib.hid hS
          have hi := hS.hi
          have hsz := hS.below.size
          obtain ⟨vs, hm⟩ := hS.own
          obtain ⟨q, c, hq, hqc⟩ := own_sl3 hm.row
          subst hq
          have HMF := Lib.hid hm
          have HOk := Lib.hid hS.ok
          clear hS hm
          by_cases hlt : i < N
          · have k1 : (i : Int) < (N : Int) := by omega
            have HEq : Hid (cruF g l N wd = cruF g l (N - (i + 1) + 1) u) := Lib.hid (by rw [HSt.out.eq]; congr 1; omega)
            have KS1 := Lib.hid (KStp.out q c u hqc (by have := HSt.out.len; omega) HSt.out.args wo (HV.out.later HSt.out.below) HMF.out.mods)
            unfold CrsEnd at KS1
            by_cases h5 : csC g l u = 0
            · have HN : Hid (∀ w' v' vs', Below wo.heap.size wo w' → ModFr w' wo.heap.size v' (csL g l u) vs' → CrnAt w g l wd N (i + 1) (csL g l u) v' w') := Lib.hid (fun w' v' vs' hb hm =>
                ⟨hlt, HSt.out.below.trans (hb.mono hsz), ⟨vs', hm.mono hsz⟩, (chk_zero.1 (csL_chk H0.out HOk.out)).1, fun m hm' => by
                have := (fine_args4 (List.all_eq_true.1 (chk_zero.1 (csL_chk H0.out HOk.out)).2.1 m hm')).1
                omega, csL_chk H0.out HOk.out, by rw [HEq.out, cruF_ok h5]⟩)
              rw [h5] at KS1
              clear h5
              go_wp2_with fail
              refine KS1.out.mono ?_
              rintro e w4 ⟨v4, vs4, rfl, hb, hm⟩
              have HT := Lib.hid (HN.out _ _ _ hb hm)
              clear hb hm
              go_wp2_with fail
              go_roundw
              case rel => exact ⟨i + 1, _, by go_num, HT.out⟩
              case measure => first | (simp [intOf]; done) | (simp [intOf]; omega)
            · have HE : Hid (∀ w', Below wo.heap.size wo w' → CruEnd g l wd (N : Int) w (.returned (.tuple #[.slice none 0 0, .int .i64 (csC g l u)])) w') := Lib.hid (fun w' hb => by
                have h6 := HR.out _ _ (HEq.out.trans (cruF_no h5))
                rw [if_neg h5] at h6
                exact ⟨_, [], by rw [h6.1], HSt.out.below.trans (hb.mono hsz), by rw [h6.2]; exact modFr_nil _ _⟩)
              obtain ⟨z, hz⟩ : ∃ z, csC g l u = z := ⟨_, rfl⟩
              rw [hz] at KS1 HE h5
              have h6 : (z != 0) = true := by rw [bne_iff_ne]; exact h5
              clear h5 hz
              go_wp2_with fail
              refine KS1.out.mono ?_
              rintro e w4 ⟨v4, vs4, rfl, hb, hm⟩
              have B4 := Lib.hid hb
              clear hb hm
              go_wp2_with fail
              go_ret2
              exact HE.out _ B4.out
          · obtain rfl : i = N := by omega
            have k1 : ¬ (i : Int) < (i : Int) := by omega
            have HE : Hid (CruEnd g l wd (i : Int) w (.returned (.tuple #[.slice q u.length c, .int .i64 0])) wo) := Lib.hid (by
              have h6 := HR.out 0 u (by rw [HSt.out.eq, Nat.sub_self]; rfl)
              rw [if_pos rfl] at h6
              exact ⟨_, vs, by rw [h6.1], HSt.out.below, by rw [h6.2]; exact HMF.out⟩)
            go_wp2_with fail
            go_ret2
            exact HE.out
  · have HE : Hid (∀ w', Below w.heap.size w w' → CruEnd g l wd n w (.returned (.tuple #[.slice none 0 0, .int .i64 (chB g l wd)])) w') := Lib.hid (fun w' hb => ⟨_, [], by rw [(chB_runr hch).1], hb, by rw [(chB_runr hch).2]; exact modFr_nil _ _⟩)
    obtain ⟨c, hc⟩ : ∃ c, chB g l wd = c := ⟨_, rfl⟩
    rw [hc] at KC HE hch
    have h2 : (c != 0) = true := by rw [bne_iff_ne]; exact hch
    clear hch hc
    go_enter Try.func19, Try.ntmps19
    go_wp2_with fail
    refine (KC.out _ HV.out HW.out).mono ?_
    rintro e w1 ⟨rfl, hb⟩
    have B1 := Lib.hid hb
    clear hb
    go_wp2_with fail
    refine (KC.out _ (HV.out.later B1.out) (HW.out.later B1.out)).mono ?_
    rintro e w2 ⟨rfl, hb⟩
    have B2 := Lib.hid (B1.out.trans (hb.mono B1.out.size))
    clear hb
    go_wp2_with fail
    go_ret2
    exact HE.out _ B2.out
theorem fi_chr {g : Bs} {l : List Rw} {u : List Md} {i : Int} (h : chB g l u ≠ 0) : cfiC g l u i = chB g l u ∧ cfiV g l u i = 0 := by
  have e : cfiC g l u i = chB g l u := by
    unfold cfiC
    by_cases h0 : cchk g l = 0
    · rw [chB_ok h0] at h ⊢
      rw [if_neg (by simp [h0]), if_pos h]
    · rw [chB_no h0, if_pos h0]
  exact ⟨e, by unfold cfiV; rw [e, if_neg h]⟩
theorem fi_argr {g : Bs} {l : List Rw} {u : List Md} {i : Int} (h : chB g l u = 0) (h1 : i < 0 ∨ (u.length : Int) ≤ i) : cfiC g l u i = 2 ∧ cfiV g l u i = 0 := by
  obtain ⟨a, b⟩ := chB_zero h
  have e : cfiC g l u i = 2 := by unfold cfiC; rw [if_neg (by simp [a]), if_neg (by simp [b]), if_pos h1]
  exact ⟨e, by unfold cfiV; rw [e]; rfl⟩
theorem fi_okr {g : Bs} {l : List Rw} {u : List Md} {i : Nat} (h : chB g l u = 0) (h1 : i < u.length) : cfiC g l u (i : Int) = 0 ∧ cfiV g l u (i : Int) = cfirst g l u i := by
  obtain ⟨a, b⟩ := chB_zero h
  have e : cfiC g l u (i : Int) = 0 := by unfold cfiC; rw [if_neg (by simp [a]), if_neg (by simp [b]), if_neg (by omega)]
  exact ⟨e, by unfold cfiV; rw [e, if_pos rfl, Int.toNat_natCast]⟩
set_option maxRecDepth 100000 in
set_option maxHeartbeats 3200000 in
theorem creffind_any (v : Value) (l : List Rw) (hmax : l.length ≤ 9223372036854775807) (hs : ∀ r ∈ l, RwSm r) (s : ByteArray) (hss : s.size ≤ 9223372036854775807) (wv : Value) (u : List Md) (hwl : u.length ≤ 2100) (hwa : ∀ m ∈ u, m.a.length ≤ 10) (i : Int) (w : World) (hv : Rws w v l) (hw : Mods w wv u) :
    Calls Try.prog 12 #[v, .string s, wv, .int .i64 i] w fun e w' => e = .returned (.tuple #[.int .i64 (cfiV (lA s) l u i), .int .i64 (cfiC (lA s) l u i)]) ∧ Below w.heap.size w w' := by
  have KC := Lib.hid (fun w h h' => refcboth_any v l hmax hs s hss wv u hwl hwa w h h')
  have KFi := Lib.hid (fun hru huf i hi w h h' => crefirst_any v l hmax hru s hss wv u (by omega) huf i hi w h h')
  obtain ⟨p, cap, rfl⟩ := hv.slice
  obtain ⟨p2, cap2, rfl⟩ := hw.slice
  have HV := Lib.hid hv
  have HW := Lib.hid hw
  have HS := Lib.hid hs
  clear hv hw hs
  generalize lA s = g at KC KFi ⊢
  by_cases hch : chB g l u = 0
  · obtain ⟨h0, h1⟩ := chB_zero hch
    have hz := cchk_zero h0
    have KT := Lib.hid (fun i hi w h h' => KFi.out (fun r hr => ⟨(hz.2.1 r hr).1, by have := (HS.out r hr).1; omega⟩) (fun m hm => List.all_eq_true.1 (chk_zero.1 h1).2.1 m hm) i hi w h h')
    have HCh := Lib.hid hch
    rw [hch] at KC
    clear hz h0 h1 hch KFi
    by_cases h1 : i < 0
    · obtain ⟨f1, f2⟩ := fi_argr HCh.out (.inl h1)
      rw [f1, f2]
      clear f1 f2
      go_enter Try.func12, Try.ntmps12
      go_wp2_with fail
      refine (KC.out _ HV.out HW.out).mono ?_
      rintro e w1 ⟨rfl, hb⟩
      have B1 := Lib.hid hb
      clear hb
      go_wp2_with fail
      go_ret2
      exact ⟨rfl, B1.out⟩
    · by_cases h2 : (u.length : Int) ≤ i
      · obtain ⟨f1, f2⟩ := fi_argr HCh.out (.inr h2)
        rw [f1, f2]
        clear f1 f2
        go_enter Try.func12, Try.ntmps12
        go_wp2_with fail
        refine (KC.out _ HV.out HW.out).mono ?_
        rintro e w1 ⟨rfl, hb⟩
        have B1 := Lib.hid hb
        clear hb
        go_wp2_with fail
        go_ret2
        exact ⟨rfl, B1.out⟩
      · obtain ⟨n, rfl⟩ : ∃ n : Nat, i = (n : Int) := ⟨i.toNat, by omega⟩
        have hlt : n < u.length := by omega
        obtain ⟨f1, f2⟩ := fi_okr HCh.out hlt
        rw [f1, f2]
        have KT1 := Lib.hid (KT.out n hlt)
        generalize cfirst g l u n = z at KT1 ⊢
        clear f1 f2 KT
        go_enter Try.func12, Try.ntmps12
        go_wp2_with fail
        refine (KC.out _ HV.out HW.out).mono ?_
        rintro e w1 ⟨rfl, hb⟩
        have B1 := Lib.hid hb
        clear hb
        go_wp2_with fail
        refine (KT1.out _ (HV.out.later B1.out) (HW.out.later B1.out)).mono ?_
        rintro e w2 ⟨rfl, hb⟩
        have B2 := Lib.hid (B1.out.trans (hb.mono B1.out.size))
        clear hb
        go_wp2_with fail
        go_ret2
        exact ⟨rfl, B2.out⟩
  · obtain ⟨f1, f2⟩ := fi_chr (i := i) hch
    rw [f1, f2]
    generalize chB g l u = c at KC hch ⊢
    have h2 : (c != 0) = true := by rw [bne_iff_ne]; exact hch
    clear hch f1 f2 KFi
    go_enter Try.func12, Try.ntmps12
    go_wp2_with fail
    refine (KC.out _ HV.out HW.out).mono ?_
    rintro e w1 ⟨rfl, hb⟩
    have B1 := Lib.hid hb
    clear hb
    go_wp2_with fail
    refine (KC.out _ (HV.out.later B1.out) (HW.out.later B1.out)).mono ?_
    rintro e w2 ⟨rfl, hb⟩
    have B2 := Lib.hid (B1.out.trans (hb.mono B1.out.size))
    clear hb
    go_wp2_with fail
    go_ret2
    exact ⟨rfl, B2.out⟩
end Go.Proofs.Ytcoljbcjnggagaa
namespace Go.Proofs.Ytcoljbcjnggagaa
open Go.RowKit
open WM
set_option linter.unusedVariables false
set_option linter.unusedSimpArgs false

/-- A memory of the same shape, which reads as before where the args of the row g stand. -/
structure Shp (base top g n : Nat) (w wr : World) : Prop where
  below : Below base w wr
  blk : ∀ (b : Nat) (cs : Array Value) (t : TypeId), w.heap[b]? = some (.cells cs t (0, 0)) → ∃ cs', wr.heap[b]? = some (.cells cs' t (0, 0)) ∧ cs'.size = cs.size
  args : ∀ i, i < n → wr.cell? ⟨g, i * 2 + 1, none⟩ = w.cell? ⟨g, i * 2 + 1, none⟩
  far : ∀ k, top ≤ k → wr.heap[k]? = w.heap[k]?
theorem Shp.refl (base top g n : Nat) (w : World) : Shp base top g n w w := ⟨Below.refl _ _, fun b cs t h => ⟨cs, h, rfl⟩, fun i _ => rfl, fun _ _ => rfl⟩
theorem cell_setCell_ne {w : World} {b j b' j' : Nat} {x : Value} (h : b ≠ b' ∨ j ≠ j') : (w.setCell ⟨b', j', none⟩ x).cell? ⟨b, j, none⟩ = w.cell? ⟨b, j, none⟩ := by
  by_cases e : b = b'
  · subst e
    have hj : j ≠ j' := by rcases h with h | h; exact absurd rfl h; exact h
    simp only [World.cell?, World.setCell, Array.getElem?_modify, if_true]
    cases hb : w.heap[b]? with
    | none => rfl
    | some o =>
      cases o <;> simp [Array.getElem?_setIfInBounds, Ne.symm hj]
  · exact World.cell?_of_block (a := ⟨b, j, none⟩) (Below.heap_setCell _ _ _ _ (by simpa using e))
theorem Shp.set {base top g n : Nat} {w wr : World} (h : Shp base top g n w wr) {b j : Nat} (hb : base ≤ b) (ht : b < top) (hne : b ≠ g ∨ ∃ i, j = i * 2) (x : Value) : Shp base top g n w (wr.setCell ⟨b, j, none⟩ x) := by
  refine ⟨h.below.setCell hb _, fun b' cs t e => ?_, fun i hi => ?_, fun k hk => (Below.heap_setCell _ _ _ _ (by simp; omega)).trans (h.far k hk)⟩
  · obtain ⟨cs', h1, h2⟩ := h.blk b' cs t e
    by_cases e2 : b' = b
    · subst e2
      refine ⟨cs'.setIfInBounds j x, ?_, by simpa using h2⟩
      simp only [World.setCell, Array.getElem?_modify, if_true, h1]; rfl
    · exact ⟨cs', (Below.heap_setCell _ _ _ _ (by simpa using e2)).trans h1, h2⟩
  · rw [cell_setCell_ne ?_]
    · exact h.args i hi
    · rcases hne with h | ⟨i', rfl⟩
      · exact .inl (Ne.symm h)
      · right; omega
theorem Shp.at {base top g n : Nat} {w wr : World} (h : Shp base top g n w wr) {b j : Nat} {cs : Array Value} {t : TypeId} (hb : w.heap[b]? = some (.cells cs t (0, 0))) (hj : j < cs.size) : (∃ z, wr.cell? ⟨b, j, none⟩ = some z) ∧ wr.frozen? ⟨b, j, none⟩ = false ∧ b < wr.heap.size := by
  obtain ⟨cs', h1, h2⟩ := h.blk b cs t hb
  refine ⟨⟨cs'[j]'(by omega), ?_⟩, by simp [World.frozen?, h1], lt_of_block h1⟩
  simp only [World.cell?, h1]
  exact Array.getElem?_eq_getElem _
/-- The word's own memory lies below a place. -/
def ModIn (top : Nat) (v : Value) (vs : List Value) : Prop := (∀ g, v.ownBlock = some g → g < top) ∧ ∀ u ∈ vs, ∀ g, u.ownBlock = some g → g < top
theorem ModFr.isIn {w : World} {base : Nat} {v : Value} {l : List Md} {vs : List Value} (h : ModFr w base v l vs) : ModIn w.heap.size v vs := by
  refine ⟨fun g hg => (owns_lt h.row g hg).2, fun u hu g hg => ?_⟩
  obtain ⟨k, hk, rfl⟩ := List.mem_iff_getElem.1 hu
  exact (owns_lt (h.args k (by rw [← h.len]; exact hk) hk).own g hg).2
theorem owns_far {w w' : World} {base n size : Nat} {e : TypeId} {v : Value} {xs : List Value} (h : w.ownsRow base e size v n xs) (hf : ∀ k, base ≤ k → w'.heap[k]? = w.heap[k]?) : w'.ownsRow base e size v n xs := by
  refine ⟨h.1, ?_⟩
  rcases h.2 with h1 | ⟨g, cap, cur, h1, h2, h3, h4⟩
  · exact .inl h1
  · exact .inr ⟨g, cap, cur, h1, h2, (hf g h2).trans h3, h4⟩
theorem ModFr.far {w w' : World} {base : Nat} {v : Value} {l : List Md} {vs : List Value} (h : ModFr w base v l vs) (hf : ∀ k, base ≤ k → w'.heap[k]? = w.heap[k]?) : ModFr w' base v l vs :=
  ⟨h.len, owns_far h.row hf, fun k hk hk2 => ⟨owns_far (h.args k hk hk2).own hf, (h.args k hk hk2).apart⟩⟩
end Go.Proofs.Ytcoljbcjnggagaa
namespace Go.Proofs.Ytcoljbcjnggagaa
open Go.RowKit
open WM
set_option linter.unusedVariables false
set_option linter.unusedSimpArgs false

set_option maxRecDepth 100000 in
set_option maxHeartbeats 1600000 in
theorem cspoil_any (base top : Nat) (v : Value) (l : List Md) (vs : List Value) (hmax : l.length ≤ 1000000) (hargs : ∀ m ∈ l, m.a.length ≤ 1000000) (w : World) (h : ModFr w base v l vs) (hin : ModIn top v vs) :
    Calls Try.prog 21 #[v] w fun e w' => e = .returned (.tuple #[]) ∧ Below base w w' ∧ ∀ k, top ≤ k → w'.heap[k]? = w.heap[k]? := by
  have HM := Lib.hid h
  have HA := Lib.hid hargs
  clear hargs
  rcases h.row.2 with ⟨hv, h0⟩ | ⟨g, cap, cur, hv, hb, hg, hc1, hc2, hsz, htake⟩
  · subst hv
    clear h h0
    go_enter Try.func21, Try.ntmps21
    go_wp2_with fail
    go_loopw [2] (fun i wr => i = .int .i64 0 ∧ wr = w) (fun _ _ => 0)
    case atStart => exact ⟨rfl, rfl⟩
    case round =>
      obtain ⟨rfl, rfl⟩ := hrel
      go_wp2_with fail
      refine bodyPost_end (results_none rfl _ _ _) rfl ?_
      exact ⟨rfl, Below.refl _ _, fun _ _ => rfl⟩
  · subst hv
    have HG := Lib.hid hg
    have HSz : Hid (l.length * 2 ≤ cur.size) := Lib.hid (by rw [hsz]; omega)
    have hgt : g < top := hin.1 g rfl
    have HI := Lib.hid hin.2
    clear htake hsz hg h hin
    go_enter Try.func21, Try.ntmps21
    go_wp2_with fail
    go_loopw [2] (fun i wr => ∃ k : Nat, i = .int .i64 k ∧ k ≤ l.length ∧ Shp base top g l.length w wr) (fun i _ => l.length - (intOf i).toNat)
    case atStart => exact ⟨0, rfl, Nat.zero_le _, Shp.refl _ _ _ _ _⟩
    case round =>
      obtain ⟨k, rfl, hk, hS⟩ := hrel
      have HS := Lib.hid hS
      clear hS
      by_cases hlt : k < l.length
      · have k1 : (k : Int) < (l.length : Int) := by omega
        have hvl : k < vs.length := by rw [HM.out.len]; exact hlt
        have A := HM.out.args k hlt hvl
        have ha := HA.out l[k] (List.getElem_mem hlt)
        have hq : w.cell? ⟨g, k * 2 + 1, none⟩ = some vs[k] := by
          rw [HM.out.row.cellAt (k * 2 + 1) (by omega), (modC_get l vs k hlt hvl).2]
        have HQ : Hid (∀ wr, Shp base top g l.length w wr → wr.cell? ⟨g, k * 2 + 1, none⟩ = some vs[k]) := Lib.hid (fun wr h => (h.args k hlt).trans hq)
        obtain ⟨p, m, c, hsv, hpm⟩ : ∃ p m c, vs[k] = .slice p m c ∧ m ≤ 1000000 ∧ (m = 0 ∨ ∃ hb ds, p = some ⟨hb, 0, none⟩ ∧ base ≤ hb ∧ hb < top ∧ hb ≠ g ∧ w.heap[hb]? = some (.cells ds 3 (0, 0)) ∧ m ≤ ds.size) := by
          rcases A.own.2 with ⟨e, _⟩ | ⟨hb', cap', ds, e, h2, h3, h4, h5, h6, _⟩
          · exact ⟨_, _, _, e, by omega, .inl rfl⟩
          · refine ⟨_, _, _, e, ha, .inr ⟨hb', ds, rfl, h2, HI.out _ (List.getElem_mem hvl) hb' (by rw [e]; rfl), ?_, h3, by omega⟩⟩
            rcases A.apart with e2 | e2
            · rw [e] at e2; simp at e2
            · intro e3; subst e3; rw [e] at e2; simp [Value.ownBlock] at e2
        rw [hsv] at HQ
        have e1 := HQ.out wr HS.out
        obtain ⟨⟨z0, _⟩, _, lg⟩ := HS.out.at HG.out (j := k * 2) (by have := HSz.out; omega)
        obtain ⟨hm1, hpm⟩ := hpm
        have HP := Lib.hid hpm
        clear A ha hq hsv hpm
        go_wp2_with fail
        go_loopw [3] (fun i wr => ∃ j : Nat, i = .int .i64 j ∧ j ≤ m ∧ Shp base top g l.length w wr) (fun i _ => m - (intOf i).toNat)
        case atStart => exact ⟨0, rfl, Nat.zero_le _, HS.out⟩
        case round =>
          obtain ⟨j, rfl, hj, hS2⟩ := hrel
          have HS2 := Lib.hid hS2
          have e2 := HQ.out wr hS2
          obtain ⟨⟨z1, qz⟩, fz, lg2⟩ := hS2.at HG.out (j := k * 2) (by have := HSz.out; omega)
          clear hS2
          by_cases hjm : j < m
          · have j1 : (j : Int) < (m : Int) := by omega
            obtain ⟨hb2, ds, rfl, g1, g5, g2, g3, g4⟩ : ∃ hb ds, p = some ⟨hb, 0, none⟩ ∧ base ≤ hb ∧ hb < top ∧ hb ≠ g ∧ w.heap[hb]? = some (.cells ds 3 (0, 0)) ∧ m ≤ ds.size := by
              rcases HP.out with h | h
              · omega
              · exact h
            obtain ⟨⟨z2, q2⟩, f2, l2⟩ := HS2.out.at g3 (j := j) (by omega)
            have HT := Lib.hid (HS2.out.set (b := hb2) (j := j) g1 g5 (.inl g2) (.int .i64 77))
            clear g3 g4 g2
            go_wp2_with fail
            go_roundw
            case rel => exact ⟨j + 1, by go_num, by omega, HT.out⟩
            case measure => simp [intOf]; omega
          · have j1 : ¬ (j : Int) < (m : Int) := by omega
            have HT := Lib.hid (HS2.out.set (b := g) (j := k * 2) hb hgt (.inr ⟨k, rfl⟩) (.int .u8 63))
            go_wp2_with fail
            go_roundw
            case rel => exact ⟨k + 1, by go_num, by omega, HT.out⟩
            case measure => simp [intOf]; omega
      · have k1 : ¬ (k : Int) < (l.length : Int) := by omega
        go_wp2_with fail
        refine bodyPost_end (results_none rfl _ _ _) rfl ?_
        exact ⟨rfl, HS.out.below, HS.out.far⟩
end Go.Proofs.Ytcoljbcjnggagaa
