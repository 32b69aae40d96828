/-
  Texts of the proof, merged: BConPrC, BConRefC.
-/
import Derived.Test.YtlmofdmbcddddaaGreatDoorBContextBranchProofM8
import Derived.Test.YtlmofdmbcddddaaGreatDoorBContextBranchProofM6
namespace Go.Proofs.YtlmofdmbcddddaaGreatDoor
open Go.RowKit
open WM RM CM
set_option linter.unusedVariables false
set_option linter.unusedSimpArgs false

def lfL (g : Bs) (u : List Md) (k : Nat) : List Int := (List.range u.length).map fun i => if i < k then bef g u i else 0
theorem lfL_length (g : Bs) (u : List Md) (k : Nat) : (lfL g u k).length = u.length := by simp [lfL]
theorem lfL_zero (g : Bs) (u : List Md) : lfL g u 0 = List.replicate u.length 0 := by
  apply List.ext_getElem (by simp [lfL])
  intro i h1 h2; simp [lfL]
theorem lfL_get {g : Bs} {u : List Md} {k i : Nat} (h : i < u.length) : (lfL g u k)[i]'(by rw [lfL_length]; exact h) = if i < k then bef g u i else 0 := by simp [lfL]
theorem lfL_set {g : Bs} {u : List Md} {k : Nat} (h : k < u.length) : (lfL g u k).set k (bef g u k) = lfL g u (k + 1) := by
  apply List.ext_getElem (by simp [lfL])
  intro i h1 h2
  rw [List.getElem_set]
  rw [lfL_length] at h2
  rw [lfL_get (k := k + 1) h2]
  by_cases e : k = i
  · subst e; rw [if_pos rfl, if_pos (by omega)]
  · rw [if_neg e, lfL_get h2]
    by_cases e2 : i < k
    · rw [if_pos e2, if_pos (by omega)]
    · rw [if_neg e2, if_neg (by omega)]
/-- Where lefts stands. -/
structure LfAt (w : World) (g : Bs) (u : List Md) (gp k : Nat) (wr : World) : Prop where
  hi : k ≤ u.length
  below : Below w.heap.size w wr
  row : RowI wr w.heap.size (lfL g u k)
  oth : RowI wr gp (othL u u.length)
  hgp : w.heap.size < gp
theorem LfAt.later {w wr w1 : World} {g : Bs} {u : List Md} {gp k : Nat} (h : LfAt w g u gp k wr) (hb : Below wr.heap.size wr w1) : LfAt w g u gp k w1 :=
  ⟨h.hi, h.below.trans (hb.mono h.below.size), h.row.later hb, h.oth.later hb, h.hgp⟩
theorem LfAt.step {w wr : World} {g : Bs} {u : List Md} {gp k : Nat} (h : LfAt w g u gp k wr) (hk : k < u.length) (x : Int) (hx : bef g u k = x) : LfAt w g u gp (k + 1) (wr.setCell ⟨w.heap.size, k, none⟩ (.int .i64 x)) := by
  subst hx
  have hg := h.hgp
  refine ⟨hk, h.below.setCell (Nat.le_refl _) _, ?_, h.oth.other (by show gp ≠ w.heap.size; omega) _, hg⟩
  have := h.row.set (i := k) (by rw [lfL_length]; exact hk) (bef g u k)
  rwa [lfL_set hk] at this
/-- How lefts and rights end: a row of the neighbours of all modules. -/
def NbEnd (l : List Int) (w : World) (e : Ending) (w' : World) : Prop := ∃ g, e = .returned (.slice (some ⟨g, 0, none⟩) l.length l.length) ∧ Below w.heap.size w w' ∧ RowI w' g l ∧ w.heap.size ≤ g
set_option maxRecDepth 100000 in
set_option maxHeartbeats 6400000 in
theorem lefts_any (v : Value) (u : List Md) (hu : u.length ≤ 2000) (hok : okB u u.length = true) (s : ByteArray) (w : World) (hv : Mods w v u) :
    Calls Tryz.prog 16 #[v, .string s] w (NbEnd (lfL (lA s) u u.length) w) := by
  have HEl := Lib.hid (lfL_length (lA s) u u.length)
  unfold NbEnd
  rw [HEl.out]
  obtain ⟨p, cap, rfl⟩ := hv.slice
  have HV := Lib.hid hv
  have KP := Lib.hid (fun w h => pairs_any (.slice p u.length cap) u hu hok w h)
  have KI := Lib.hid (fun c p n cap w => cignored_any s c p n cap w)
  have hmk := make_ints u.length (by omega)
  obtain ⟨W0, hW0⟩ : ∃ W, W = w.alloc (.cells (zeros u.length) 3) := ⟨_, rfl⟩
  have B0 : Hid (Below w.heap.size w W0) := Lib.hid (by rw [hW0]; exact (Below.refl _ _).alloc (Nat.le_refl _) _)
  have R0 : Hid (RowI W0 w.heap.size (List.replicate u.length 0)) := Lib.hid (by rw [hW0]; exact made_row _ _)
  have HOk := Lib.hid hok
  clear hv hok
  generalize lA s = g at KI ⊢
  go_enter Tryz.func16, Tryz.ntmps16
  go_wp2_with fail
  rw [← hW0]
  clear hW0
  refine (KP.out _ (HV.out.later B0.out)).mono ?_
  rintro e w1 ⟨gp, rfl, hb, hrow, hgp⟩
  have S0 : Hid (LfAt w g u gp 0 w1) := Lib.hid ⟨Nat.zero_le _, B0.out.trans (hb.mono B0.out.size), by rw [lfL_zero]; exact R0.out.later hb, hrow, by have := R0.out.lt; omega⟩
  clear hb hrow hgp
  go_wp2_with fail
  go_loopw [16] (fun i wr => ∃ k : Nat, i = .int .i64 k ∧ LfAt w g u gp k wr) (fun i _ => u.length - (intOf i).toNat)
  case atStart => exact ⟨0, rfl, S0.out⟩
  case round =>
    obtain ⟨k, rfl, hO⟩ := hrel
    have HO := Lib.hid hO
    have n1 := hO.hi
    have hsz := hO.below.size
    have hlr := hO.row.lt
    clear hO
    by_cases hlt : k < u.length
    · have k1 : (k : Int) < (u.length : Int) := by omega
      cases k with
      | zero =>
        have HT := Lib.hid (HO.out.step hlt (-1) rfl)
        have q5 := HO.out.row.cell (i := 0) (by rw [lfL_length]; exact hlt)
        have f5 := HO.out.row.free 0
        generalize (lfL g u 0)[0]'(by rw [lfL_length]; exact hlt) = z at q5
        go_wp2_with fail
        go_roundw
        case rel => exact ⟨1, by go_num, HT.out⟩
        case measure => first | (simp [intOf]; done) | (simp [intOf]; omega)
      | succ j =>
        have hj : j < u.length := by omega
        have j1 : (j : Int) < (u.length : Int) := by omega
        have hs1 : ((j + 1 : Nat) : Int) - 1 = (j : Int) := by omega
        have j0 : ¬ (j : Int) < 0 := by omega
        obtain ⟨b, off, cap', q, c, hp, e0, e1, _, lb⟩ := (HV.out.later HO.out.below).at hj
        obtain rfl : p = some ⟨b, off, none⟩ := by cases hp; rfl
        have hmd := md_get hj
        have q5 := HO.out.row.cell (i := j + 1) (by rw [lfL_length]; exact hlt)
        have f5 := HO.out.row.free (j + 1)
        have q6 := HO.out.row.cell (i := j) (by rw [lfL_length]; exact hj)
        rw [lfL_get hj, if_pos (by omega)] at q6
        generalize (lfL g u (j + 1))[j + 1]'(by rw [lfL_length]; exact hlt) = z at q5
        clear hp
        by_cases c2 : (md u j).c = 93
        · obtain ⟨jj, hjj, ho, hbe⟩ := bef_close (g := g) HOk.out hj c2
          have q7 := HO.out.oth.cell (i := j) (by rw [othL_length]; exact hj)
          have e7 : (othL u u.length)[j]'(by rw [othL_length]; exact hj) = (jj : Int) := by
            rw [← ho]; simp [List.getD, othL_length, hj]
          rw [e7] at q7
          have q8 := HO.out.row.cell (i := jj) (by rw [lfL_length]; omega)
          rw [lfL_get (by omega), if_pos (by omega)] at q8
          have HT := Lib.hid (HO.out.step hlt (bef g u jj) hbe)
          have jj1 : (jj : Int) < (u.length : Int) := by omega
          have t1 : ((u[j].c.toNat : Int) == 93) = true := by rw [← hmd, c2]; rfl
          generalize u[j].c.toNat = cn at e0 t1
          generalize bef g u jj = bv at q8 HT
          clear ho hbe e7 c2 hmd q6
          go_wp2_with fail
          go_roundw
          case rel => exact ⟨j + 1 + 1, by go_num, HT.out⟩
          case measure => first | (simp [intOf]; done) | (simp [intOf]; omega)
        · have t1 : ((u[j].c.toNat : Int) == 93) = false := by rw [← hmd]; exact ne_tst c2
          by_cases c1 : (md u j).c = 91
          · have HT := Lib.hid (HO.out.step hlt (bef g u j) (bf_open0 c1))
            have t2 : ((u[j].c.toNat : Int) == 91) = true := by rw [← hmd, c1]; rfl
            generalize u[j].c.toNat = cn at e0 t1 t2
            generalize bef g u j = bv at q6 HT
            clear c1 c2 hmd
            go_wp2_with fail
            go_roundw
            case rel => exact ⟨j + 1 + 1, by go_num, HT.out⟩
            case measure => first | (simp [intOf]; done) | (simp [intOf]; omega)
          · have t2 : ((u[j].c.toNat : Int) == 91) = false := by rw [← hmd]; exact ne_tst c1
            have KI1 := Lib.hid (fun w => KI.out u[j].c q u[j].a.length c w)
            cases hh : hasB g u[j].c with
            | true =>
              rw [hh] at KI1
              have HT := Lib.hid (fun w1 h => (HO.out.later (w1 := w1) h).step hlt (bef g u j) (bf_pass c2 c1 (.inr (by rw [hmd]; exact hh))))
              generalize u[j].c.toNat = cn at e0 t1 t2 KI1
              generalize u[j].a.length = xl at e1 KI1
              generalize bef g u j = bv at q6 HT
              clear c1 c2 hmd hh
              go_wp2_with fail
              refine (KI1.out _).mono ?_
              rintro e w2 ⟨rfl, hb⟩
              have HT2 := Lib.hid (HT.out _ hb)
              have y5 := (hb.cell (p := ⟨w.heap.size, j + 1, none⟩) hlr).trans q5
              have y6 := (hb.cell (p := ⟨w.heap.size, j, none⟩) hlr).trans q6
              have g5 := (HO.out.later hb).row.free (j + 1)
              clear hb HT
              go_wp2_with fail
              go_roundw
              case rel => exact ⟨j + 1 + 1, by go_num, HT2.out⟩
              case measure => first | (simp [intOf]; done) | (simp [intOf]; omega)
            | false =>
              rw [hh] at KI1
              have HT := Lib.hid (fun w1 h => (HO.out.later (w1 := w1) h).step hlt (j : Int) (bf_stop c2 c1 (by rw [hmd]; exact hh)))
              generalize u[j].c.toNat = cn at e0 t1 t2 KI1
              generalize u[j].a.length = xl at e1 KI1
              clear c1 c2 hmd hh q6
              go_wp2_with fail
              refine (KI1.out _).mono ?_
              rintro e w2 ⟨rfl, hb⟩
              have HT2 := Lib.hid (HT.out _ hb)
              have y5 := (hb.cell (p := ⟨w.heap.size, j + 1, none⟩) hlr).trans q5
              have g5 := (HO.out.later hb).row.free (j + 1)
              clear hb HT
              go_wp2_with fail
              go_roundw
              case rel => exact ⟨j + 1 + 1, by go_num, HT2.out⟩
              case measure => first | (simp [intOf]; done) | (simp [intOf]; omega)
    · obtain rfl : k = u.length := by omega
      have k1 : ¬ (u.length : Int) < (u.length : Int) := by omega
      have HE : Hid (∃ g', Ending.returned (.slice (some ⟨w.heap.size, 0, none⟩) u.length u.length) = .returned (.slice (some ⟨g', 0, none⟩) u.length u.length) ∧ Below w.heap.size w wr ∧ RowI wr g' (lfL g u u.length) ∧ w.heap.size ≤ g') := Lib.hid ⟨_, rfl, HO.out.below, HO.out.row, Nat.le_refl _⟩
      go_wp2_with fail
      go_ret
      exact HE.out
/-! ### To the right -/
def rgL (g : Bs) (u : List Md) (k : Nat) : List Int := (List.range u.length).map fun i => if u.length ≤ i + k then beh g u i else 0
theorem rgL_length (g : Bs) (u : List Md) (k : Nat) : (rgL g u k).length = u.length := by simp [rgL]
theorem rgL_zero (g : Bs) (u : List Md) : rgL g u 0 = List.replicate u.length 0 := by
  apply List.ext_getElem (by simp [rgL])
  intro i h1 h2
  simp [rgL]
  simp [rgL] at h1
  omega
theorem rgL_get {g : Bs} {u : List Md} {k i : Nat} (h : i < u.length) : (rgL g u k)[i]'(by rw [rgL_length]; exact h) = if u.length ≤ i + k then beh g u i else 0 := by simp [rgL]
theorem rgL_set {g : Bs} {u : List Md} {k i : Nat} (h : i + k + 1 = u.length) : (rgL g u k).set i (beh g u i) = rgL g u (k + 1) := by
  apply List.ext_getElem (by simp [rgL])
  intro m h1 h2
  rw [List.getElem_set]
  rw [rgL_length] at h2
  rw [rgL_get (k := k + 1) h2]
  by_cases e : i = m
  · subst e; rw [if_pos rfl, if_pos (by omega)]
  · rw [if_neg e, rgL_get h2]
    by_cases e2 : u.length ≤ m + k
    · rw [if_pos e2, if_pos (by omega)]
    · rw [if_neg e2, if_neg (by omega)]
/-- Where rights stands. -/
structure RgAt (w : World) (g : Bs) (u : List Md) (gp k : Nat) (wr : World) : Prop where
  hi : k ≤ u.length
  below : Below w.heap.size w wr
  row : RowI wr w.heap.size (rgL g u k)
  oth : RowI wr gp (othL u u.length)
  hgp : w.heap.size < gp
theorem RgAt.later {w wr w1 : World} {g : Bs} {u : List Md} {gp k : Nat} (h : RgAt w g u gp k wr) (hb : Below wr.heap.size wr w1) : RgAt w g u gp k w1 :=
  ⟨h.hi, h.below.trans (hb.mono h.below.size), h.row.later hb, h.oth.later hb, h.hgp⟩
theorem RgAt.step {w wr : World} {g : Bs} {u : List Md} {gp k i : Nat} (h : RgAt w g u gp k wr) (hk : i + k + 1 = u.length) (x : Int) (hx : beh g u i = x) : RgAt w g u gp (k + 1) (wr.setCell ⟨w.heap.size, i, none⟩ (.int .i64 x)) := by
  subst hx
  have hg := h.hgp
  refine ⟨by omega, h.below.setCell (Nat.le_refl _) _, ?_, h.oth.other (by show gp ≠ w.heap.size; omega) _, hg⟩
  have := h.row.set (i := i) (by rw [rgL_length]; omega) (beh g u i)
  rwa [rgL_set hk] at this
set_option maxRecDepth 100000 in
set_option maxHeartbeats 6400000 in
theorem rights_any (v : Value) (u : List Md) (hu : u.length ≤ 2000) (hok : okB u u.length = true) (hd0 : dep u = 0) (s : ByteArray) (w : World) (hv : Mods w v u) :
    Calls Tryz.prog 17 #[v, .string s] w (NbEnd (rgL (lA s) u u.length) w) := by
  have HEl := Lib.hid (rgL_length (lA s) u u.length)
  unfold NbEnd
  rw [HEl.out]
  obtain ⟨p, cap, rfl⟩ := hv.slice
  have HV := Lib.hid hv
  have KP := Lib.hid (fun w h => pairs_any (.slice p u.length cap) u hu hok w h)
  have KI := Lib.hid (fun c p n cap w => cignored_any s c p n cap w)
  have hmk := make_ints u.length (by omega)
  obtain ⟨W0, hW0⟩ : ∃ W, W = w.alloc (.cells (zeros u.length) 3) := ⟨_, rfl⟩
  have B0 : Hid (Below w.heap.size w W0) := Lib.hid (by rw [hW0]; exact (Below.refl _ _).alloc (Nat.le_refl _) _)
  have R0 : Hid (RowI W0 w.heap.size (List.replicate u.length 0)) := Lib.hid (by rw [hW0]; exact made_row _ _)
  have HOk := Lib.hid hok
  have HD0 := Lib.hid hd0
  clear hv hok hd0
  generalize lA s = g at KI ⊢
  go_enter Tryz.func17, Tryz.ntmps17
  go_wp2_with fail
  rw [← hW0]
  clear hW0
  refine (KP.out _ (HV.out.later B0.out)).mono ?_
  rintro e w1 ⟨gp, rfl, hb, hrow, hgp⟩
  have S0 : Hid (RgAt w g u gp 0 w1) := Lib.hid ⟨Nat.zero_le _, B0.out.trans (hb.mono B0.out.size), by rw [rgL_zero]; exact R0.out.later hb, hrow, by have := R0.out.lt; omega⟩
  clear hb hrow hgp
  go_wp2_with fail
  go_loopw [17] (fun i wr => ∃ k : Nat, i = .int .i64 k ∧ RgAt w g u gp k wr) (fun i _ => u.length - (intOf i).toNat)
  case atStart => exact ⟨0, rfl, S0.out⟩
  case round =>
    obtain ⟨k, rfl, hO⟩ := hrel
    have HO := Lib.hid hO
    have n1 := hO.hi
    have hsz := hO.below.size
    have hlr := hO.row.lt
    clear hO
    by_cases hlt : k < u.length
    · have k1 : (k : Int) < (u.length : Int) := by omega
      obtain ⟨i, hik⟩ : ∃ i : Nat, i + k + 1 = u.length := ⟨u.length - 1 - k, by omega⟩
      obtain ⟨j, hji⟩ : ∃ j : Nat, j = i + 1 := ⟨_, rfl⟩
      have hin : i < u.length := by omega
      have i1 : (i : Int) < (u.length : Int) := by omega
      have hs1 : (u.length : Int) - 1 - (k : Int) = (i : Int) := by omega
      have hs2 : (i : Int) + 1 = (j : Int) := by omega
      have q5 := HO.out.row.cell (i := i) (by rw [rgL_length]; exact hin)
      have f5 := HO.out.row.free i
      generalize (rgL g u k)[i]'(by rw [rgL_length]; exact hin) = z at q5
      have hbe : beh g u i = bhd g u j 0 := by rw [hji]; rfl
      by_cases hjn : j < u.length
      · have j1 : (j : Int) < (u.length : Int) := by omega
        have t0 : ((j : Int) == (u.length : Int)) = false := by rw [beq_eq_false_iff_ne]; omega
        obtain ⟨b, off, cap', q, c, hp, e0, e1, _, lb⟩ := (HV.out.later HO.out.below).at hjn
        obtain rfl : p = some ⟨b, off, none⟩ := by cases hp; rfl
        have hmd := md_get hjn
        have q6 := HO.out.row.cell (i := j) (by rw [rgL_length]; exact hjn)
        rw [rgL_get hjn, if_pos (by omega)] at q6
        clear hp
        by_cases c2 : (md u j).c = 93
        · have HT := Lib.hid (HO.out.step hik (-1) (by rw [hbe, bh_end hjn c2]))
          have t1 : ((u[j].c.toNat : Int) == 93) = true := by rw [← hmd, c2]; rfl
          generalize u[j].c.toNat = cn at e0 t1
          clear c2 hmd q6 hbe hik hji
          go_wp2_with fail
          go_roundw
          case rel => exact ⟨k + 1, by go_num, HT.out⟩
          case measure => first | (simp [intOf]; done) | (simp [intOf]; omega)
        · have t1 : ((u[j].c.toNat : Int) == 93) = false := by rw [← hmd]; exact ne_tst c2
          by_cases c1 : (md u j).c = 91
          · obtain ⟨pp, hpj, hpu, ho, hbp⟩ := beh_open (g := g) HOk.out HD0.out hjn c1
            have q7 := HO.out.oth.cell (i := j) (by rw [othL_length]; exact hjn)
            have e7 : (othL u u.length)[j]'(by rw [othL_length]; exact hjn) = (pp : Int) := by
              rw [← ho]; simp [List.getD, othL_length, hjn]
            rw [e7] at q7
            have q8 := HO.out.row.cell (i := pp) (by rw [rgL_length]; omega)
            rw [rgL_get (by omega), if_pos (by omega)] at q8
            have HT := Lib.hid (HO.out.step hik (beh g u pp) (by rw [hbe, hbp]))
            have pp1 : (pp : Int) < (u.length : Int) := by omega
            have t2 : ((u[j].c.toNat : Int) == 91) = true := by rw [← hmd, c1]; rfl
            generalize u[j].c.toNat = cn at e0 t1 t2
            generalize beh g u pp = bv at q8 HT
            clear c1 c2 hmd q6 hbe hik hji ho e7 hbp
            go_wp2_with fail
            go_roundw
            case rel => exact ⟨k + 1, by go_num, HT.out⟩
            case measure => first | (simp [intOf]; done) | (simp [intOf]; omega)
          · have t2 : ((u[j].c.toNat : Int) == 91) = false := by rw [← hmd]; exact ne_tst c1
            have KI1 := Lib.hid (fun w => KI.out u[j].c q u[j].a.length c w)
            cases hh : hasB g u[j].c with
            | true =>
              rw [hh] at KI1
              have HT := Lib.hid (fun w1 h => (HO.out.later (w1 := w1) h).step hik (beh g u j) (by rw [hbe, bh_pass hjn c2 c1 (.inr (by rw [hmd]; exact hh))]; rfl))
              generalize u[j].c.toNat = cn at e0 t1 t2 KI1
              generalize u[j].a.length = xl at e1 KI1
              generalize beh g u j = bv at q6 HT
              clear c1 c2 hmd hh hbe hik hji
              go_wp2_with fail
              refine (KI1.out _).mono ?_
              rintro e w2 ⟨rfl, hb⟩
              have HT2 := Lib.hid (HT.out _ hb)
              have y5 := (hb.cell (p := ⟨w.heap.size, i, none⟩) hlr).trans q5
              have y6 := (hb.cell (p := ⟨w.heap.size, j, none⟩) hlr).trans q6
              have g5 := (HO.out.later hb).row.free i
              clear hb HT
              go_wp2_with fail
              go_roundw
              case rel => exact ⟨k + 1, by go_num, HT2.out⟩
              case measure => first | (simp [intOf]; done) | (simp [intOf]; omega)
            | false =>
              rw [hh] at KI1
              have HT := Lib.hid (fun w1 h => (HO.out.later (w1 := w1) h).step hik (j : Int) (by rw [hbe]; exact bh_stop hjn c2 c1 (by rw [hmd]; exact hh)))
              generalize u[j].c.toNat = cn at e0 t1 t2 KI1
              generalize u[j].a.length = xl at e1 KI1
              clear c1 c2 hmd hh q6 hbe hik hji
              go_wp2_with fail
              refine (KI1.out _).mono ?_
              rintro e w2 ⟨rfl, hb⟩
              have HT2 := Lib.hid (HT.out _ hb)
              have y5 := (hb.cell (p := ⟨w.heap.size, i, none⟩) hlr).trans q5
              have g5 := (HO.out.later hb).row.free i
              clear hb HT
              go_wp2_with fail
              go_roundw
              case rel => exact ⟨k + 1, by go_num, HT2.out⟩
              case measure => first | (simp [intOf]; done) | (simp [intOf]; omega)
      · have t0 : ((j : Int) == (u.length : Int)) = true := by rw [beq_iff_eq]; omega
        have HT := Lib.hid (HO.out.step hik (-1) (by rw [hbe, bh_out (by omega)]))
        clear hbe hik hji
        go_wp2_with fail
        go_roundw
        case rel => exact ⟨k + 1, by go_num, HT.out⟩
        case measure => first | (simp [intOf]; done) | (simp [intOf]; omega)
    · obtain rfl : k = u.length := by omega
      have k1 : ¬ (u.length : Int) < (u.length : Int) := by omega
      have HE : Hid (∃ g', Ending.returned (.slice (some ⟨w.heap.size, 0, none⟩) u.length u.length) = .returned (.slice (some ⟨g', 0, none⟩) u.length u.length) ∧ Below w.heap.size w wr ∧ RowI wr g' (rgL g u u.length) ∧ w.heap.size ≤ g') := Lib.hid ⟨_, rfl, HO.out.below, HO.out.row, Nat.le_refl _⟩
      go_wp2_with fail
      go_ret
      exact HE.out
end Go.Proofs.YtlmofdmbcddddaaGreatDoor
namespace Go.Proofs.YtlmofdmbcddddaaGreatDoor
open Go.RowKit
open WM RM CM
set_option linter.unusedVariables false
set_option linter.unusedSimpArgs false

theorem nb_any {u : List Md} {k : Int} {c : UInt8} (h : c = 0) : nbB u k c = true := by unfold nbB; rw [h]; rfl
theorem nb_none {u : List Md} {k : Int} {c : UInt8} (h : c ≠ 0) (hk : k < 0) : nbB u k c = false := by
  unfold nbB; rw [beq_eq_false_iff_ne.2 h, decide_eq_false (by omega)]; rfl
theorem nb_at {u : List Md} {n : Nat} {c : UInt8} (h : c ≠ 0) : nbB u (n : Int) c = ((md u n).c == c) := by
  unfold nbB; rw [beq_eq_false_iff_ne.2 h, decide_eq_true (by omega)]; simp
theorem u8_zf {c : UInt8} (h : c ≠ 0) : ((c.toNat : Int) == 0) = false := by
  rw [beq_eq_false_iff_ne]; intro e
  exact h (UInt8.toNat_inj.1 (by show c.toNat = 0; omega))
section
variable {g : Bs} {u : List Md} {i : Int}
theorem ask_word (h : chk u ≠ 0) : askC g u i = chk u := by unfold askC; rw [if_pos h]
theorem ask_lo (h : chk u = 0) (h1 : i < 0) : askC g u i = 2 := by unfold askC; rw [if_neg (by simp [h]), if_pos (.inl h1)]
theorem ask_hi (h : chk u = 0) (h1 : (u.length : Int) ≤ i) : askC g u i = 2 := by unfold askC; rw [if_neg (by simp [h]), if_pos (.inr (.inl h1))]
theorem ask_bra (h : chk u = 0) (h1 : plnB (md u i.toNat).c = false) : askC g u i = 2 := by unfold askC; rw [if_neg (by simp [h]), if_pos (.inr (.inr h1))]
theorem ask_ign (h : chk u = 0) (h0 : 0 ≤ i) (h1 : i < u.length) (h2 : plnB (md u i.toNat).c = true) : askC g u i = if ignB g = true then 0 else 8 := by
  unfold askC; rw [if_neg (by simp [h]), if_neg]
  rintro (e | e | e)
  · omega
  · omega
  · rw [h2] at e; simp at e
theorem ask_zero (h : askC g u i = 0) : chk u = 0 ∧ 0 ≤ i ∧ i < u.length ∧ plnB (md u i.toNat).c = true ∧ ignB g = true := by
  unfold askC at h
  by_cases h0 : chk u = 0
  · rw [if_neg (by simp [h0])] at h
    by_cases h1 : i < 0 ∨ (u.length : Int) ≤ i ∨ plnB (md u i.toNat).c = false
    · rw [if_pos h1] at h; simp at h
    · rw [if_neg h1] at h
      by_cases h2 : ignB g = true
      · refine ⟨h0, by omega, by omega, ?_, h2⟩
        cases hp : plnB (md u i.toNat).c
        · exact absurd (.inr (.inr hp)) h1
        · rfl
      · rw [if_neg h2] at h; simp at h
  · rw [if_pos h0] at h; exact absurd h h0
end
end Go.Proofs.YtlmofdmbcddddaaGreatDoor
