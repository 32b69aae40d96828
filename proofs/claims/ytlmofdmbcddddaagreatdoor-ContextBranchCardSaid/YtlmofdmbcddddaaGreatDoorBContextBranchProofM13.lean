/-
  Texts of the proof, merged: BConPrF, BRewPrD, BRewPrF, BRewPrG, BRewPrH, BRewRng.
-/
import Derived.Test.YtlmofdmbcddddaaGreatDoorBContextBranchProofM12
import Derived.Test.YtlmofdmbcddddaaGreatDoorBContextBranchProofM8
import Derived.Test.YtlmofdmbcddddaaGreatDoorBContextBranchProofM6
import Derived.Test.YtlmofdmbcddddaaGreatDoorBContextBranchProofM11
import Derived.Laws.ResultCell
import Derived.Test.YtlmofdmbcddddaaGreatDoorBContextBranchProofM4
import Derived.RangeFuncNested
import Derived.RangeFuncBound
import Derived.RangeFuncCalls
import Derived.RangeFuncLeaves
import Derived.RangeFuncBox
import Derived.Shelf.Abstract
import Derived.Shelf.RegionOpen
import Derived.OwnWalkIn
import Derived.TacticsInMore
import Derived.LoopNIn
import Derived.LoopIn
namespace Go.Proofs.YtlmofdmbcddddaaGreatDoor
open Go.RowKit
open WM RM CM
set_option linter.unusedVariables false
set_option linter.unusedSimpArgs false

theorem ck_rules {g : Bs} {l : List Rw} (h : rchk (l.map bareR) ≠ 0) : cchk g l = rchk (l.map bareR) := by rw [cchk_eq, if_pos h]
theorem ck_ask {g : Bs} {l : List Rw} (h : rchk (l.map bareR) = 0) {k : Nat} (hk : k < l.length) (h2 : askB l[k] = false) : cchk g l = 8 := by
  rw [cchk_eq, if_neg (by simp [h]), if_neg]
  rw [List.all_eq_true]
  intro hh
  have := hh _ (List.getElem_mem hk)
  rw [h2] at this; simp at this
theorem ck_end {g : Bs} {l : List Rw} (h : rchk (l.map bareR) = 0) (h2 : ∀ k, (hk : k < l.length) → askB l[k] = true) : cchk g l = if ignB g = true then 0 else 8 := by
  rw [cchk_eq, if_neg (by simp [h]), if_pos]
  rw [List.all_eq_true]
  intro x hx
  obtain ⟨k, hk, rfl⟩ := List.mem_iff_getElem.1 hx
  exact h2 k hk
theorem sm_bare {l : List Rw} (hs : ∀ r ∈ l, RwSm r) : ∀ r ∈ l.map bareR, RwSm r := by
  intro r hr
  obtain ⟨x, hx, rfl⟩ := List.mem_map.1 hr
  exact hs x hx
set_option maxRecDepth 100000 in
set_option maxHeartbeats 3200000 in
theorem pccheck_any (v : Value) (l : List Rw) (hmax : l.length ≤ 50) (hs : ∀ r ∈ l, RwSm r) (s : ByteArray) (hss : s.size ≤ 9223372036854775807) (w : World) (hv : Rws w v l) (hn : NilOr v) :
    Calls Tryz.prog 51 #[v, .string s] w fun e w' => e = .returned (.int .i64 (cchk (lA s) l)) ∧ Below w.heap.size w w' := by
  have KA := Lib.hid (alone_any v l hmax w hv hn)
  have KC := Lib.hid (fun v' w h => prcheck_any v' (l.map bareR) (by rw [List.length_map]; omega) (sm_bare hs) w h)
  have KI := Lib.hid (fun w => cignorable_any s hss w)
  have KL := Lib.hid caskable_any
  obtain ⟨p, cap, rfl⟩ := hv.slice
  have HV := Lib.hid hv
  clear hv hs hn
  generalize lA s = gg at KI ⊢
  by_cases h0 : rchk (l.map bareR) = 0
  · rw [h0] at KC
    have H0 := Lib.hid h0
    clear h0
    go_enter Tryz.func51, Tryz.ntmps51
    go_wp2_with fail
    refine KA.out.mono ?_
    rintro e w1 ⟨v1, rfl, hb, hr1⟩
    have B1 := Lib.hid hb
    have R1 := Lib.hid hr1
    clear hb hr1
    go_wp2_with fail
    refine (KC.out _ _ R1.out).mono ?_
    rintro e w2 ⟨rfl, hb⟩
    have B2 := Lib.hid (B1.out.trans (hb.mono B1.out.size))
    clear hb
    go_wp2_with fail
    go_loopw [16] (fun i wr => ∃ k : Nat, k ≤ l.length ∧ i = .int .i64 k ∧ Below w.heap.size w wr ∧ ∀ j, (hj : j < l.length) → j < k → askB l[j] = true) (fun i _ => l.length - (intOf i).toNat)
    case atStart => exact ⟨0, Nat.zero_le _, rfl, B2.out, fun j _ h => by omega⟩
    case round =>
      rename World => wo
      obtain ⟨k, hk, rfl, hb, hok⟩ := hrel
      have HK := Lib.hid hok
      have HB := Lib.hid hb
      have hbz := hb.size
      clear hok hb
      by_cases hlt : k < l.length
      · obtain ⟨b, off, cap', g, gc, o, oc, hp, lb, hat⟩ := (HV.out.later HB.out).at hlt
        obtain rfl : p = some ⟨b, off, none⟩ := by cases hp; rfl
        have k1 : (k : Int) < (l.length : Int) := by omega
        have HA : Hid (askB l[k] = (askcB l[k].l && askcB l[k].r)) := Lib.hid rfl
        have KL1 : Hid (∀ w, Calls Tryz.prog 69 #[.int .u8 l[k].l.toNat] w fun e w' => e = .returned (.bool (askcB l[k].l)) ∧ Below w.heap.size w w') := Lib.hid (fun w => KL.out l[k].l w)
        have KR1 : Hid (∀ w, Calls Tryz.prog 69 #[.int .u8 l[k].r.toNat] w fun e w' => e = .returned (.bool (askcB l[k].r)) ∧ Below w.heap.size w w') := Lib.hid (fun w => KL.out l[k].r w)
        have HBad := Lib.hid (ck_ask (g := gg) H0.out hlt)
        have HGd : Hid (askB l[k] = true → ∀ j, (hj : j < l.length) → j < k + 1 → askB l[j] = true) := Lib.hid (fun h2 j hj h => by
          rcases Nat.lt_or_eq_of_le (Nat.le_of_lt_succ h) with h1 | h1
          · exact HK.out j hj h1
          · subst h1; exact h2)
        obtain ⟨e0, e1, e2, e3, e4, e5, e6, _, _⟩ := hat
        generalize askB l[k] = ta at HA HBad HGd
        generalize askcB l[k].l = tl at KL1 HA
        generalize askcB l[k].r = tr at KR1 HA
        generalize l[k].c.toNat = x0 at e0
        generalize l[k].ar = x1 at e1
        generalize l[k].l.toNat = x2 at e2 KL1
        generalize l[k].r.toNat = x3 at e3 KR1
        generalize l[k].gs.length = x4 at e4
        generalize l[k].wt = x5 at e5
        generalize l[k].out.length = x6 at e6
        obtain ⟨W1, hW1⟩ : ∃ W, W = wo.alloc (.cells #[.int .u8 x0, .int .i64 x1, .int .u8 x2, .int .u8 x3, .slice g x4 gc, .int .i64 x5, .slice o x6 oc] 45) := ⟨_, rfl⟩
        have N1 : W1.heap[wo.heap.size]? = some (.cells #[.int .u8 x0, .int .i64 x1, .int .u8 x2, .int .u8 x3, .slice g x4 gc, .int .i64 x5, .slice o x6 oc] 45 (0, 0)) := by rw [hW1]; exact heap_alloc_new _ _
        have b1 : Below w.heap.size w W1 := by rw [hW1]; exact HB.out.alloc hbz _
        have D1 := Lib.hid b1
        have q2 : W1.cell? ⟨wo.heap.size, 2, none⟩ = some (.int .u8 x2) := by simp [World.cell?, N1]
        have q3 : W1.cell? ⟨wo.heap.size, 3, none⟩ = some (.int .u8 x3) := by simp [World.cell?, N1]
        have lw := lt_of_block N1
        clear hp N1 b1
        cases tl with
        | false =>
          obtain rfl : ta = false := HA.out
          have HF := Lib.hid (HBad.out rfl)
          go_wp2_with fail
          rw [← hW1]
          clear hW1
          go_wp2_with fail
          refine (KL1.out _).mono ?_
          rintro e w3 ⟨rfl, hb⟩
          have D2 := Lib.hid (D1.out.trans (hb.mono D1.out.size))
          have y3 := (hb.cell (p := ⟨wo.heap.size, 3, none⟩) lw).trans q3
          clear hb
          have HB2 := Lib.hid D2.out
          go_wp2_with fail
          go_ret
          exact ⟨ret_int HF.out.symm, HB2.out⟩
        | true =>
          cases tr with
          | false =>
            obtain rfl : ta = false := HA.out
            have HF := Lib.hid (HBad.out rfl)
            go_wp2_with fail
            rw [← hW1]
            clear hW1
            go_wp2_with fail
            refine (KL1.out _).mono ?_
            rintro e w3 ⟨rfl, hb⟩
            have D2 := Lib.hid (D1.out.trans (hb.mono D1.out.size))
            have y3 := (hb.cell (p := ⟨wo.heap.size, 3, none⟩) lw).trans q3
            clear hb
            go_wp2_with fail
            refine (KR1.out _).mono ?_
            rintro e w4 ⟨rfl, hb⟩
            have HB2 := Lib.hid (D2.out.trans (hb.mono D2.out.size))
            clear hb
            go_wp2_with fail
            go_ret
            exact ⟨ret_int HF.out.symm, HB2.out⟩
          | true =>
            obtain rfl : ta = true := HA.out
            have HF := Lib.hid (HGd.out rfl)
            go_wp2_with fail
            rw [← hW1]
            clear hW1
            go_wp2_with fail
            refine (KL1.out _).mono ?_
            rintro e w3 ⟨rfl, hb⟩
            have D2 := Lib.hid (D1.out.trans (hb.mono D1.out.size))
            have y3 := (hb.cell (p := ⟨wo.heap.size, 3, none⟩) lw).trans q3
            clear hb
            go_wp2_with fail
            refine (KR1.out _).mono ?_
            rintro e w4 ⟨rfl, hb⟩
            have HB2 := Lib.hid (D2.out.trans (hb.mono D2.out.size))
            clear hb
            go_wp2_with fail
            go_roundw
            case rel => exact ⟨k + 1, by omega, by go_num, HB2.out, HF.out⟩
            case measure => first | (simp [intOf]; done) | (simp [intOf]; omega)
      · obtain rfl : k = l.length := by omega
        have k1 : ¬ (l.length : Int) < (l.length : Int) := by omega
        have HF := Lib.hid (ck_end (g := gg) H0.out (fun i hi => HK.out i hi hi))
        obtain ⟨t, ht⟩ : ∃ t, ignB gg = t := ⟨_, rfl⟩
        rw [ht] at KI HF
        clear ht
        cases t with
        | true =>
          go_wp2_with fail
          refine (KI.out _).mono ?_
          rintro e w3 ⟨rfl, hb⟩
          have B3 := Lib.hid (HB.out.trans (hb.mono HB.out.size))
          clear hb
          go_wp2_with fail
          go_ret
          exact ⟨ret_int (by rw [HF.out]; rfl), B3.out⟩
        | false =>
          go_wp2_with fail
          refine (KI.out _).mono ?_
          rintro e w3 ⟨rfl, hb⟩
          have B3 := Lib.hid (HB.out.trans (hb.mono HB.out.size))
          clear hb
          go_wp2_with fail
          go_ret
          exact ⟨ret_int (by rw [HF.out]; rfl), B3.out⟩
  · have HF := ck_rules (g := gg) h0
    rw [HF]
    generalize rchk (l.map bareR) = c at KC h0 ⊢
    have t0 : (c != 0) = true := by rw [bne_iff_ne]; exact h0
    clear h0 HF
    go_enter Tryz.func51, Tryz.ntmps51
    go_wp2_with fail
    refine KA.out.mono ?_
    rintro e w1 ⟨v1, rfl, hb, hr1⟩
    have B1 := Lib.hid hb
    have R1 := Lib.hid hr1
    clear hb hr1
    go_wp2_with fail
    refine (KC.out _ _ R1.out).mono ?_
    rintro e w2 ⟨rfl, hb⟩
    have B2 := Lib.hid (B1.out.trans (hb.mono B1.out.size))
    clear hb
    go_wp2_with fail
    go_ret
    exact ⟨rfl, B2.out⟩
set_option maxRecDepth 100000 in
set_option maxHeartbeats 1600000 in
theorem pcboth_any (v : Value) (l : List Rw) (hmax : l.length ≤ 50) (hs : ∀ r ∈ l, RwSm r) (s : ByteArray) (hss : s.size ≤ 9223372036854775807) (wv : Value) (u : List Md) (hu : u.length ≤ 9223372036854775807) (hua : ∀ m ∈ u, m.a.length ≤ 9223372036854775807) (w : World) (hv : Rws w v l) (hn : NilOr v) (hw : Mods w wv u) :
    Calls Tryz.prog 37 #[v, .string s, wv] w fun e w' => e = .returned (.int .i64 (chB (lA s) l u)) ∧ Below w.heap.size w w' := by
  have KC := Lib.hid (pccheck_any v l hmax hs s hss w hv hn)
  have KW := Lib.hid (fun w h => pcheck_any wv u hu hua w h)
  obtain ⟨p, cap, rfl⟩ := hv.slice
  obtain ⟨p2, cap2, rfl⟩ := hw.slice
  have HW := Lib.hid hw
  clear hv hw hn
  generalize lA s = g at KC ⊢
  by_cases h0 : cchk g l = 0
  · rw [chB_ok h0]
    rw [h0] at KC
    clear h0
    generalize chk u = c at KW ⊢
    go_enter Tryz.func37, Tryz.ntmps37
    go_wp2_with fail
    refine KC.out.mono ?_
    rintro e w1 ⟨rfl, hb⟩
    have B1 := Lib.hid hb
    clear hb
    go_wp2_with fail
    refine (KW.out _ (HW.out.later B1.out)).mono ?_
    rintro e w2 ⟨rfl, hb⟩
    have B2 := Lib.hid (B1.out.trans (hb.mono B1.out.size))
    clear hb
    go_wp2_with fail
    go_ret
    exact ⟨rfl, B2.out⟩
  · rw [chB_no h0]
    generalize cchk g l = c at KC h0 ⊢
    have t0 : (c != 0) = true := by rw [bne_iff_ne]; exact h0
    clear h0
    go_enter Tryz.func37, Tryz.ntmps37
    go_wp2_with fail
    refine KC.out.mono ?_
    rintro e w1 ⟨rfl, hb⟩
    have B1 := Lib.hid hb
    clear hb
    go_wp2_with fail
    go_ret
    exact ⟨rfl, B1.out⟩
end Go.Proofs.YtlmofdmbcddddaaGreatDoor
namespace Go.Proofs.YtlmofdmbcddddaaGreatDoor
open Go.RowKit
open WM RM
set_option linter.unusedVariables false
set_option linter.unusedSimpArgs false

theorem rng_in (x : Int) : (decide (-1000000000 ≤ x) && decide (x ≤ 1000000000)) = argB x := rfl
theorem fine70_no {x : List Int} {k : Nat} (hk : k < x.length) (h : argB x[k] = false) : fineB ⟨70, x⟩ = false := by
  have : rngB x = false := by
    unfold rngB
    rw [List.all_eq_false]
    exact ⟨_, List.getElem_mem hk, by rw [rng_in, h]; simp⟩
  simp [fineB, this]
theorem fine70_ok {x : List Int} (h4 : ¬ 4 < x.length) (h : ∀ k, (hk : k < x.length) → argB x[k] = true) : fineB ⟨70, x⟩ = true := by
  have : rngB x = true := by
    unfold rngB
    rw [List.all_eq_true]
    intro y hy
    obtain ⟨j, hj, rfl⟩ := List.mem_iff_getElem.1 hy
    exact h j hj
  unfold fineB
  rw [this, decide_eq_true (by show x.length ≤ 4; omega)]
  simp [letB, braB]
theorem within_argB (n : Int) (w : World) : Calls Tryz.prog 127 #[.int .i64 n, .int .i64 1000000000] w fun e w' => e = .returned (.bool (argB n)) ∧ w = w' := within_arg n w
theorem argB_iff {x : Int} : argB x = true ↔ -1000000000 ≤ x ∧ x ≤ 1000000000 := by simp [argB]
set_option maxRecDepth 100000 in
set_option maxHeartbeats 3200000 in
theorem prvalue_any (f : Fm) (x : List Int) (v u : Value) (hm : f.cs.length ≤ 9223372036854775807) (hx : x.length ≤ 9223372036854775807) (w : World) (h1 : Ints w v f.cs) (h2 : Ints w u x) :
    Calls Tryz.prog 132 #[.agg #[.int .i64 f.k, v], u] w fun e w' => e = .returned (.tuple #[.int .i64 (vaV f x), .int .i64 (vaC f x)]) ∧ Below w.heap.size w w' := by
  obtain ⟨p, cap, rfl⟩ := h1.slice
  obtain ⟨p2, cap2, rfl⟩ := h2.slice
  obtain ⟨W0, hW0⟩ : ∃ W, W = w.alloc (.cells #[.int .i64 f.k, .slice p f.cs.length cap] 47) := ⟨_, rfl⟩
  have N0 : W0.heap[w.heap.size]? = some (.cells #[.int .i64 f.k, .slice p f.cs.length cap] 47 (0, 0)) := by rw [hW0]; exact heap_alloc_new _ _
  have B0 : Below w.heap.size w W0 := by rw [hW0]; exact (Below.refl _ _).alloc (Nat.le_refl _) _
  have HB := Lib.hid B0
  have H1 := Lib.hid (h1.later B0)
  have H2 := Lib.hid (h2.later B0)
  have q0 := cell_two0 N0
  have q1 := cell_two1 N0
  have l1 := lt_of_block N0
  have KF := Lib.hid (fun w h => formed_any f (.slice p f.cs.length cap) (x.length : Int) hm w h)
  have KI := Lib.hid within_argB
  have HFm := Lib.hid hm
  clear N0 B0 h1 h2
  by_cases c4 : 4 < x.length
  · have HV := Lib.hid (va_bad (f := f) (.inl c4))
    have c4' : (4 : Int) < (x.length : Int) := by omega
    go_enter Tryz.func132, Tryz.ntmps132
    go_wp2_with fail
    rw [← hW0]
    clear hW0
    go_wp2_with fail
    go_ret2
    exact ⟨rret_two HV.out.2.symm HV.out.1.symm, HB.out⟩
  have c4' : ¬ (4 : Int) < (x.length : Int) := by omega
  cases hf : formB f (x.length : Int) with
  | false =>
    have HV := Lib.hid (va_bad (f := f) (.inr (.inl hf)))
    rw [hf] at KF
    clear hf
    go_enter Tryz.func132, Tryz.ntmps132
    go_wp2_with fail
    rw [← hW0]
    clear hW0
    go_wp2_with fail
    refine (KF.out _ H1.out).mono ?_
    rintro e w1 ⟨rfl, hb⟩
    have B1 := Lib.hid (HB.out.trans (hb.mono HB.out.size))
    clear hb
    go_wp2_with fail
    go_ret2
    exact ⟨rret_two HV.out.2.symm HV.out.1.symm, B1.out⟩
  | true =>
    have HFo := Lib.hid hf
    rw [hf] at KF
    clear hf
    go_enter Tryz.func132, Tryz.ntmps132
    go_wp2_with fail
    rw [← hW0]
    clear hW0
    go_wp2_with fail
    refine (KF.out _ H1.out).mono ?_
    rintro e w1 ⟨rfl, hb⟩
    have D1 := Lib.hid hb
    have y0 := (hb.cell (p := ⟨w.heap.size, 0, none⟩) l1).trans q0
    have y1 := (hb.cell (p := ⟨w.heap.size, 1, none⟩) l1).trans q1
    have H1' := Lib.hid (H1.out.later hb)
    have H2' := Lib.hid (H2.out.later hb)
    have B1 := Lib.hid (HB.out.trans (hb.mono HB.out.size))
    clear hb
    go_wp2_with fail
    go_loopw [21] (fun i wr => ∃ k : Nat, k ≤ x.length ∧ i = .int .i64 k ∧ wr = w1 ∧ ∀ j, (h : j < x.length) → j < k → argB x[j] = true) (fun i _ => x.length - (intOf i).toNat)
    case atStart => exact ⟨0, Nat.zero_le _, rfl, rfl, fun j _ h => by omega⟩
    case round =>
      obtain ⟨k, hk, rfl, rfl, hok⟩ := hrel
      have HO := Lib.hid hok
      clear hok
      by_cases hlt : k < x.length
      · obtain ⟨b, off, cap', hp, e1, lb⟩ := H2'.out.at hlt
        obtain rfl : p2 = some ⟨b, off, none⟩ := by cases hp; rfl
        have k1 : (k : Int) < (x.length : Int) := by omega
        have K2 := Lib.hid (KI.out x[k])
        obtain ⟨t, ht⟩ : ∃ t, argB x[k] = t := ⟨_, rfl⟩
        have HT := Lib.hid ht
        rw [ht] at K2
        clear hp ht
        generalize x[k] = y at e1 K2
        cases t with
        | false =>
          have HV := Lib.hid (va_bad (f := f) (.inr (.inr (fine70_no hlt HT.out))))
          go_wp2_with fail
          refine (K2.out _).mono ?_
          rintro e w2 ⟨rfl, rfl⟩
          go_wp2_with fail
          go_ret2
          exact ⟨rret_two HV.out.2.symm HV.out.1.symm, B1.out⟩
        | true =>
          have HG : Hid (∀ j, (h : j < x.length) → j < k + 1 → argB x[j] = true) := Lib.hid (fun j h hj => by
            rcases Nat.lt_or_eq_of_le (Nat.le_of_lt_succ hj) with h6 | h6
            · exact HO.out j h h6
            · subst h6; exact HT.out)
          go_wp2_with fail
          refine (K2.out _).mono ?_
          rintro e w2 ⟨rfl, rfl⟩
          go_wp2_with fail
          go_roundw
          case rel => exact ⟨k + 1, by omega, by go_num, (by first | trivial | rfl), HG.out⟩
          case measure => simp [intOf]; omega
      · obtain rfl : k = x.length := by omega
        have hi := fine70_ok c4 (fun i hi => HO.out i hi hi)
        have HV := Lib.hid (va_good c4 HFo.out hi)
        have KW := Lib.hid (fun w h h' => total_any f x (.slice p f.cs.length cap) (.slice p2 x.length cap2) HFo.out (by omega) (fine_args4 hi).2 w h h')
        obtain ⟨z, hz⟩ : ∃ z, worth f x = z := ⟨_, rfl⟩
        have K3 := Lib.hid (KI.out z)
        rw [hz] at KW HV
        clear hz hi
        have HZ : Hid ((-1000000000 ≤ z ∧ z ≤ 1000000000) ↔ argB z = true) := Lib.hid argB_iff.symm
        cases ht : argB z with
        | false =>
          have HV := Lib.hid (HV.out.1 (by rw [HZ.out, ht]; decide))
          rw [ht] at K3
          clear ht HZ
          go_wp2_with fail
          refine (KW.out _ H1'.out H2'.out).mono ?_
          rintro e w2 ⟨rfl, hb⟩
          have B2 := Lib.hid (B1.out.trans (hb.mono B1.out.size))
          clear hb
          go_wp2_with fail
          refine (K3.out _).mono ?_
          rintro e w3 ⟨rfl, rfl⟩
          go_wp2_with fail
          go_ret2
          exact ⟨rret_two HV.out.2.symm HV.out.1.symm, B2.out⟩
        | true =>
          have HV := Lib.hid (HV.out.2 (by rw [HZ.out, ht]))
          rw [ht] at K3
          clear ht HZ
          go_wp2_with fail
          refine (KW.out _ H1'.out H2'.out).mono ?_
          rintro e w2 ⟨rfl, hb⟩
          have B2 := Lib.hid (B1.out.trans (hb.mono B1.out.size))
          clear hb
          go_wp2_with fail
          refine (K3.out _).mono ?_
          rintro e w3 ⟨rfl, rfl⟩
          go_wp2_with fail
          go_ret2
          exact ⟨rret_two HV.out.2.symm HV.out.1.symm, B2.out⟩
end Go.Proofs.YtlmofdmbcddddaaGreatDoor
namespace Go.Proofs.YtlmofdmbcddddaaGreatDoor
open Go.RowKit
open WM RM
set_option linter.unusedVariables false
set_option linter.unusedSimpArgs false

set_option maxRecDepth 100000 in
set_option maxHeartbeats 3200000 in
theorem prfirst_any (v : Value) (l : List Rw) (m : Md) (mv : Value) (hmax : l.length ≤ 9223372036854775807) (hg : ∀ r ∈ l, r.gs.all (formB · r.ar) = true ∧ r.gs.length ≤ 9223372036854775807) (hm : fineB m = true) (w : World) (hv : Rws w v l) (hmv : Ints w mv m.a) :
    Calls Tryz.prog 102 #[v, .agg #[.int .u8 m.c.toNat, mv]] w fun e w' => e = .returned (.int .i64 (first l m)) ∧ Below w.heap.size w w' := by
  obtain ⟨p, cap, rfl⟩ := hv.slice
  obtain ⟨p2, cap2, rfl⟩ := hmv.slice
  obtain ⟨m4, mr⟩ := fine_args4 hm
  have HMR := Lib.hid mr
  obtain ⟨W0, hW0⟩ : ∃ W, W = w.alloc (.cells #[.int .u8 m.c.toNat, .slice p2 m.a.length cap2] 27) := ⟨_, rfl⟩
  have N0 : W0.heap[w.heap.size]? = some (.cells #[.int .u8 m.c.toNat, .slice p2 m.a.length cap2] 27 (0, 0)) := by rw [hW0]; exact heap_alloc_new _ _
  have B0 : Below w.heap.size w W0 := by rw [hW0]; exact (Below.refl _ _).alloc (Nat.le_refl _) _
  have HB := Lib.hid B0
  have HV := Lib.hid (hv.later B0)
  have HM := Lib.hid (hmv.later B0)
  have q0 := cell_two0 N0
  have q1 := cell_two1 N0
  have l1 := lt_of_block N0
  have HG := Lib.hid hg
  clear N0 B0 hv hmv hg hm mr
  go_enter Tryz.func102, Tryz.ntmps102
  go_wp2_with fail
  rw [← hW0]
  clear hW0
  go_step3
  go_wp2_with fail
  go_step3
  go_wp2_with fail
  go_loopw [11] (fun i wr => ∃ k : Nat, k ≤ l.length ∧ i = .int .i64 k ∧ Below W0.heap.size W0 wr ∧ FAt l m k) (fun i _ => l.length - (intOf i).toNat)
  case atStart => exact ⟨0, Nat.zero_le _, rfl, Below.refl _ _, fAt_start l m⟩
  case round =>
    rename World => wo
    obtain ⟨k, hk, rfl, hb, hok⟩ := hrel
    have HK := Lib.hid hok
    have HBr := Lib.hid hb
    have hbz := hb.size
    have y0 := (hb.cell (p := ⟨w.heap.size, 0, none⟩) l1).trans q0
    have y1 := (hb.cell (p := ⟨w.heap.size, 1, none⟩) l1).trans q1
    have lo : w.heap.size < wo.heap.size := Nat.lt_of_lt_of_le l1 hbz
    clear hok hb
    by_cases hlt : k < l.length
    · obtain ⟨b, off, cap', g, gc, o, oc, hp, lb, hat⟩ := (HV.out.later HBr.out).at hlt
      obtain rfl : p = some ⟨b, off, none⟩ := by cases hp; rfl
      have k1 : (k : Int) < (l.length : Int) := by omega
      obtain ⟨g1, g2⟩ := HG.out _ (List.getElem_mem hlt)
      have HG1 := Lib.hid g1
      have HX := Lib.hid (HM.out.later HBr.out)
      have HGs := Lib.hid hat.gs
      obtain ⟨e0, e1, e2, e3, e4, e5, e6, _, _⟩ := hat
      obtain ⟨r, hr⟩ : ∃ r, l[k] = r := ⟨_, rfl⟩
      have HR := Lib.hid hr
      rw [hr] at e0 e1 e2 e3 e4 e5 e6 HGs HG1 g2
      obtain ⟨W1, hW1⟩ : ∃ W, W = wo.alloc (.cells #[.int .u8 r.c.toNat, .int .i64 r.ar, .int .u8 r.l.toNat, .int .u8 r.r.toNat, .slice g r.gs.length gc, .int .i64 r.wt, .slice o r.out.length oc] 45) := ⟨_, rfl⟩
      have N1 : W1.heap[wo.heap.size]? = some (.cells #[.int .u8 r.c.toNat, .int .i64 r.ar, .int .u8 r.l.toNat, .int .u8 r.r.toNat, .slice g r.gs.length gc, .int .i64 r.wt, .slice o r.out.length oc] 45 (0, 0)) := by rw [hW1]; exact heap_alloc_new _ _
      have b1 : Below wo.heap.size wo W1 := by rw [hW1]; exact (Below.refl _ _).alloc (Nat.le_refl _) _
      have E1 := Lib.hid b1
      have B1 := Lib.hid (HBr.out.trans (b1.mono hbz))
      have r0 : W1.cell? ⟨wo.heap.size, 0, none⟩ = some (.int .u8 r.c.toNat) := by simp [World.cell?, N1]
      have r1 : W1.cell? ⟨wo.heap.size, 1, none⟩ = some (.int .i64 r.ar) := by simp [World.cell?, N1]
      have r4 : W1.cell? ⟨wo.heap.size, 4, none⟩ = some (.slice g r.gs.length gc) := by simp [World.cell?, N1]
      have s0 := (B1.out.cell (p := ⟨w.heap.size, 0, none⟩) l1).trans q0
      have s1 := (B1.out.cell (p := ⟨w.heap.size, 1, none⟩) l1).trans q1
      have HGs1 := Lib.hid (HGs.out.later E1.out)
      have HNo : Hid (fitB r m = false → FAt l m (k + 1)) := Lib.hid (fun h => fAt_no hlt HK.out (by rw [HR.out]; exact h))
      have HYes : Hid (fitB r m = true → first l m = (k : Int)) := Lib.hid (fun h => fAt_yes hlt HK.out (by rw [HR.out]; exact h))
      clear hp hr N1 b1 g1
      generalize r.l.toNat = x2 at e2 hW1
      generalize r.r.toNat = x3 at e3 hW1
      generalize r.wt = x5 at e5 hW1
      generalize r.out.length = x6 at e6 hW1
      by_cases hc : r.c = m.c
      · have HC := Lib.hid hc
        have t1 : ((r.c.toNat : Int) != (m.c.toNat : Int)) = false := by rw [hc]; simp
        by_cases ha : r.ar = (m.a.length : Int)
        · have HA := Lib.hid ha
          have HA0 := Lib.hid ha
          have t2 : (r.ar != (m.a.length : Int)) = false := by rw [ha]; simp
          clear hc ha
          generalize r.c.toNat = ca at e0 r0 t1 hW1
          generalize m.c.toNat = cb at y0 s0 q0 t1
          generalize r.ar = ra at e1 r1 t2 hW1 HG1 HA
          obtain ⟨x4, hx4⟩ : ∃ x4, r.gs.length = x4 := ⟨_, rfl⟩
          have HX4 := Lib.hid hx4
          rw [hx4] at e4 r4 hW1
          go_wp2_with fail
          rw [← hW1]
          clear hW1
          go_wp2_with fail
          have l1w : w.heap.size < W1.heap.size := Nat.lt_of_lt_of_le l1 B1.out.size
          go_loopw [32] (fun i wr => ∃ j : Nat, j ≤ x4 ∧ i = .int .i64 j ∧ Below W1.heap.size W1 wr ∧ ∀ j', (hj : j' < r.gs.length) → j' < j → 0 ≤ worth r.gs[j'] m.a) (fun i _ => x4 - (intOf i).toNat)
          case atStart => exact ⟨0, Nat.zero_le _, rfl, Below.refl _ _, fun j _ h => by omega⟩
          case round =>
            rename World => wi
            obtain ⟨j, hj, rfl, hb, hok⟩ := hrel
            have HJ := Lib.hid hok
            have HBi := Lib.hid hb
            have hbi := hb.size
            have u1 := (hb.cell (p := ⟨w.heap.size, 1, none⟩) l1w).trans s1
            have li : w.heap.size < wi.heap.size := Nat.lt_of_lt_of_le l1w hbi
            have HBw : Hid (Below W0.heap.size W0 wi) := Lib.hid (B1.out.trans (hb.mono B1.out.size))
            clear hok hb
            by_cases hjl : j < r.gs.length
            · obtain ⟨bg, og, cg, q, d, hp, f0, f1, hin, lg⟩ := (HGs1.out.later HBi.out).at hjl
              obtain rfl : g = some ⟨bg, og, none⟩ := by cases hp; rfl
              have j1 : (j : Int) < (x4 : Int) := by omega
              have hf := List.all_eq_true.1 HG1.out _ (List.getElem_mem hjl)
              rw [HA.out] at hf
              obtain ⟨W2, hW2⟩ : ∃ W, W = wi.alloc (.cells #[.int .i64 r.gs[j].k, .slice q r.gs[j].cs.length d] 47) := ⟨_, rfl⟩
              have b2 : Below wi.heap.size wi W2 := by rw [hW2]; exact (Below.refl _ _).alloc (Nat.le_refl _) _
              have E2 := Lib.hid b2
              have KT := Lib.hid (total_any r.gs[j] m.a _ _ hf m4 HMR.out W2 (hin.later b2) (HM.out.later (HBw.out.trans (b2.mono HBw.out.size))))
              obtain ⟨z, hz⟩ : ∃ z, worth r.gs[j] m.a = z := ⟨_, rfl⟩
              have HZ := Lib.hid hz
              rw [hz] at KT
              generalize r.gs[j].k = fk at f0 hW2 KT
              generalize r.gs[j].cs.length = fl at f1 hW2 KT
              clear hp hin hf hz b2
              by_cases h0 : z < 0
              · have HN := Lib.hid (HNo.out (fit_neg hjl (by rw [HZ.out]; exact h0)))
                go_wp2_with fail
                rw [← hW2]
                clear hW2
                refine KT.out.mono ?_
                rintro e w5 ⟨rfl, hb⟩
                have HB5 := Lib.hid (HBw.out.trans ((E2.out.trans (hb.mono E2.out.size)).mono HBw.out.size))
                clear hb
                go_wp2_with fail
                go_roundw
                case rel => exact ⟨k + 1, by omega, by go_num, HB5.out, HN.out⟩
                case measure => simp [intOf]; omega
              · have HJ2 : Hid (∀ j', (hj : j' < r.gs.length) → j' < j + 1 → 0 ≤ worth r.gs[j'] m.a) := Lib.hid (fun j' hj h => by
                  rcases Nat.lt_or_eq_of_le (Nat.le_of_lt_succ h) with h1 | h1
                  · exact HJ.out j' hj h1
                  · subst h1; rw [HZ.out]; omega)
                go_wp2_with fail
                rw [← hW2]
                clear hW2
                refine KT.out.mono ?_
                rintro e w5 ⟨rfl, hb⟩
                have HB5 := Lib.hid (HBi.out.trans ((E2.out.trans (hb.mono E2.out.size)).mono HBi.out.size))
                clear hb
                go_wp2_with fail
                go_roundw
                case rel => exact ⟨j + 1, by omega, by go_num, HB5.out, HJ2.out⟩
                case measure => simp [intOf]; omega
            · have hje : j = x4 := by omega
              have j1 : ¬ (j : Int) < (x4 : Int) := by omega
              have HF := Lib.hid (HYes.out (fit_ok HC.out HA0.out (fun i hi => HJ.out i hi (by omega))))
              clear hje
              go_wp2_with fail
              try rw [Exit.noGoto_ret]
              go_ret
              exact ⟨ret_int HF.out.symm, HB.out.trans (HBw.out.mono HB.out.size)⟩
        · have t2 : (r.ar != (m.a.length : Int)) = true := by rw [bne_iff_ne]; exact ha
          have HN := Lib.hid (HNo.out (fit_len ha))
          clear hc ha
          generalize r.c.toNat = ca at e0 r0 t1 hW1
          generalize m.c.toNat = cb at y0 s0 q0 t1
          generalize r.ar = ra at e1 r1 t2 hW1
          generalize r.gs.length = x4 at e4 r4 hW1
          go_wp2_with fail
          rw [← hW1]
          clear hW1
          go_roundw
          case rel => exact ⟨k + 1, by omega, by go_num, B1.out, HN.out⟩
          case measure => simp [intOf]; omega
      · have t1 : ((r.c.toNat : Int) != (m.c.toNat : Int)) = true := by
          rw [bne_iff_ne]; intro h
          exact hc (UInt8.toNat_inj.1 (by omega))
        have HN := Lib.hid (HNo.out (fit_name hc))
        clear hc
        generalize r.c.toNat = ca at e0 r0 t1 hW1
        generalize m.c.toNat = cb at y0 s0 q0 t1
        generalize r.gs.length = x4 at e4 r4 hW1
        generalize r.ar = ra at e1 r1 hW1
        go_wp2_with fail
        rw [← hW1]
        clear hW1
        go_roundw
        case rel => exact ⟨k + 1, by omega, by go_num, B1.out, HN.out⟩
        case measure => simp [intOf]; omega
    · obtain rfl : k = l.length := by omega
      have HF := Lib.hid (fAt_end HK.out)
      go_wp2_with fail
      try rw [Exit.noGoto_ret]
      go_ret
      exact ⟨ret_int HF.out.symm, HB.out.trans (HBr.out.mono HB.out.size)⟩
end Go.Proofs.YtlmofdmbcddddaaGreatDoor
namespace Go.Proofs.YtlmofdmbcddddaaGreatDoor
open Go.RowKit
open WM RM
set_option linter.unusedVariables false
set_option linter.unusedSimpArgs false

set_option maxRecDepth 100000 in
set_option maxHeartbeats 1600000 in
theorem prfind_any (v : Value) (l : List Rw) (m : Md) (mv : Value) (hmax : l.length ≤ 9223372036854775807) (hs : ∀ r ∈ l, RwSm r) (hml : m.a.length ≤ 9223372036854775807) (w : World) (hv : Rws w v l) (hmv : Ints w mv m.a) (hn : NilOr mv) :
    Calls Tryz.prog 84 #[v, .agg #[.int .u8 m.c.toNat, mv]] w fun e w' => e = .returned (.tuple #[.int .i64 (finV l m), .int .i64 (finC l m)]) ∧ Below w.heap.size w w' := by
  obtain ⟨p, cap, rfl⟩ := hv.slice
  obtain ⟨p2, cap2, rfl⟩ := hmv.slice
  obtain ⟨W0, hW0⟩ : ∃ W, W = w.alloc (.cells #[.int .u8 m.c.toNat, .slice p2 m.a.length cap2] 27) := ⟨_, rfl⟩
  have N0 : W0.heap[w.heap.size]? = some (.cells #[.int .u8 m.c.toNat, .slice p2 m.a.length cap2] 27 (0, 0)) := by rw [hW0]; exact heap_alloc_new _ _
  have B0 : Below w.heap.size w W0 := by rw [hW0]; exact (Below.refl _ _).alloc (Nat.le_refl _) _
  have HB := Lib.hid B0
  have HV := Lib.hid (hv.later B0)
  have HM := Lib.hid (hmv.later B0)
  have HN := Lib.hid hn
  have q0 := cell_two0 N0
  have q1 := cell_two1 N0
  have l1 := lt_of_block N0
  have KC := Lib.hid (fun w h => prcheck_any (.slice p l.length cap) l hmax hs w h)
  have KW := Lib.hid (fun (w : World) (h : Ints w (.slice p2 m.a.length cap2) m.a) => pcheck_any (.slice (some ⟨w.heap.size, 0, none⟩) 1 1) [m] (by simp) (by simpa using hml) (w.alloc (.cells #[.int .u8 m.c.toNat, .slice p2 m.a.length cap2] 27)) (mods_new w m _ h HN.out))
  clear N0 B0 hv hmv hn
  by_cases h0 : rchk l = 0
  · obtain ⟨r1, r2⟩ := rchk_zero h0
    rw [h0] at KC
    have hc8 := chk_one m
    obtain ⟨x, hx⟩ : ∃ x, chk [m] = x := ⟨_, rfl⟩
    rw [hx] at KW hc8
    cases hf : fineB m with
    | false =>
      have HF := Lib.hid (fin_bad h0 hf)
      rw [hf] at hc8
      have t8 : (x == 8) = true := hc8
      clear h0 hf r1 r2 hs hx hc8
      go_enter Tryz.func84, Tryz.ntmps84
      go_wp2_with fail
      rw [← hW0]
      clear hW0
      go_wp2_with fail
      refine (KC.out _ HV.out).mono ?_
      rintro e w1 ⟨rfl, hb⟩
      have D1 := Lib.hid hb
      have y0 := (hb.cell (p := ⟨w.heap.size, 0, none⟩) l1).trans q0
      have y1 := (hb.cell (p := ⟨w.heap.size, 1, none⟩) l1).trans q1
      clear hb
      go_wp2_with fail
      refine (KW.out _ (HM.out.later D1.out)).mono ?_
      rintro e w2 ⟨rfl, hb⟩
      have B2 := Lib.hid (HB.out.trans ((D1.out.trans (((Below.refl w1.heap.size w1).alloc (Nat.le_refl _) _).mono D1.out.size |>.trans (hb.mono (by have := D1.out.size; simp; omega)))).mono HB.out.size))
      clear hb
      go_wp2_with fail
      go_ret2
      exact ⟨rret_two HF.out.2.symm HF.out.1.symm, B2.out⟩
    | true =>
      have HF := Lib.hid (fin_ok h0 hf)
      rw [hf] at hc8
      have t8 : (x == 8) = false := hc8
      have KT := Lib.hid (fun w h h' => prfirst_any (.slice p l.length cap) l m (.slice p2 m.a.length cap2) hmax (fun r hr => ⟨rule_guards (r2 r hr).1, by have := (hs r hr).1; omega⟩) hf w h h')
      obtain ⟨z, hz⟩ : ∃ z, first l m = z := ⟨_, rfl⟩
      rw [hz] at KT HF
      clear h0 hf r1 r2 hs hz hx hc8
      go_enter Tryz.func84, Tryz.ntmps84
      go_wp2_with fail
      rw [← hW0]
      clear hW0
      go_wp2_with fail
      refine (KC.out _ HV.out).mono ?_
      rintro e w1 ⟨rfl, hb⟩
      have D1 := Lib.hid hb
      have y0 := (hb.cell (p := ⟨w.heap.size, 0, none⟩) l1).trans q0
      have y1 := (hb.cell (p := ⟨w.heap.size, 1, none⟩) l1).trans q1
      clear hb
      go_wp2_with fail
      refine (KW.out _ (HM.out.later D1.out)).mono ?_
      rintro e w2 ⟨rfl, hb⟩
      have D2 : Hid (Below W0.heap.size W0 w2) := Lib.hid (D1.out.trans (((Below.refl w1.heap.size w1).alloc (Nat.le_refl _) _).mono D1.out.size |>.trans (hb.mono (by have := D1.out.size; simp; omega))))
      have z0 := (D2.out.cell (p := ⟨w.heap.size, 0, none⟩) l1).trans q0
      have z1 := (D2.out.cell (p := ⟨w.heap.size, 1, none⟩) l1).trans q1
      clear hb
      go_wp2_with fail
      refine (KT.out _ (HV.out.later D2.out) (HM.out.later D2.out)).mono ?_
      rintro e w3 ⟨rfl, hb⟩
      have B3 := Lib.hid (HB.out.trans ((D2.out.trans (hb.mono D2.out.size)).mono HB.out.size))
      clear hb
      go_wp2_with fail
      go_ret2
      exact ⟨rret_two HF.out.2.symm HF.out.1.symm, B3.out⟩
  · have HF := Lib.hid (fin_rules (m := m) h0)
    obtain ⟨c, hc⟩ : ∃ c, rchk l = c := ⟨_, rfl⟩
    rw [hc] at KC HF h0
    have h1 : (c != 0) = true := by rw [bne_iff_ne]; exact h0
    clear h0 hc hs
    go_enter Tryz.func84, Tryz.ntmps84
    go_wp2_with fail
    rw [← hW0]
    clear hW0
    go_wp2_with fail
    refine (KC.out _ HV.out).mono ?_
    rintro e w1 ⟨rfl, hb⟩
    have B1 := Lib.hid (HB.out.trans (hb.mono HB.out.size))
    clear hb
    go_wp2_with fail
    go_ret2
    exact ⟨rret_two HF.out.2.symm HF.out.1.symm, B1.out⟩
end Go.Proofs.YtlmofdmbcddddaaGreatDoor
namespace Go.Proofs.YtlmofdmbcddddaaGreatDoor
open Go.RowKit
open WM RM
set_option linter.unusedVariables false
set_option linter.unusedSimpArgs false

theorem mkB_no {s : Sh} {x : List Int} {k : Nat} (hk : k < s.a.length) (h : argB (worth s.a[k] x) = false) : mkB s x = false := by
  unfold mkB
  rw [List.all_eq_false]
  exact ⟨_, List.getElem_mem hk, by rw [h]; simp⟩
theorem va_two {f : Fm} {x : List Int} (h1 : x.length ≤ 4) (h2 : formB f (x.length : Int) = true) (h3 : fineB ⟨70, x⟩ = true) : (argB (worth f x) = false → vaC f x = 16 ∧ vaV f x = 0) ∧ (argB (worth f x) = true → vaC f x = 0 ∧ vaV f x = worth f x) := by
  obtain ⟨a, b⟩ := va_good (by omega) h2 h3
  exact ⟨fun h => a (by rw [← argB_iff, h]; decide), fun h => b (argB_iff.1 h)⟩
theorem fine70_of {m : Md} (h : fineB m = true) : fineB ⟨70, m.a⟩ = true := by
  obtain ⟨h1, h2⟩ := fine_args4 h
  exact fine70_ok (by omega) fun k hk => argB_iff.2 (h2 _ (List.getElem_mem hk))
theorem two_set {w : World} {b : Nat} {x y : Value} {t : TypeId} (h : w.heap[b]? = some (.cells #[x, y] t (0, 0))) (x' y' : Value) : ((w.setCell ⟨b, 0, none⟩ x').setCell ⟨b, 1, none⟩ y').heap[b]? = some (.cells #[x', y'] t (0, 0)) := by
  have h1 := Lib.heap_setCell_same (i := 0) h x'
  have h2 := Lib.heap_setCell_same (i := 1) h1 y'
  simpa using h2
/-- How filled ends. -/
def FlEnd (s : Sh) (x : List Int) (w : World) (e : Ending) (w' : World) : Prop :=
  Below w.heap.size w w' ∧ ((mkB s x = false ∧ e = .returned (.tuple #[.agg #[.int .u8 0, .slice none 0 0], .int .i64 16])) ∨
    (mkB s x = true ∧ ∃ v, e = .returned (.tuple #[.agg #[.int .u8 s.c.toNat, v], .int .i64 0]) ∧ w'.ownsRow w.heap.size 3 1 v s.a.length (valsL (s.a.map (worth · x)))))
set_option maxRecDepth 100000 in
set_option maxHeartbeats 3200000 in
theorem filled_any (s : Sh) (x : List Int) (sv u : Value) (hs : s.a.length ≤ 10) (hf : ∀ f ∈ s.a, formB f (x.length : Int) = true) (hfi : fineB ⟨70, x⟩ = true) (w : World) (h1 : Fms w sv s.a) (h2 : Ints w u x) :
    Calls Tryz.prog 129 #[.agg #[.int .u8 s.c.toNat, sv], u] w (FlEnd s x w) := by
  obtain ⟨p, cap, rfl⟩ := h1.slice
  obtain ⟨p2, cap2, rfl⟩ := h2.slice
  have hx4 : x.length ≤ 4 := (fine_args4 hfi).1
  obtain ⟨WA, hWA⟩ : ∃ W, W = (w.alloc (.cells #[.int .u8 s.c.toNat, .slice p s.a.length cap] 49)).alloc (.cells #[.int .u8 0, .slice none 0 0] 27) := ⟨_, rfl⟩
  have hsz : WA.heap.size = w.heap.size + 1 + 1 := by rw [hWA]; simp
  obtain ⟨W0, hW0⟩ : ∃ W, W = WA.alloc (.cells #[.int .u8 s.c.toNat, .slice none 0 0] 27) := ⟨_, rfl⟩
  have N1 : WA.heap[w.heap.size]? = some (.cells #[.int .u8 s.c.toNat, .slice p s.a.length cap] 49 (0, 0)) := by rw [hWA]; exact heap_alloc_old (heap_alloc_new _ _) _
  have N2 : WA.heap[w.heap.size + 1]? = some (.cells #[.int .u8 0, .slice none 0 0] 27 (0, 0)) := by
    have := heap_alloc_new (w.alloc (.cells #[.int .u8 s.c.toNat, .slice p s.a.length cap] 49)) (.cells #[.int .u8 0, .slice none 0 0] 27)
    rw [hWA]; simpa using this
  have BA : Below w.heap.size w WA := by rw [hWA]; exact ((Below.refl _ _).alloc (Nat.le_refl _) _).alloc (by simp) _
  have I0 := inM_start WA s.c s.a x
  rw [← hW0] at I0
  rw [hWA] at hW0
  have HA := Lib.hid BA
  have HN2 := Lib.hid N2
  have H1 := Lib.hid (h1.later BA)
  have H2 := Lib.hid (h2.later BA)
  have q1 := cell_two1 N1
  have l1 := lt_of_block N1
  have l2 := lt_of_block N2
  have HF := Lib.hid hf
  have HFi := Lib.hid hfi
  have HI0 := Lib.hid I0
  have x1 := (I0.below.cell (p := ⟨w.heap.size, 1, none⟩) l1).trans q1
  obtain ⟨i0, hi, hz0, hz1, hz2⟩ := info_parts info_int
  have HM : Hid (maxLen = 9223372036854775807) := Lib.hid rfl
  have HE0 : Hid (∀ w', Below w.heap.size w w' → mkB s x = false → FlEnd s x w (.returned (.tuple #[.agg #[.int .u8 0, .slice none 0 0], .int .i64 16])) w') := Lib.hid (fun w' hb h => ⟨hb, .inl ⟨h, rfl⟩⟩)
  clear N1 N2 BA h1 h2 hf hfi I0
  go_enter Tryz.func129, Tryz.ntmps129
  go_wp2_with fail
  rw [← hW0]
  clear hW0 hWA
  go_wp2_with fail
  go_loopw [17] (fun i wr => ∃ (k : Nat) (va : Value), i = .int .i64 (k : Nat) ∧ InM WA s.c s.a x k va wr) (fun i _ => s.a.length - (intOf i).toNat)
  case atStart => exact ⟨0, _, rfl, HI0.out⟩
  case round =>
    obtain ⟨k, va, rfl, hI⟩ := hrel
    obtain ⟨pa, capa, rfl⟩ := fr_slice hI.own
    have HI := Lib.hid hI
    have hki := hI.hi
    have hbz := hI.below.size
    have HB : Hid (Below w.heap.size w wr) := Lib.hid (HA.out.trans (hI.below.mono HA.out.size))
    have u0 := cell_two0 hI.blk
    have u1 := cell_two1 hI.blk
    have lw := lt_of_block hI.blk
    rw [hsz] at u0 u1 lw
    have y1 := (hI.below.cell (p := ⟨w.heap.size, 1, none⟩) l1).trans q1
    have hb2 := Lib.hid ((hI.below.block _ l2).trans HN2.out)
    have lr := lt_of_block hb2.out
    clear hI
    by_cases hlk : k < s.a.length
    · obtain ⟨b, off, cap', pf, cf, hp, g0, g1, hin, lb⟩ := (H1.out.later HI.out.below).at hlk
      obtain rfl : p = some ⟨b, off, none⟩ := by cases hp; rfl
      have k2 : (k : Int) < (s.a.length : Int) := by omega
      have hff := HF.out _ (List.getElem_mem hlk)
      have hflen : s.a[k].cs.length ≤ 9223372036854775807 := by have := (form_iff hff).2.1; omega
      have HVa := Lib.hid (va_two hx4 hff HFi.out)
      have HBad : Hid (argB (worth s.a[k] x) = false → mkB s x = false) := Lib.hid (mkB_no hlk)
      have HStep : Hid (∀ (wi w3 : World) (v2 : Value) (tmp : Obj), InM WA s.c s.a x k (.slice pa k capa) wi → w3.ownsRow (WA.heap.size + 1) 3 1 v2 (k + 1) (valsL (wos s.a x k) ++ [.int .i64 (worth s.a[k] x)]) → (wi.alloc tmp).grownBy w3 (Value.slice pa k capa).ownBlock → argB (worth s.a[k] x) = true → InM WA s.c s.a x (k + 1) v2 (w3.setCell ⟨WA.heap.size, 1, none⟩ v2)) := Lib.hid (fun wi w3 v2 tmp h ho hg hb => inM_step h hlk ho hg hb)
      obtain ⟨W2, hW2⟩ : ∃ W, W = wr.alloc (.cells #[.int .i64 s.a[k].k, .slice pf s.a[k].cs.length cf] 47) := ⟨_, rfl⟩
      have bb2 : Below wr.heap.size wr W2 := by rw [hW2]; exact (Below.refl _ _).alloc (Nat.le_refl _) _
      have E2 := Lib.hid bb2
      have KV := Lib.hid (prvalue_any s.a[k] x _ _ hflen (by omega) W2 (hin.later bb2) ((H2.out.later HI.out.below).later bb2))
      obtain ⟨z, hz⟩ : ∃ z, worth s.a[k] x = z := ⟨_, rfl⟩
      obtain ⟨zc, hzc⟩ : ∃ z, vaC s.a[k] x = z := ⟨_, rfl⟩
      obtain ⟨zv, hzv⟩ : ∃ z, vaV s.a[k] x = z := ⟨_, rfl⟩
      rw [hz] at HVa HBad HStep
      rw [hzc, hzv] at HVa KV
      generalize s.a[k].k = fk at g0 hW2 KV
      generalize s.a[k].cs.length = fl at g1 hW2 KV
      clear hp hin hff hflen hz hzc hzv bb2
      cases hab : argB z with
      | false =>
        obtain ⟨rfl, rfl⟩ := HVa.out.1 hab
        have HBd := Lib.hid (HBad.out hab)
        clear hab
        go_wp2_with fail
        rw [← hW2]
        clear hW2
        go_wp2_with fail
        refine KV.out.mono ?_
        rintro e w3 ⟨rfl, hb⟩
        have E3 := Lib.hid (E2.out.trans (hb.mono E2.out.size))
        have HB3 := Lib.hid (HB.out.trans (E3.out.mono HB.out.size))
        have b3 := (E3.out.block _ lr).trans hb2.out
        have HBe : Hid (∀ v v', Below w.heap.size w ((w3.setCell ⟨w.heap.size + 1, 0, none⟩ v).setCell ⟨w.heap.size + 1, 1, none⟩ v')) := Lib.hid (fun v v' => (HB3.out.setCell (p := ⟨w.heap.size + 1, 0, none⟩) (Nat.le_succ _) _).setCell (p := ⟨w.heap.size + 1, 1, none⟩) (Nat.le_succ _) _)
        have s0 := cell_two0 b3
        have s1 := cell_two1 b3
        have f0 := free_two0 b3
        have f1 := free_two1 b3
        have l3 := lt_of_block b3
        have HB3b := Lib.hid b3
        clear hb b3
        go_wp2_with fail
        have e3 := two_set HB3b.out (.int .u8 0) (.slice none 0 0)
        have e0 := cell_two0 e3
        have e1 := cell_two1 e3
        exact bodyPost_ret (v := .tuple #[.agg #[.int .u8 0, .slice none 0 0], .int .i64 16]) (by simp [results, Tryz.results129, go_sem, e0, e1] <;> rfl) rfl (HE0.out _ (HBe.out _ _) HBd.out)
      | true =>
        obtain ⟨rfl, rfl⟩ := HVa.out.2 hab
        have HGd := Lib.hid hab
        clear hab
        go_wp2_with fail
        rw [← hW2]
        clear hW2
        go_wp2_with fail
        refine KV.out.mono ?_
        rintro e w3 ⟨rfl, hb⟩
        have E3 := Lib.hid (E2.out.trans (hb.mono E2.out.size))
        have HI3 := Lib.hid (HI.out.later E3.out)
        have m1 := (E3.out.cell (p := ⟨w.heap.size + 1 + 1, 1, none⟩) lw).trans u1
        have P6 : Hid ((w3.alloc (.cells #[.int .i64 zv] 3)).ownsRow (WA.heap.size + 1) 3 1 (.slice pa k capa) k (valsL (wos s.a x k))) := Lib.hid (HI3.out.own.alloc _)
        have hzq := HI3.out.below.size
        clear hb
        go_wp2_with (at_builtin; refine wpList_append_own _ rfl _ _ 25 rfl (WA.heap.size + 1) 3 i0 (.int .i64 0) 1 8 Tryz.underlying25 hi hz0 hz1 hz2 rfl (by decide) (.slice pa k capa) k (valsL (wos s.a x k)) rfl P6.out ⟨w3.heap.size, 0, none⟩ 1 1 [.int .i64 zv] rfl rfl (cell_one_new _ _ _) (by simp [Value.oneCell']) (by rw [HM.out]; omega) (by omega) (by simp; omega) ?_; intro v2 w4 ho2 hg2 hn2; have N3 := inM_blk HI3.out hg2; have I2 := Lib.hid (HStep.out _ _ _ _ HI3.out ho2 hg2 HGd.out); obtain ⟨p4, c4, rfl⟩ := fr_slice ho2; rw [hsz] at N3; rw [hsz] at I2; have q2 := cell_two0 N3; have q3 := cell_two1 N3; have fr1 : w4.frozen? ⟨w.heap.size + 1 + 1, 1, none⟩ = false := (by simp [World.frozen?, N3]); have l3 : w.heap.size + 1 + 1 < w4.heap.size := (lt_of_block N3); clear ho2 hg2 hn2 N3)
        go_wp2_with fail
        go_roundw
        case rel => exact ⟨k + 1, _, by go_num, I2.out⟩
        case measure => simp [intOf]; omega
    · obtain rfl : k = s.a.length := by omega
      have b3 := hb2.out
      have HBe : Hid (∀ v v', Below w.heap.size w ((wr.setCell ⟨w.heap.size + 1, 0, none⟩ v).setCell ⟨w.heap.size + 1, 1, none⟩ v')) := Lib.hid (fun v v' => (HB.out.setCell (p := ⟨w.heap.size + 1, 0, none⟩) (Nat.le_succ _) _).setCell (p := ⟨w.heap.size + 1, 1, none⟩) (Nat.le_succ _) _)
      have s0 := cell_two0 b3
      have s1 := cell_two1 b3
      have f0 := free_two0 b3
      have f1 := free_two1 b3
      have HE : Hid (∀ v v', FlEnd s x w (.returned (.tuple #[.agg #[.int .u8 s.c.toNat, .slice pa s.a.length capa], .int .i64 0])) ((wr.setCell ⟨w.heap.size + 1, 0, none⟩ v).setCell ⟨w.heap.size + 1, 1, none⟩ v')) := Lib.hid (fun v v' => by
        refine ⟨HBe.out v v', .inr ⟨mkB_ok (fun j hj => HI.out.good j hj hj), _, rfl, ?_⟩⟩
        have h := HI.out.own
        rw [wos_all] at h
        have h2 := ownsRow_setCell_other h (a := ⟨w.heap.size + 1, 0, none⟩) (by intro e; have h9 : WA.heap.size + 1 ≤ w.heap.size + 1 := (owns_lt h _ e).1; omega) v
        have h3 := ownsRow_setCell_other h2 (a := ⟨w.heap.size + 1, 1, none⟩) (by intro e; have h9 : WA.heap.size + 1 ≤ w.heap.size + 1 := (owns_lt h2 _ e).1; omega) v'
        exact owns_mono h3 (by omega))
      clear b3
      go_wp2_with fail
      have e3 := two_set hb2.out (.int .u8 s.c.toNat) (.slice pa s.a.length capa)
      have e0 := cell_two0 e3
      have e1 := cell_two1 e3
      exact bodyPost_ret (v := .tuple #[.agg #[.int .u8 s.c.toNat, .slice pa s.a.length capa], .int .i64 0]) (by simp [results, Tryz.results129, go_sem, e0, e1] <;> rfl) rfl (HE.out _ _)
end Go.Proofs.YtlmofdmbcddddaaGreatDoor
namespace Go.Proofs.YtlmofdmbcddddaaGreatDoor
open Go.RowKit
set_option linter.unusedVariables false
set_option linter.unusedSimpArgs false

variable {F : Fence} {n : Nat} {P : Program} {α : Type}

/-- What a round may do: it writes block B and the row r, which may be a new one behind. -/
structure StepK (N0 B : Nat) (r r' : Option Nat) (W W' : World) : Prop where
  below : Below N0 W W'
  keep : ∀ (k : Nat) (o : Obj), W.heap[k]? = some o → o.isCells = true → k ≠ B → some k ≠ r → W'.heap[k]? = some o
  row : r' = r ∨ ∀ g, r' = some g → W.heap.size ≤ g
theorem StepK.trans {N0 B : Nat} {r1 r2 r3 : Option Nat} {X Y Z : World} (h : StepK N0 B r1 r2 X Y) (k : StepK N0 B r2 r3 Y Z) : StepK N0 B r1 r3 X Z := by
  refine ⟨h.below.trans k.below, fun j o hj ho hb hr => ?_, ?_⟩
  · refine k.keep j o (h.keep j o hj ho hb hr) ho hb ?_
    rcases h.row with e | e
    · rw [e]; exact hr
    · intro e2
      have := e j e2.symm
      have := lt_of_block hj
      omega
  · have hs := h.below.size
    rcases k.row with e | e
    · rw [e]; exact h.row
    · exact .inr fun g hg => Nat.le_trans hs (e g hg)
theorem StepK.alloc {N0 B : Nat} {r : Option Nat} {W : World} (hN : N0 ≤ W.heap.size) (o : Obj) : StepK N0 B r r W (W.alloc o) := ⟨(Below.refl _ _).alloc hN _, fun k o2 hk _ _ _ => heap_alloc_old hk _, .inl rfl⟩
theorem StepK.put {N0 B : Nat} {r : Option Nat} {W : World} {l : Nat} {o o' : Obj} (hl : W.heap[l]? = some o) (ho : o.isCells = false) (hb : Below N0 W (W.putObj l o')) : StepK N0 B r r W (W.putObj l o') :=
  ⟨hb, fun k o2 hk ho2 _ _ => by
    by_cases e : k = l
    · subst e; rw [hl] at hk; cases hk; rw [ho] at ho2; cases ho2
    · exact (World.putObj_heap_other e).trans hk, .inl rfl⟩
/-- What a round promises the iterator. -/
def TellR (N0 B : Nat) (J : Option Nat → List α → World → Prop) (Jx : List α → World → Prop) (r : Option Nat) (pre : List α) (W1 : World) (e : Ending) (W' : World) : Prop :=
  (e = .returned (.bool true) ∧ ∃ r', StepK N0 B r r' W1 W' ∧ J r' pre W') ∨ (e = .returned (.bool false) ∧ Jx pre W')
/-- What an iterator promises that tells where its values lie. -/
def Tells (F : Fence) (n : Nat) (P : Program) (g : Nat) (lb : Array Value) (en : α → Array Value) (N0 B : Nat) (Qx : α → World → Prop) (S Sp : List α → Prop) (N : Nat) (w : World) : Prop :=
  ∀ (l : Nat) (J : Option Nat → List α → World → Prop) (Jx : List α → World → Prop) (W : World), Below w.heap.size w W → AbidesFrom W.heap.size (fun (s : Option Nat × List α) => J s.1 s.2) → AbidesFrom W.heap.size Jx →
    (∀ r pre W1, J r pre W1 → ∀ g, r = some g → g < W1.heap.size) →
    (∀ r pre x W1, J r pre W1 → Qx x W1 → pre.length < N → YieldAt F (n - 1) P l (en x) W1 (TellR N0 B J Jx r (pre ++ [x]) W1)) → J none [] W →
    CallsIn F n P g (#[.func (.yield l) #[] #[]] ++ lb) W fun e W' => (∃ v, e = .returned v) ∧ ((∃ r xs, S xs ∧ J r xs W') ∨ (∃ pre, Sp pre ∧ Jx pre W'))
/-- How a round's body may end. -/
def TellB (b N0 B : Nat) (I : Option Nat → List α → World → Prop) (Ix : List α → World → Prop) (r : Option Nat) (pre : List α) (W : World) : Exit → Act → World → Prop
  | .normal, _, W' => KeepsFrom b W W' ∧ ∃ r', StepK N0 B r r' W W' ∧ I r' pre W'
  | .ret, _, W' => KeepsFrom b W W' ∧ Ix pre W'
  | _, _, _ => False
/-- The loop's two blocks. -/
structure Two (w W : World) (r : Loop) : Prop where
  lp : W.heap[w.heap.size + 1]? = some (.loop r)
  col : W.heap[w.heap.size]? = some (.deferred (some []))
theorem Two.lt {w W : World} {r : Loop} (h : Two w W r) : w.heap.size + 1 < W.heap.size := lt_of_block h.lp
theorem Two.put {w W : World} {r : Loop} (h : Two w W r) (r' : Loop) : Two w (W.putObj (w.heap.size + 1) (.loop r')) r' :=
  ⟨World.putObj_heap_same h.lt, (World.putObj_heap_other (by omega)).trans h.col⟩
theorem Two.kept {w W W' : World} {r : Loop} (h : Two w W r) (hk : KeepsFrom w.heap.size W W') : Two w W' r := ⟨hk.same _ _ (by omega) h.lp rfl, hk.same _ _ (Nat.le_refl _) h.col rfl⟩
theorem Two.grown {w W W' : World} {r : Loop} {row : Option Nat} (h : Two w W r) (hg : W.grownBy W' row) (hr : ∀ j, row = some j → ∃ o : Obj, W.heap[j]? = some o ∧ o.isWalk = true) : Two w W' r :=
  ⟨(grownBy_keeps hg hr h.lp rfl).trans h.lp, (grownBy_keeps hg hr h.col rfl).trans h.col⟩
theorem Two.own {w W : World} {r : Loop} {β : Type} {I : β → World → Prop} (h : Two w W r) (hI : OwnFrom w.heap.size I) {s : β} (hs : I s W) (r' : Loop) : I s (W.putObj (w.heap.size + 1) (.loop r')) :=
  hI.putObj _ hs (by omega) h.lp rfl
theorem Two.step {w W : World} {r : Loop} (h : Two w W r) {N0 : Nat} (hN : N0 ≤ w.heap.size) (B : Nat) (q : Option Nat) (r' : Loop) : StepK N0 B q q W (W.putObj (w.heap.size + 1) (.loop r')) :=
  StepK.put h.lp rfl (belowK_b (w := w) hN W _ _ _ (by omega) h.lp rfl rfl)
theorem own_abides {w : World} {B : Nat} {β : Type} {I : β → World → Prop} (hI : OwnFrom w.heap.size I) (hB : w.heap.size ≤ B) {s : β} {A A' : World} {row : Option Nat} (hs : I s A) (hg : A.grownBy A' row) (hr : ∀ j, row = some j → B ≤ j ∧ ∃ o : Obj, A.heap[j]? = some o ∧ o.isWalk = true) : I s A' :=
  hI s A A' row hs hg fun j e => by obtain ⟨h1, o, h2, h3⟩ := hr j e; exact ⟨by omega, o, h2, Obj.not_cells_of_walk h3⟩

theorem range_tells {g : Operand} {ps : Array Tmp} {assign body : Code} {Q : Exit → Act → World → Prop} {a : Act} {w : World} (hro : F.round = none) (h1 : 1 ≤ n) {gf : Nat} {lb : Array Value} (hg : a.eval g = .func (.func gf) #[] lb) (hFg : F.fn gf)
    (eg : ∀ args w, (callFunc gf args).run P w = .ok (.enter gf args) w) {en : α → Array Value} {N0 B : Nat} {Qx : α → World → Prop} {S Sp : List α → Prop} {N : Nat} {w0 : World} (hit : Tells F (n - 1) P gf lb en N0 B Qx S Sp N w0)
    (hN0 : N0 ≤ w.heap.size) (hb0 : Below w0.heap.size w0 w) (hps : ∀ x, (en x).size = ps.size) (I : Option Nat → List α → World → Prop) (Ix : List α → World → Prop) (hIr : ∀ r pre W1, I r pre W1 → ∀ g, r = some g → g < W1.heap.size) (hI : OwnFrom w.heap.size (fun (s : Option Nat × List α) => I s.1 s.2)) (hIx : OwnFrom w.heap.size Ix) (hQ : OwnFrom w.heap.size Qx) (h0 : I none [] w) (ob : α → Obj) (a₁ : α → Nat → Act)
    (hassign : ∀ (l : Nat) (x : α) (W : World) (K : Act → World → Prop), K (a₁ x W.heap.size) (W.alloc (ob x)) →
      assign.wpIn (F.inRound l) (n - 1 - 1) P (Exit.then K (fun _ _ _ => False)) { tmps := (ps.zip (en x)).foldl (fun t (p, v) => t.setIfInBounds p v) a.tmps, defers := [] } W)
    (hbody : ∀ (l : Nat) (r : Option Nat) (pre : List α) (x : α) (mb : Nat) (W : World), I r pre W → Qx x W → W.heap[mb]? = some (ob x) → some mb ≠ r → w.heap.size ≤ mb → pre.length < N → body.wpIn (F.inRound l) (n - 1 - 1) P (TellB w.heap.size N0 B I Ix r (pre ++ [x]) W) (a₁ x mb) W)
    (hdone : ∀ (D : Nat) (r : Option Nat) (xs : List α) (W : World), w.heap.size ≤ D → S xs → I r xs W → W.heap[D]? = some (.deferred (some [])) → Q .normal { a with defers := { target := .collected D, args := #[] } :: a.defers } W)
    (hstop : ∀ (D : Nat) (pre : List α) (W : World), w.heap.size ≤ D → Sp pre → Ix pre W → W.heap[D]? = some (.deferred (some [])) → Code.ret.wpIn F n P Q { a with defers := { target := .collected D, args := #[] } :: a.defers } W) :
    (Code.rangeFunc g ps assign body).wpIn F n P Q a w := by
  refine wpIn_rangeFunc fun fn hfn => ?_
  obtain ⟨r0, hr0⟩ : ∃ r0 : Loop, r0 = { state := .ready, pending := none, fn, tmps := a.tmps, params := ps, assign, body, defers := w.heap.size } := ⟨_, rfl⟩
  obtain ⟨W1, hW1⟩ : ∃ W1, W1 = (w.alloc (.deferred (some []))).alloc (.loop r0) := ⟨_, rfl⟩
  have T1 : Two w W1 r0 := by
    rw [hW1]
    exact ⟨by have := World.alloc_heap_new (w.alloc (.deferred (some []))) (.loop r0); rwa [World.size_alloc] at this, heap_alloc_old (World.alloc_heap_new w _) _⟩
  have hsz : W1.heap.size = w.heap.size + 2 := by rw [hW1]; simp
  have hB1 : Below w.heap.size w W1 := by rw [hW1]; exact ((Below.refl _ w).alloc (Nat.le_refl _) _).alloc (by simp) _
  refine ⟨w.heap.size + 1, [{ target := .collected w.heap.size, args := #[] }], W1, { target := .fn (.func gf) lb, args := #[.func (.yield (w.heap.size + 1)) #[] #[]] }, W1, gf, #[.func (.yield (w.heap.size + 1)) #[] #[]] ++ lb, W1, ?_, ?_, ?_, ?_, fun _ => h1, ?_⟩
  · rw [hro, hW1, hr0]; exact run_enterLoop_outer _ _ _ _ _
  · simp only [resolve, hg]; simp [go_sem]
  · intro f' hf'
    simp [Target.leads] at hf'
    subst hf'; exact hFg
  · simp [invoke, go_sem, eg]
  have ab : ∀ {β : Type} {I : β → World → Prop}, OwnFrom w.heap.size I → AbidesFrom W1.heap.size I := fun hI s A A' row hs hg hr => own_abides hI (by omega) hs hg hr
  refine (hit (w.heap.size + 1) (fun r pre W => I r pre W ∧ Two w W r0) (fun pre W => Ix pre W ∧ Two w W { r0 with state := .done, pending := some .ret }) W1 (hb0.trans (hB1.mono hb0.size))
    (fun s A A' row hs hg hr => ⟨ab hI s A A' row hs.1 hg hr, hs.2.grown hg fun j e => (hr j e).2⟩) (fun s A A' row hs hg hr => ⟨ab hIx s A A' row hs.1 hg hr, hs.2.grown hg fun j e => (hr j e).2⟩) (fun r pre W h => hIr r pre W h.1) ?_
    ⟨by rw [hW1]; exact hI.alloc (s := (none, [])) _ (hI.alloc (s := (none, [])) _ h0), T1⟩).mono ?_
  · rintro r pre x W ⟨hi, hT⟩ hq hlen
    have hy := run_yield (P := P) (args := en x) hT.lp (by rw [hr0]; exact hps x)
    rw [hr0] at hy
    have hT1 : Two w (W.alloc (ob x)) r0 := hT.grown (World.grownBy_alloc W _ none) (fun j e => by cases e)
    refine ⟨fn, _, assign, body, hy, roundIn_of_wpIn hfn (hassign _ x W _ ⟨_, run_beginRound hT1.lp (by rw [hr0]), ?_⟩)⟩
    have T2 := hT1.put { r0 with state := .busy }
    have hlt := hT.lt
    have s1 : StepK N0 B r r W (W.alloc (ob x)) := StepK.alloc (by omega) _
    refine wpIn_mono (hbody _ r pre x W.heap.size _ (hT1.own hI (s := (r, pre)) (hI.alloc (s := (r, pre)) _ hi) _) (hT1.own hQ (hQ.alloc _ hq) _) ((World.putObj_heap_other (by omega)).trans (World.alloc_heap_new W _)) (fun e => by have := hIr r pre W hi _ e.symm; omega) (by omega) hlen) ?_
    rintro e a3 W3 hp
    cases e with
    | normal =>
      obtain ⟨k3, r', b3, i3⟩ := hp
      have T3 := T2.kept k3
      have T4 := T3.put r0
      refine ⟨_, _, run_endRound none T3.lp, .inl ⟨rfl, r', ((s1.trans (hT1.step hN0 B r _)).trans b3).trans (T3.step hN0 B r' _), T3.own hI (s := (r', _)) i3 _, ?_⟩⟩
      have e0 : ({ ({ r0 with state := .busy } : Loop) with state := .ready, pending := none } : Loop) = r0 := by rw [hr0]
      show Two w (W3.putObj (w.heap.size + 1) (.loop { ({ r0 with state := .busy } : Loop) with state := .ready, pending := none })) r0
      rw [e0]; exact T4
    | ret =>
      obtain ⟨k3, i3⟩ := hp
      have T3 := T2.kept k3
      exact ⟨_, _, run_endRound (some .ret) T3.lp, .inr ⟨rfl, T3.own hIx i3 _, T3.put { r0 with state := .done, pending := some .ret }⟩⟩
    | exit id => exact hp.elim
    | goto t => exact hp.elim
    | panic ch => exact hp.elim
    | outgrown => exact hp.elim
  · rintro e W2 ⟨⟨v, rfl⟩, ⟨r, xs, hS, hi, hT⟩ | ⟨pre, hSp, hi, hT⟩⟩
    · refine ⟨none, _, by have := run_endLoop (P := P) hT.lp (by rw [hr0]; simp); rw [show r0.pending = none by rw [hr0]] at this; exact this, hdone _ r xs _ (Nat.le_refl _) hS (hT.own hI (s := (r, xs)) hi _) (hT.put _).col⟩
    · exact ⟨some .ret, _, run_endLoop (P := P) hT.lp (by simp), hstop _ pre _ (Nat.le_refl _) hSp (hT.own hIx hi _) (hT.put _).col⟩
end Go.Proofs.YtlmofdmbcddddaaGreatDoor
