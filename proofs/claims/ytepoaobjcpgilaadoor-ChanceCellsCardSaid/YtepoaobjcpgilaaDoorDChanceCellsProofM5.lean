/-
  Texts of the proof, merged: DChRefB, DChEnv, DWordDec, DChBegin, DChSame, DRewMem.
-/
import Derived.Test.YtepoaobjcpgilaaDoorDChanceCellsProofM3
import Derived.Test.YtepoaobjcpgilaaDoorDChanceCellsProofM4
import Derived.Test.YtepoaobjcpgilaaDoorShelf
import Derived.Lib.LaidTab
import Derived.Lib.AppendIntMem
import Derived.Lib.ItoaLen
import Derived.LaidLaws
import Derived.Test.YtepoaobjcpgilaaDoorDChanceCellsProofM1
import Derived.Laws.IdiomStrings
import Derived.Deep.RegionLaw
import Derived.Lib.QuietBelow
namespace Go.Proofs.YtepoaobjcpgilaaDoor
open Go.RowKit
open WM RM CH
set_option linter.unusedVariables false
set_option linter.unusedSimpArgs false

set_option maxHeartbeats 1600000 in
theorem refmodules_any (v : Value) (l : List Ce) (hmax : l.length ≤ 100000) (w : World) (hv : Ces w v l) :
    Calls Tryd.prog 62 #[v] w fun e w' => ∃ v', e = .returned v' ∧ Below w.heap.size w w' ∧ Mods w' v' (l.map Ce.m) ∧ NilOr v' := by
  obtain ⟨vs, hvl, hva⟩ := hv.args
  obtain ⟨p, cap, rfl⟩ := hv.slice
  have HVA := Lib.hid hva
  have HVL := Lib.hid hvl
  obtain ⟨j0, hj, hy0, hy1, hy2⟩ := info_parts info_mod
  have HM : Hid (maxLen = 9223372036854775807) := Lib.hid rfl
  have S0 := Lib.hid (mdAt_start w l vs)
  clear hv hva hvl
  go_enter Tryd.func62, Tryd.ntmps62
  go_wp2_with fail
  go_loopw [3, 4] (fun v i wr => ∃ k : Nat, i = .int .i64 k ∧ MdAt w l vs k v wr) (fun _ i _ => l.length - (intOf i).toNat)
  case atStart => exact ⟨0, rfl, S0.out⟩
  case round =>
    obtain ⟨k, rfl, hT⟩ := hrel
    have HT := Lib.hid hT
    have n1 := hT.hi
    have hsz := hT.below.size
    clear hT
    by_cases hlt : k < l.length
    · have hk2 : k < vs.length := by rw [HVL.out]; exact hlt
      obtain ⟨_, _, b, off, cap', q, c, hp, hu, e0, e1, e2, lb⟩ := HVA.out k hlt hk2
      obtain rfl : p = some ⟨b, off, none⟩ := by cases hp; rfl
      have HU : Hid (vs[k]? = some (.slice q l[k].m.a.length c)) := Lib.hid (by rw [List.getElem?_eq_getElem hk2, hu])
      have k1 : (k : Int) < (l.length : Int) := by omega
      have d0 := (HT.out.below.cell (p := ⟨b, off + k * 3, none⟩) lb).trans e0
      have d1 := (HT.out.below.cell (p := ⟨b, off + k * 3 + 1, none⟩) lb).trans e1
      have d2 := (HT.out.below.cell (p := ⟨b, off + k * 3 + 2, none⟩) lb).trans e2
      have HSt := Lib.hid (fun (X w2 : World) (v2 : Value) => mdAt_step (X := X) (w2 := w2) (v2 := v2) HT.out hlt HVL.out HU.out)
      clear hp hu e0 e1 e2 HU
      generalize bA l[k].p = s at d0
      generalize l[k].m.c.toNat = cn at d1 HSt
      generalize l[k].m.a.length = an at d2 HSt
      go_wp2_with (at_builtin; refine wpList_append_own _ rfl _ _ 41 rfl w.heap.size 25 j0 (.agg #[.int .u8 0, .slice none 0 0]) 2 32 Tryd.underlying41 hj hy0 hy1 hy2 rfl (by decide) _ _ _ rfl (HT.out.row.alloc _) ⟨wr.heap.size, 0, none⟩ 1 1 [.int .u8 cn, .slice q an c] rfl rfl (two_new _ _ _ _) (by simp [Value.oneCell']) (by rw [HM.out]; omega) (by omega) (by simp; omega) ?_; intro v' w1 hown' hgrow _)
      have T1 := Lib.hid (HSt.out _ _ _ ((Below.refl wr.heap.size wr).alloc (Nat.le_refl _) _) hown' hgrow)
      clear hown' hgrow
      go_wp2_with fail
      go_roundw
      case rel => exact ⟨k + 1, by go_num, T1.out⟩
      case measure => simp [intOf]; omega
    · have hk : k = l.length := by omega
      have HX := Lib.hid hk
      have hm : ¬ (k : Int) < (l.length : Int) := by omega
      clear hk hlt
      go_wp2_with fail
      go_ret
      have hT := HT.out
      rw [HX.out] at hT
      exact ⟨_, rfl, hT.below, mdAt_end hT HVL.out fun k h1 h2 => ⟨(HVA.out k h1 h2).1, (HVA.out k h1 h2).2.1⟩⟩
set_option maxHeartbeats 1600000 in
theorem pmodules_any (v : Value) (l : List Ce) (hmax : l.length ≤ 100000) (w : World) (hv : Ces w v l) :
    Calls Tryd.prog 57 #[v] w fun e w' => ∃ v', e = .returned v' ∧ Below w.heap.size w w' ∧ Mods w' v' (l.map Ce.m) ∧ NilOr v' := by
  obtain ⟨vs, hvl, hva⟩ := hv.args
  obtain ⟨p, cap, rfl⟩ := hv.slice
  have HVA := Lib.hid hva
  have HVL := Lib.hid hvl
  obtain ⟨j0, hj, hy0, hy1, hy2⟩ := info_parts info_mod
  have HM : Hid (maxLen = 9223372036854775807) := Lib.hid rfl
  have S0 := Lib.hid (mdAt_start w l vs)
  clear hv hva hvl
  go_enter Tryd.func57, Tryd.ntmps57
  go_wp2_with fail
  go_loopw [3, 8] (fun v i wr => ∃ k : Nat, i = .int .i64 k ∧ MdAt w l vs k v wr) (fun _ i _ => l.length - (intOf i).toNat)
  case atStart => exact ⟨0, rfl, S0.out⟩
  case round =>
    obtain ⟨k, rfl, hT⟩ := hrel
    have HT := Lib.hid hT
    have n1 := hT.hi
    have hsz := hT.below.size
    clear hT
    by_cases hlt : k < l.length
    · have hk2 : k < vs.length := by rw [HVL.out]; exact hlt
      obtain ⟨_, _, b, off, cap', q, c, hp, hu, e0, e1, e2, lb⟩ := HVA.out k hlt hk2
      obtain rfl : p = some ⟨b, off, none⟩ := by cases hp; rfl
      have HU : Hid (vs[k]? = some (.slice q l[k].m.a.length c)) := Lib.hid (by rw [List.getElem?_eq_getElem hk2, hu])
      have k1 : (k : Int) < (l.length : Int) := by omega
      have d0 := (HT.out.below.cell (p := ⟨b, off + k * 3, none⟩) lb).trans e0
      have d1 := (HT.out.below.cell (p := ⟨b, off + k * 3 + 1, none⟩) lb).trans e1
      have d2 := (HT.out.below.cell (p := ⟨b, off + k * 3 + 2, none⟩) lb).trans e2
      have HSt := Lib.hid (fun (X w2 : World) (v2 : Value) => mdAt_step (X := X) (w2 := w2) (v2 := v2) HT.out hlt HVL.out HU.out)
      clear hp hu e0 e1 e2 HU
      generalize bA l[k].p = s at d0
      generalize l[k].m.c.toNat = cn at d1 HSt
      generalize l[k].m.a.length = an at d2 HSt
      go_wp2_with (at_builtin; refine wpList_append_own _ rfl _ _ 41 rfl w.heap.size 25 j0 (.agg #[.int .u8 0, .slice none 0 0]) 2 32 Tryd.underlying41 hj hy0 hy1 hy2 rfl (by decide) _ _ _ rfl ((HT.out.row.alloc _).alloc _) ⟨(wr.heap.size + 1), 0, none⟩ 1 1 [.int .u8 cn, .slice q an c] rfl rfl (fun j u h => by have h9 := two_new (wr.alloc (.cells #[.string s, .int .u8 cn, .slice q an c] 50)) _ _ 25 j u h; simpa using h9) (by simp [Value.oneCell']) (by rw [HM.out]; omega) (by omega) (by simp; omega) ?_; intro v' w1 hown' hgrow _)
      have T1 := Lib.hid (HSt.out _ _ _ (((Below.refl wr.heap.size wr).alloc (Nat.le_refl _) _).alloc (by simp) _) hown' hgrow)
      clear hown' hgrow
      go_wp2_with fail
      go_roundw
      case rel => exact ⟨k + 1, by go_num, T1.out⟩
      case measure => simp [intOf]; omega
    · have hk : k = l.length := by omega
      have HX := Lib.hid hk
      have hm : ¬ (k : Int) < (l.length : Int) := by omega
      clear hk hlt
      go_wp2_with fail
      go_ret
      have hT := HT.out
      rw [HX.out] at hT
      exact ⟨_, rfl, hT.below, mdAt_end hT HVL.out fun k h1 h2 => ⟨(HVA.out k h1 h2).1, (HVA.out k h1 h2).2.1⟩⟩
set_option maxRecDepth 100000 in
set_option maxHeartbeats 1600000 in
theorem refcells_any (v : Value) (l : List Ce) (hmax : l.length ≤ 2100) (hargs : ∀ c ∈ l, c.p.length ≤ 300 ∧ c.m.a.length ≤ 10) (w : World) (hv : Ces w v l) :
    Calls Tryd.prog 33 #[v] w fun e w' => e = .returned (.int .i64 (ceC l)) ∧ Below w.heap.size w w' := by
  obtain ⟨p, cap, rfl⟩ := hv.slice
  have HV := Lib.hid hv
  have HA := Lib.hid hargs
  clear hv hargs
  by_cases hlen : 2000 < l.length
  · have HC := Lib.hid (ceC_many hlen)
    have c1 : (2000 : Int) < (l.length : Int) := by omega
    go_enter Tryd.func33, Tryd.ntmps33
    go_wp2_with fail
    go_ret
    exact ⟨ret_int HC.out.symm, Below.refl _ _⟩
  · have c1 : ¬ (2000 : Int) < (l.length : Int) := by omega
    go_enter Tryd.func33, Tryd.ntmps33
    go_wp2_with fail
    go_loopw [3] (fun i wr => ∃ k : Nat, k ≤ l.length ∧ i = .int .i64 k ∧ Below w.heap.size w wr ∧ ∀ j, (h : j < l.length) → j < k → pathB l[j].p = true) (fun i _ => l.length - (intOf i).toNat)
    case atStart => exact ⟨0, Nat.zero_le _, rfl, Below.refl _ _, fun j _ h => by omega⟩
    case round =>
      obtain ⟨k, hk, rfl, hb, hok⟩ := hrel
      have HK := Lib.hid hok
      have HB := Lib.hid hb
      clear hok hb
      by_cases hlt : k < l.length
      · obtain ⟨b, off, cap', q, c, hp, e0, e1, e2, hin, lb⟩ := (HV.out.later HB.out).at hlt
        obtain rfl : p = some ⟨b, off, none⟩ := by cases hp; rfl
        have hsb := (HA.out _ (List.getElem_mem hlt)).1
        have HF := Lib.hid (fun w => refpath_any (bA l[k].p) (by rw [bA_size]; omega) w)
        obtain ⟨t, ht⟩ : ∃ t, pathB l[k].p = t := ⟨_, rfl⟩
        have HT := Lib.hid ht
        rw [lA_bA, ht] at HF
        have k1 : (k : Int) < (l.length : Int) := by omega
        clear hp hin ht hsb
        generalize bA l[k].p = s at e0 HF
        generalize l[k].m.c.toNat = cn at e1
        generalize l[k].m.a.length = an at e2
        cases t with
        | false =>
          have HC := Lib.hid (ceC_bad hlen hlt HT.out)
          go_wp2_with fail
          refine (HF.out _).mono ?_
          rintro e w1 ⟨rfl, rfl⟩
          go_wp2_with fail
          go_ret
          exact ⟨ret_int HC.out.symm, HB.out⟩
        | true =>
          have HG : Hid (∀ j, (h : j < l.length) → j < k + 1 → pathB l[j].p = true) := Lib.hid (fun j h hj => by
            rcases Nat.lt_or_eq_of_le (Nat.le_of_lt_succ hj) with h1 | h1
            · exact HK.out j h h1
            · subst h1; exact HT.out)
          go_wp2_with fail
          refine (HF.out _).mono ?_
          rintro e w1 ⟨rfl, rfl⟩
          go_wp2_with fail
          go_roundw
          case rel => exact ⟨k + 1, by omega, by go_num, HB.out, HG.out⟩
          case measure => simp [intOf]; omega
      · obtain rfl : k = l.length := by omega
        have HW := Lib.hid (ceC_word hlen fun j h => HK.out j h h)
        have KM := Lib.hid (fun w h => refmodules_any (.slice p l.length cap) l (by omega) w h)
        have KC := Lib.hid (fun v w h => check_any v (l.map Ce.m) (by rw [List.length_map]; omega) (fun m hm => by obtain ⟨c, hc, rfl⟩ := List.mem_map.1 hm; exact (HA.out c hc).2) w h)
        clear HK
        go_wp2_with fail
        refine (KM.out _ (HV.out.later HB.out)).mono ?_
        rintro e w1 ⟨v1, rfl, hb, hm, hn⟩
        have B1 := Lib.hid (HB.out.trans (hb.mono HB.out.size))
        have M1 := Lib.hid hm
        clear hb hm hn
        go_wp2_with fail
        refine (KC.out _ _ M1.out).mono ?_
        rintro e w2 ⟨rfl, hb⟩
        have B2 := Lib.hid (B1.out.trans (hb.mono B1.out.size))
        clear hb
        go_wp2_with fail
        go_ret
        exact ⟨ret_int HW.out.symm, B2.out⟩
set_option maxRecDepth 100000 in
set_option maxHeartbeats 1600000 in
theorem pcells_any (v : Value) (l : List Ce) (hmax : l.length ≤ 9223372036854775807) (hargs : ∀ c ∈ l, c.p.length ≤ 9223372036854775807 ∧ c.m.a.length ≤ 9223372036854775807) (w : World) (hv : Ces w v l) :
    Calls Tryd.prog 22 #[v] w fun e w' => e = .returned (.int .i64 (ceC l)) ∧ Below w.heap.size w w' := by
  obtain ⟨p, cap, rfl⟩ := hv.slice
  have HV := Lib.hid hv
  have HA := Lib.hid hargs
  clear hv hargs
  by_cases hlen : 2000 < l.length
  · have HC := Lib.hid (ceC_many hlen)
    have c1 : (2000 : Int) < (l.length : Int) := by omega
    go_enter Tryd.func22, Tryd.ntmps22
    go_wp2_with fail
    go_ret
    exact ⟨ret_int HC.out.symm, Below.refl _ _⟩
  · have c1 : ¬ (2000 : Int) < (l.length : Int) := by omega
    go_enter Tryd.func22, Tryd.ntmps22
    go_wp2_with fail
    go_loopw [10] (fun i wr => ∃ k : Nat, k ≤ l.length ∧ i = .int .i64 k ∧ Below w.heap.size w wr ∧ ∀ j, (h : j < l.length) → j < k → pathB l[j].p = true) (fun i _ => l.length - (intOf i).toNat)
    case atStart => exact ⟨0, Nat.zero_le _, rfl, Below.refl _ _, fun j _ h => by omega⟩
    case round =>
      obtain ⟨k, hk, rfl, hb, hok⟩ := hrel
      have HK := Lib.hid hok
      have HB := Lib.hid hb
      clear hok hb
      by_cases hlt : k < l.length
      · obtain ⟨b, off, cap', q, c, hp, e0, e1, e2, hin, lb⟩ := (HV.out.later HB.out).at hlt
        obtain rfl : p = some ⟨b, off, none⟩ := by cases hp; rfl
        have hsb := (HA.out _ (List.getElem_mem hlt)).1
        have HF := Lib.hid (fun w => pproper_any (bA l[k].p) (by rw [bA_size]; omega) w)
        obtain ⟨t, ht⟩ : ∃ t, pathB l[k].p = t := ⟨_, rfl⟩
        have HT := Lib.hid ht
        rw [lA_bA, ht] at HF
        have k1 : (k : Int) < (l.length : Int) := by omega
        clear hp hin ht hsb
        generalize bA l[k].p = s at e0 HF
        generalize l[k].m.c.toNat = cn at e1
        generalize l[k].m.a.length = an at e2
        cases t with
        | false =>
          have HC := Lib.hid (ceC_bad hlen hlt HT.out)
          go_wp2_with fail
          refine (HF.out _).mono ?_
          rintro e w1 ⟨rfl, rfl⟩
          go_wp2_with fail
          go_ret
          exact ⟨ret_int HC.out.symm, (HB.out.alloc HB.out.size _)⟩
        | true =>
          have HG : Hid (∀ j, (h : j < l.length) → j < k + 1 → pathB l[j].p = true) := Lib.hid (fun j h hj => by
            rcases Nat.lt_or_eq_of_le (Nat.le_of_lt_succ hj) with h1 | h1
            · exact HK.out j h h1
            · subst h1; exact HT.out)
          go_wp2_with fail
          refine (HF.out _).mono ?_
          rintro e w1 ⟨rfl, rfl⟩
          go_wp2_with fail
          go_roundw
          case rel => exact ⟨k + 1, by omega, by go_num, (HB.out.alloc HB.out.size _), HG.out⟩
          case measure => simp [intOf]; omega
      · obtain rfl : k = l.length := by omega
        have HW := Lib.hid (ceC_word hlen fun j h => HK.out j h h)
        have KM := Lib.hid (fun w h => pmodules_any (.slice p l.length cap) l (by omega) w h)
        have KC := Lib.hid (fun v w h => pcheck_any v (l.map Ce.m) (by rw [List.length_map]; omega) (fun m hm => by obtain ⟨c, hc, rfl⟩ := List.mem_map.1 hm; exact (HA.out c hc).2) w h)
        clear HK
        go_wp2_with fail
        refine (KM.out _ (HV.out.later HB.out)).mono ?_
        rintro e w1 ⟨v1, rfl, hb, hm, hn⟩
        have B1 := Lib.hid (HB.out.trans (hb.mono HB.out.size))
        have M1 := Lib.hid hm
        clear hb hm hn
        go_wp2_with fail
        refine (KC.out _ _ M1.out).mono ?_
        rintro e w2 ⟨rfl, hb⟩
        have B2 := Lib.hid (B1.out.trans (hb.mono B1.out.size))
        clear hb
        go_wp2_with fail
        go_ret
        exact ⟨ret_int HW.out.symm, B2.out⟩
set_option maxRecDepth 100000 in
set_option maxHeartbeats 1600000 in
theorem refword_any (v : Value) (l : List Ce) (hmax : l.length ≤ 2100) (hargs : ∀ c ∈ l, c.p.length ≤ 300 ∧ c.m.a.length ≤ 10) (w : World) (hv : Ces w v l) :
    Calls Tryd.prog 31 #[v] w fun e w' => ∃ v', e = .returned (.tuple #[v', .int .i64 (ceC l)]) ∧ Below w.heap.size w w' ∧ Mods w' v' (woL l) := by
  obtain ⟨p, cap, rfl⟩ := hv.slice
  have HV := Lib.hid hv
  have KC := Lib.hid (fun w h => refcells_any (.slice p l.length cap) l hmax hargs w h)
  have KM := Lib.hid (fun (hl : l.length ≤ 2000) w h => refmodules_any (.slice p l.length cap) l (by omega) w h)
  have KT := Lib.hid (fun (hl : l.length ≤ 2000) v w h => twin_any v (l.map Ce.m) (by rw [List.length_map]; omega) (fun m hm => by obtain ⟨c, hc, rfl⟩ := List.mem_map.1 hm; exact (hargs c hc).2) w h)
  by_cases h0 : ceC l = 0
  · have hl : l.length ≤ 2000 := by
      apply Classical.byContradiction
      intro h
      rw [ceC_many (by omega)] at h0
      omega
    have HW : Hid (woL l = l.map Ce.m) := Lib.hid (by unfold woL; rw [if_pos h0])
    rw [h0] at KC ⊢
    have KM2 := Lib.hid (KM.out hl)
    have KT2 := Lib.hid (KT.out hl)
    clear hv h0 KM KT hargs
    go_enter Tryd.func31, Tryd.ntmps31
    go_wp2_with fail
    refine (KC.out _ HV.out).mono ?_
    rintro e w1 ⟨rfl, hb⟩
    have B1 := Lib.hid hb
    clear hb
    go_wp2_with fail
    refine (KM2.out _ (HV.out.later B1.out)).mono ?_
    rintro e w2 ⟨v2, rfl, hb, hm, hn⟩
    have B2 := Lib.hid (B1.out.trans (hb.mono B1.out.size))
    have M2 := Lib.hid hm
    have N2 := Lib.hid hn
    clear hb hm hn
    go_wp2_with fail
    refine (KT2.out _ _ M2.out).mono ?_
    rintro e w3 ⟨v3, vs3, rfl, hb, hm⟩
    have B3 := Lib.hid (B2.out.trans (hb.mono B2.out.size))
    have M3 := Lib.hid hm.mods
    clear hb hm
    go_wp2_with fail
    go_ret2
    exact ⟨_, rfl, B3.out, by rw [HW.out]; exact M3.out⟩
  · have HW : Hid (woL l = []) := Lib.hid (by unfold woL; rw [if_neg h0])
    have t1 : (ceC l != 0) = true := by rw [bne_iff_ne]; exact h0
    obtain ⟨x, hx⟩ : ∃ x, ceC l = x := ⟨_, rfl⟩
    rw [hx] at KC t1 ⊢
    clear hv h0 hx KM KT hargs
    go_enter Tryd.func31, Tryd.ntmps31
    go_wp2_with fail
    refine (KC.out _ HV.out).mono ?_
    rintro e w1 ⟨rfl, hb⟩
    have B1 := Lib.hid hb
    clear hb
    go_wp2_with fail
    refine (KC.out _ (HV.out.later B1.out)).mono ?_
    rintro e w9 ⟨rfl, hb⟩
    have B9 := Lib.hid (B1.out.trans (hb.mono B1.out.size))
    clear hb
    go_wp2_with fail
    go_ret2
    exact ⟨_, rfl, B9.out, by rw [HW.out]; exact .none _ _⟩
set_option maxRecDepth 100000 in
set_option maxHeartbeats 1600000 in
theorem pword_any (v : Value) (l : List Ce) (hmax : l.length ≤ 9223372036854775807) (hargs : ∀ c ∈ l, c.p.length ≤ 9223372036854775807 ∧ c.m.a.length ≤ 1000000) (w : World) (hv : Ces w v l) :
    Calls Tryd.prog 30 #[v] w fun e w' => ∃ v', e = .returned (.tuple #[v', .int .i64 (ceC l)]) ∧ Below w.heap.size w w' ∧ Mods w' v' (woL l) := by
  obtain ⟨p, cap, rfl⟩ := hv.slice
  have HV := Lib.hid hv
  have KC := Lib.hid (fun w h => pcells_any (.slice p l.length cap) l hmax (fun c hc => ⟨(hargs c hc).1, by have := (hargs c hc).2; omega⟩) w h)
  have KM := Lib.hid (fun (hl : l.length ≤ 2000) w h => pmodules_any (.slice p l.length cap) l (by omega) w h)
  have KT := Lib.hid (fun (hl : l.length ≤ 2000) v w h hn => ptwin_any v (l.map Ce.m) (by rw [List.length_map]; omega) (fun m hm => by obtain ⟨c, hc, rfl⟩ := List.mem_map.1 hm; exact (hargs c hc).2) w h hn)
  by_cases h0 : ceC l = 0
  · have hl : l.length ≤ 2000 := by
      apply Classical.byContradiction
      intro h
      rw [ceC_many (by omega)] at h0
      omega
    have HW : Hid (woL l = l.map Ce.m) := Lib.hid (by unfold woL; rw [if_pos h0])
    rw [h0] at KC ⊢
    have KM2 := Lib.hid (KM.out hl)
    have KT2 := Lib.hid (KT.out hl)
    clear hv h0 KM KT hargs
    go_enter Tryd.func30, Tryd.ntmps30
    go_wp2_with fail
    refine (KC.out _ HV.out).mono ?_
    rintro e w1 ⟨rfl, hb⟩
    have B1 := Lib.hid hb
    clear hb
    go_wp2_with fail
    refine (KM2.out _ (HV.out.later B1.out)).mono ?_
    rintro e w2 ⟨v2, rfl, hb, hm, hn⟩
    have B2 := Lib.hid (B1.out.trans (hb.mono B1.out.size))
    have M2 := Lib.hid hm
    have N2 := Lib.hid hn
    clear hb hm hn
    go_wp2_with fail
    refine (KT2.out _ _ M2.out N2.out).mono ?_
    rintro e w3 ⟨v3, vs3, rfl, hb, hm⟩
    have B3 := Lib.hid (B2.out.trans (hb.mono B2.out.size))
    have M3 := Lib.hid hm.mods
    clear hb hm
    go_wp2_with fail
    go_ret2
    exact ⟨_, rfl, B3.out, by rw [HW.out]; exact M3.out⟩
  · have HW : Hid (woL l = []) := Lib.hid (by unfold woL; rw [if_neg h0])
    have t1 : (ceC l != 0) = true := by rw [bne_iff_ne]; exact h0
    obtain ⟨x, hx⟩ : ∃ x, ceC l = x := ⟨_, rfl⟩
    rw [hx] at KC t1 ⊢
    clear hv h0 hx KM KT hargs
    go_enter Tryd.func30, Tryd.ntmps30
    go_wp2_with fail
    refine (KC.out _ HV.out).mono ?_
    rintro e w1 ⟨rfl, hb⟩
    have B1 := Lib.hid hb
    clear hb
    go_wp2_with fail
    go_ret2
    exact ⟨_, rfl, B1.out, by rw [HW.out]; exact .none _ _⟩
end Go.Proofs.YtepoaobjcpgilaaDoor
namespace Go.Proofs.YtepoaobjcpgilaaDoor
open Go.RowKit
open WM RM CH
set_option linter.unusedVariables false
set_option linter.unusedSimpArgs false

/-- The table of powers of ten that the library's decimals are made with. -/
def Tab (w : World) : Prop := Lib.TabIs Tryd.prog w "internal/strconv.uint64pow10" .u64 Lib.pow10Tab
theorem tab_named : Tryd.prog.globalNamed "internal/strconv.uint64pow10" = some 0 := by kernel_rfl
theorem var_lt {w : World} {s : String} {g : Nat} {cs : Array Value} (hn : Tryd.prog.globalNamed s = some g) (h : w.var? Tryd.prog s = some cs) : g < w.heap.size := by
  unfold World.var? at h
  simp only [hn, Option.bind_some] at h
  rcases Nat.lt_or_ge g w.heap.size with h' | h'
  · exact h'
  · simp [Array.getElem?_eq_none h'] at h
theorem Tab.later {w w1 : World} (h : Tab w) (hb : Below w.heap.size w w1) : Tab w1 := var?_below hb tab_named (var_lt tab_named h) h
theorem itoa_any (n : Nat) (hn : n ≤ 1000000) (w : World) (ht : Tab w) :
    Calls Tryd.prog 59 #[.int .i64 (n : Int)] w fun e w' => e = .returned (.string (bA (Lib.decDigits n))) ∧ Below w.heap.size w w' := by
  refine (Tryd.strconv_Itoa (n : Int) (by omega) (by omega) w ht).mono ?_
  rintro e w' ⟨he, k, os, rfl⟩
  rw [Lib.itoa_nonneg] at he
  exact ⟨he, Lib.below_grow _ w (Nat.le_refl _) k os⟩
end Go.Proofs.YtepoaobjcpgilaaDoor
namespace Go.Proofs.YtepoaobjcpgilaaDoor
open Go.RowKit
open WM
set_option linter.unusedVariables false
set_option linter.unusedSimpArgs false

theorem run_sub (s : ByteArray) (i j : Int) (a b : Nat) (ha : i = a) (hb : j = b) (hab : a ≤ b) (hbs : b ≤ s.size) (wx : World) :
    (Instr.slice 9 (.string s) (some (.int .i64 i)) (some (.int .i64 j)) none).run Tryd.prog wx = .ok (.string (s.extract a b)) wx := by
  have := run_slice_string (P := Tryd.prog) wx 9 s .i64 .i64 i j Tryd.underlying9 (by omega) (by omega) (by omega)
  rw [this]; subst ha hb; simp
def dgS : ByteArray := ⟨#[48, 49, 50, 51, 52, 53, 54, 55, 56, 57]⟩
def digS (d : Nat) : ByteArray := dgS.extract d (d + 1)
theorem digS_eq {d : Nat} (h : d < 10) : lA (digS d) = [UInt8.ofNat (48 + d)] := by
  have : ∀ d : Fin 10, lA (digS d.1) = [UInt8.ofNat (48 + d.1)] := by decide +kernel
  exact this ⟨d, h⟩
theorem digS_size {d : Nat} (h : d < 10) : (digS d).size = 1 := by rw [← lA_len, digS_eq h]; rfl
theorem digS_run (d : Nat) (i : Int) (hi : i = d) (h : d < 10) (w : World) : (Instr.slice 9 (.string ⟨#[48, 49, 50, 51, 52, 53, 54, 55, 56, 57]⟩) (some (.int .i64 i)) (some (.int .i64 (i + 1))) none).run Tryd.prog w = .ok (.string (digS d)) w := by
  subst hi
  exact run_sub dgS d (d + 1) d (d + 1) rfl (by omega) (by omega) (by show d + 1 ≤ 10; omega) w
theorem lA_append (a b : ByteArray) : lA (a ++ b) = lA a ++ lA b := by unfold lA; rw [ByteArray.data_append]; simp
theorem dec_step {m : Nat} {t : List UInt8} : Lib.decDigits m ++ t = (if m / 10 = 0 then [] else Lib.decDigits (m / 10)) ++ (UInt8.ofNat (48 + m % 10) :: t) := by
  by_cases hm : m < 10
  · rw [if_pos (by omega), Lib.decDigits_one hm, Nat.mod_eq_of_lt hm]; rfl
  · rw [if_neg (by omega), Lib.decDigits, dif_neg hm]; simp
set_option maxHeartbeats 800000 in
theorem decimal_pos (N : Nat) (hN : N ≤ 1000000000) (w : World) :
    Calls Tryd.prog 61 #[.int .i64 (N : Int)] w fun e w' => e = .returned (.string (bA (Lib.decDigits N))) ∧ w = w' := by
  have h1 : N % 10 < 10 := Nat.mod_lt _ (by omega)
  have r1 := fun w => digS_run (N % 10) ((N : Int) % 10) (by omega) h1 w
  have s1 := digS_size h1
  have HS : Hid (Lib.decDigits N = (if N / 10 = 0 then [] else Lib.decDigits (N / 10)) ++ lA (digS (N % 10))) := Lib.hid (by
    have := dec_step (m := N) (t := [])
    rw [List.append_nil] at this
    rw [this, digS_eq h1])
  generalize digS (N % 10) = d0 at r1 s1 HS
  have c0 : ¬ (N : Int) < 0 := by omega
  go_enter Tryd.func61, Tryd.ntmps61
  go_wp2_with fail
  go_loop [0, 4] (fun n s => ∃ (m : Nat) (t : ByteArray), m ≤ N / 10 ∧ t.size ≤ 100 ∧ n = .int .i64 (m : Int) ∧ s = .string t ∧ Lib.decDigits N = (if m = 0 then [] else Lib.decDigits m) ++ lA t) (fun n _ => (intOf n).toNat)
  case atStart => exact ⟨N / 10, d0, Nat.le_refl _, by omega, by simp, rfl, HS.out⟩
  case round =>
    obtain ⟨m, t, hm, ht, rfl, rfl, hd⟩ := hrel
    have HD := Lib.hid hd
    have hlen : t.size ≤ 30 := by
      have e1 := congrArg List.length hd
      have e2 := Lib.itoa_length_le (N : Int) (by omega) (by omega)
      rw [Lib.itoa_nonneg] at e2
      rw [List.length_append, lA_len] at e1
      omega
    clear hd r1 s1 HS
    by_cases h0 : m = 0
    · subst h0
      go_wp2_with fail
      go_ret
      refine ⟨ret_str ?_, rfl⟩
      have h9 : Lib.decDigits N = lA t := HD.out
      rw [h9, bA_lA]
    · have h1 : m % 10 < 10 := Nat.mod_lt _ (by omega)
      have r1 := fun w => digS_run (m % 10) ((m : Int) % 10) (by omega) h1 w
      have s1 := digS_size h1
      have hpos : (0 : Int) < (m : Int) := by omega
      have HG : Hid (Lib.decDigits N = (if m / 10 = 0 then [] else Lib.decDigits (m / 10)) ++ lA (digS (m % 10) ++ t)) := Lib.hid (by
        have := dec_step (m := m) (t := lA t)
        have h2 := HD.out
        rw [if_neg h0] at h2
        rw [h2, this, lA_append, digS_eq h1]; rfl)
      have hs2 : (digS (m % 10) ++ t).size ≤ 100 := by rw [ByteArray.size_append]; omega
      generalize digS (m % 10) = d1 at r1 s1 HG hs2
      go_wp2_with fail
      go_round
      case rel => exact ⟨m / 10, d1 ++ t, by omega, hs2, by simp, rfl, HG.out⟩
      case measure => simp [intOf]; omega
theorem decimal_neg (N : Nat) (h0 : 0 < N) (hN : N ≤ 1000000000) (w : World) :
    Calls Tryd.prog 61 #[.int .i64 (-(N : Int))] w fun e w' => e = .returned (.string (bA (45 :: Lib.decDigits N))) ∧ w = w' := by
  have c0 : -(N : Int) < 0 := by omega
  have hl : (bA (Lib.decDigits N)).size ≤ 30 := by
    have h2 := Lib.itoa_length_le (N : Int) (by omega) (by omega)
    rw [Lib.itoa_nonneg] at h2
    rw [← lA_len, lA_bA]; omega
  have hcat : (⟨#[45]⟩ : ByteArray) ++ bA (Lib.decDigits N) = bA (45 :: Lib.decDigits N) := by apply lA_inj; rw [lA_append, lA_bA, lA_bA]; rfl
  have HC := Lib.hid hcat
  have HD := Lib.hid (fun w => decimal_pos N hN w)
  clear hcat
  generalize bA (Lib.decDigits N) = S at hl HC HD
  go_enter Tryd.func61, Tryd.ntmps61
  go_wp2_with fail
  refine (HD.out _).mono ?_
  rintro e w1 ⟨rfl, rfl⟩
  go_wp2_with fail
  go_ret
  exact ⟨ret_str HC.out, rfl⟩
theorem decimal_any (n : Int) (h1 : -1000000000 ≤ n) (h2 : n ≤ 1000000000) (w : World) :
    Calls Tryd.prog 61 #[.int .i64 n] w fun e w' => e = .returned (.string (bA (Lib.itoa n))) ∧ w = w' := by
  by_cases hn : n < 0
  · have := decimal_neg n.natAbs (by omega) (by omega) w
    rw [show (-(n.natAbs : Int)) = n by omega, show (45 :: Lib.decDigits n.natAbs) = Lib.itoa n by unfold Lib.itoa; rw [if_pos hn]] at this
    exact this
  · have := decimal_pos n.toNat (by omega) w
    rw [show ((n.toNat : Nat) : Int) = n by omega, show Lib.decDigits n.toNat = Lib.itoa n by unfold Lib.itoa; rw [if_neg hn]] at this
    exact this
end Go.Proofs.YtepoaobjcpgilaaDoor
namespace Go.Proofs.YtepoaobjcpgilaaDoor
open Go.RowKit
open WM RM CH
set_option linter.unusedVariables false
set_option linter.unusedSimpArgs false

theorem three_new (w : World) (x y z : Value) (t : TypeId) : ∀ j u, [x, y, z][j]? = some u → (w.alloc (.cells #[x, y, z] t)).cell? ((⟨w.heap.size, 0, none⟩ : Addr).add j) = some u := by
  intro j u h
  have e := heap_alloc_new w (.cells #[x, y, z] t)
  have ea : (⟨w.heap.size, 0, none⟩ : Addr).add j = ⟨w.heap.size, j, none⟩ := by
    unfold Addr.add
    split
    · rename_i h0
      have : j = 0 := by simpa using h0
      rw [this]
    · rw [Nat.zero_add]
  rw [ea]
  simp only [World.cell?, e]
  simpa using h
theorem dec_nat (k : Nat) : Lib.itoa (k : Int) = Lib.decDigits k := Lib.itoa_nonneg k
/-- The args of a word: a list of values. -/
theorem mods_args {w : World} {v : Value} {l : List Md} (h : Mods w v l) : ∃ vs : List Value, vs.length = l.length ∧ ∀ k, (hk : k < l.length) → (hk2 : k < vs.length) → Ints w vs[k] l[k].a ∧ NilOr vs[k] ∧
    ∃ b off cap p c, v = .slice (Option.some ⟨b, off, Option.none⟩) l.length cap ∧ vs[k] = .slice p l[k].a.length c ∧ w.cell? ⟨b, off + k * 2, Option.none⟩ = Option.some (.int .u8 l[k].c.toNat) ∧ w.cell? ⟨b, off + k * 2 + 1, Option.none⟩ = Option.some (.slice p l[k].a.length c) ∧ b < w.heap.size := by
  cases h with
  | none p cap => exact ⟨[], rfl, fun k hk => by simp at hk⟩
  | some b off cap _ hpos hb hx =>
    have key : ∀ i : Fin l.length, ∃ v, w.cell? ⟨b, off + i.1 * 2 + 1, none⟩ = some v ∧ Ints w v l[i.1].a ∧ NilOr v := fun i => (hx i.1 i.2).2
    obtain ⟨f, hf⟩ := Classical.axiomOfChoice key
    refine ⟨List.ofFn f, List.length_ofFn, fun k hk hk2 => ?_⟩
    rw [List.getElem_ofFn]
    obtain ⟨g1, g2, g3⟩ := hf ⟨k, hk⟩
    obtain ⟨p, c, e⟩ := g2.slice
    rw [e] at g1
    exact ⟨g2, g3, b, off, cap, p, c, rfl, e, (hx k hk).1, g1, hb⟩
theorem blk_keep {w w' : World} {b : Nat} {o : Obj} (hb : Below w.heap.size w w') (h : w.heap[b]? = some o) : w'.heap[b]? = some o := (hb.block _ (lt_of_block h)).trans h
set_option maxRecDepth 100000 in
set_option maxHeartbeats 3200000 in
theorem refbegin_any (v : Value) (l : List Md) (hmax : l.length ≤ 2100) (hargs : ∀ m ∈ l, m.a.length ≤ 10) (w : World) (hv : Mods w v l) :
    Calls Tryd.prog 29 #[v] w fun e w' => ∃ v', e = .returned (.tuple #[v', .int .i64 (chk l)]) ∧ Below w.heap.size w w' ∧ Ces w' v' (bgL Lib.decDigits l) := by
  obtain ⟨p, cap, rfl⟩ := hv.slice
  have HV := Lib.hid hv
  have KC := Lib.hid (fun w h => check_any (.slice p l.length cap) l (by omega) hargs w h)
  have KT := Lib.hid (fun w h => twin_any (.slice p l.length cap) l (by omega) hargs w h)
  by_cases h0 : chk l = 0
  · have HL : Hid (bgL Lib.decDigits l = bgF Lib.decDigits l l.length) := Lib.hid (by unfold bgL; rw [if_pos h0])
    have h2000 := (chk_zero.1 h0).1
    rw [h0] at KC ⊢
    obtain ⟨j0, hj, hy0, hy1, hy2⟩ := info_parts info_cell
    have HM : Hid (maxLen = 9223372036854775807) := Lib.hid rfl
    clear hv h0 hargs
    go_enter Tryd.func29, Tryd.ntmps29
    go_wp2_with fail
    refine (KC.out _ HV.out).mono ?_
    rintro e w1 ⟨rfl, hb⟩
    have B1 := Lib.hid hb
    clear hb
    go_wp2_with fail
    refine (KT.out _ (HV.out.later B1.out)).mono ?_
    rintro e W ⟨v2, us, rfl, hb, hm⟩
    have BW := Lib.hid (B1.out.trans (hb.mono B1.out.size))
    have hmm := hm.mods
    obtain ⟨vs, hvl, hva⟩ := mods_args hmm
    obtain ⟨p2, cap2, rfl⟩ := hmm.slice
    have HVA := Lib.hid hva
    have HVL := Lib.hid hvl
    have S0 := Lib.hid (bgAt_start Lib.decDigits W l vs)
    clear hb hm hmm hva hvl
    go_wp2_with fail
    go_loopw [4, 5] (fun v i wr => ∃ k : Nat, i = .int .i64 k ∧ BgAt Lib.decDigits W l vs k v wr) (fun _ i _ => l.length - (intOf i).toNat)
    case atStart => exact ⟨0, rfl, S0.out⟩
    case round =>
      obtain ⟨k, rfl, hT⟩ := hrel
      have HT := Lib.hid hT
      have n1 := hT.hi
      have hsz := hT.below.size
      clear hT
      by_cases hlt : k < l.length
      · have hk2 : k < vs.length := by rw [HVL.out]; exact hlt
        obtain ⟨_, _, b, off, cap', q, c, hp, hu, e1, e2, lb⟩ := HVA.out k hlt hk2
        obtain rfl : p2 = some ⟨b, off, none⟩ := by cases hp; rfl
        have HU : Hid (vs[k]? = some (.slice q l[k].a.length c)) := Lib.hid (by rw [List.getElem?_eq_getElem hk2, hu])
        have k1 : (k : Int) < (l.length : Int) := by omega
        have d1 := (HT.out.below.cell (p := ⟨b, off + k * 2, none⟩) lb).trans e1
        have d2 := (HT.out.below.cell (p := ⟨b, off + k * 2 + 1, none⟩) lb).trans e2
        have HSt := Lib.hid (fun (X w2 : World) (v2 : Value) => bgAt_step (X := X) (w2 := w2) (v2 := v2) HT.out hlt HVL.out HU.out)
        have HD := Lib.hid (fun w => decimal_any (k : Int) (by omega) (by omega) w)
        have LB := Lib.hid (Nat.lt_of_lt_of_le lb HT.out.below.size)
        have R0 := Lib.hid HT.out.row
        clear hp hu e1 e2 HU
        rw [dec_nat] at HD
        generalize bA (Lib.decDigits k) = s at HD HSt
        generalize l[k].c.toNat = cn at d1 HSt
        generalize l[k].a.length = an at d2 HSt
        have O1 : Hid ((wr.drew.alloc (.cells #[.string s, .int .u8 cn, .slice q an c] 50)).ownsRow W.heap.size 50 3 u4 k (ceQ (bgF Lib.decDigits l k) (vs.take k))) := Lib.hid ((l_own_later R0.out ((Below.refl _ _).drew)).alloc _)
        have X1 : Hid (Below wr.heap.size wr (wr.drew.alloc (.cells #[.string s, .int .u8 cn, .slice q an c] 50))) := Lib.hid (((Below.refl _ _).drew).alloc (Nat.le_refl _) _)
        go_wp2_with fail
        go_region_law? (first
          | (refine step_append_own _ rfl (.tmp 19) (.tmp 27) 46 rfl W.heap.size 50 j0 (.agg #[.string ⟨#[]⟩, .int .u8 0, .slice none 0 0]) 3 48 Tryd.underlying46 hj hy0 hy1 hy2 rfl (by decide) u4 k (ceQ (bgF Lib.decDigits l k) (vs.take k)) rfl O1.out ⟨wr.heap.size, 0, none⟩ 1 1 [.string s, .int .u8 cn, .slice q an c] rfl rfl (three_new _ _ _ _ _) (by simp [Value.oneCell']) (by rw [HM.out]; omega) (by omega) (by simp; omega) ?_
             intro v2 w2 ho2 hg2 hn2 hb2)
          | (go_simp; go_at_call 61; refine (HD.out _).mono ?_; rintro e w1 ⟨rfl, rfl⟩))
        all_goals
          have T1 := Lib.hid (HSt.out _ _ _ X1.out ho2 hg2)
          clear ho2 hg2 hn2 hb2
          go_wp2_with fail
          go_roundw
          case rel => exact ⟨k + 1, by go_num, T1.out⟩
          case measure => simp [intOf]; omega
      · have hk : k = l.length := by omega
        have HX := Lib.hid hk
        have hm : ¬ (k : Int) < (l.length : Int) := by omega
        clear hk hlt
        go_wp2_with fail
        go_ret2
        have hT := HT.out
        rw [HX.out] at hT
        exact ⟨_, rfl, (BW.out.trans (hT.below.mono BW.out.size)), by rw [HL.out]; exact bgAt_end hT HVL.out fun k h1 h2 => ⟨(HVA.out k h1 h2).1, (HVA.out k h1 h2).2.1⟩⟩
  · have HW : Hid (bgL Lib.decDigits l = []) := Lib.hid (by unfold bgL; rw [if_neg h0])
    have t1 : (chk l != 0) = true := by rw [bne_iff_ne]; exact h0
    obtain ⟨x, hx⟩ : ∃ x, chk l = x := ⟨_, rfl⟩
    rw [hx] at KC t1 ⊢
    clear hv h0 hx KT hargs
    go_enter Tryd.func29, Tryd.ntmps29
    go_wp2_with fail
    refine (KC.out _ HV.out).mono ?_
    rintro e w1 ⟨rfl, hb⟩
    have B1 := Lib.hid hb
    clear hb
    go_wp2_with fail
    refine (KC.out _ (HV.out.later B1.out)).mono ?_
    rintro e w9 ⟨rfl, hb⟩
    have B9 := Lib.hid (B1.out.trans (hb.mono B1.out.size))
    clear hb
    go_wp2_with fail
    go_ret2
    exact ⟨_, rfl, B9.out, by rw [HW.out]; exact .none _ _⟩
set_option maxRecDepth 100000 in
set_option maxHeartbeats 3200000 in
theorem pbegin_any (v : Value) (l : List Md) (hmax : l.length ≤ 9223372036854775807) (hargs : ∀ m ∈ l, m.a.length ≤ 1000000) (w : World) (hv : Mods w v l) (hnil : NilOr v) (htab : Tab w) :
    Calls Tryd.prog 28 #[v] w fun e w' => ∃ v', e = .returned (.tuple #[v', .int .i64 (chk l)]) ∧ Below w.heap.size w w' ∧ Ces w' v' (bgL Lib.decDigits l) := by
  obtain ⟨p, cap, rfl⟩ := hv.slice
  have HV := Lib.hid hv
  have KC := Lib.hid (fun w h => pcheck_any (.slice p l.length cap) l (by omega) (fun m hm => by have := hargs m hm; omega) w h)
  have KT := Lib.hid (fun (h2000 : l.length ≤ 2000) w h => ptwin_any (.slice p l.length cap) l (by omega) hargs w h hnil)
  have HTab := Lib.hid htab
  by_cases h0 : chk l = 0
  · have HL : Hid (bgL Lib.decDigits l = bgF Lib.decDigits l l.length) := Lib.hid (by unfold bgL; rw [if_pos h0])
    have h2000 := (chk_zero.1 h0).1
    have KT2 := Lib.hid (KT.out h2000)
    rw [h0] at KC ⊢
    obtain ⟨j0, hj, hy0, hy1, hy2⟩ := info_parts info_cell
    have HM : Hid (maxLen = 9223372036854775807) := Lib.hid rfl
    clear hv h0 hargs KT hnil htab
    go_enter Tryd.func28, Tryd.ntmps28
    go_wp2_with fail
    refine (KC.out _ HV.out).mono ?_
    rintro e w1 ⟨rfl, hb⟩
    have B1 := Lib.hid hb
    clear hb
    go_wp2_with fail
    refine (KT2.out _ (HV.out.later B1.out)).mono ?_
    rintro e W ⟨v2, us, rfl, hb, hm⟩
    have BW := Lib.hid (B1.out.trans (hb.mono B1.out.size))
    have hmm := hm.mods
    obtain ⟨vs, hvl, hva⟩ := mods_args hmm
    obtain ⟨p2, cap2, rfl⟩ := hmm.slice
    have HVA := Lib.hid hva
    have HVL := Lib.hid hvl
    have S0 := Lib.hid (bgAt_start Lib.decDigits W l vs)
    have HTb := Lib.hid (HTab.out.later BW.out)
    clear hb hm hmm hva hvl
    go_wp2_with fail
    go_loopw [5, 16] (fun v i wr => ∃ k : Nat, i = .int .i64 k ∧ BgAt Lib.decDigits W l vs k v wr) (fun _ i _ => l.length - (intOf i).toNat)
    case atStart => exact ⟨0, rfl, S0.out⟩
    case round =>
      obtain ⟨k, rfl, hT⟩ := hrel
      have HT := Lib.hid hT
      have n1 := hT.hi
      have hsz := hT.below.size
      clear hT
      by_cases hlt : k < l.length
      · have hk2 : k < vs.length := by rw [HVL.out]; exact hlt
        obtain ⟨_, _, b, off, cap', q, c, hp, hu, e1, e2, lb⟩ := HVA.out k hlt hk2
        obtain rfl : p2 = some ⟨b, off, none⟩ := by cases hp; rfl
        have HU : Hid (vs[k]? = some (.slice q l[k].a.length c)) := Lib.hid (by rw [List.getElem?_eq_getElem hk2, hu])
        have k1 : (k : Int) < (l.length : Int) := by omega
        have d1 := (HT.out.below.cell (p := ⟨b, off + k * 2, none⟩) lb).trans e1
        have d2 := (HT.out.below.cell (p := ⟨b, off + k * 2 + 1, none⟩) lb).trans e2
        have HSt := Lib.hid (fun (X w2 : World) (v2 : Value) => bgAt_step (X := X) (w2 := w2) (v2 := v2) HT.out hlt HVL.out HU.out)
        have HD := Lib.hid (fun w ht => itoa_any k (by omega) w ht)
        have LB := Lib.hid (Nat.lt_of_lt_of_le lb HT.out.below.size)
        have R0 := Lib.hid HT.out.row
        clear hp hu e1 e2 HU
        generalize bA (Lib.decDigits k) = s at HD HSt
        generalize l[k].c.toNat = cn at d1 HSt
        generalize l[k].a.length = an at d2 HSt
        have X0 : Hid (Below wr.heap.size wr (wr.alloc (.cells #[.int .u8 cn, .slice q an c] 25)).drew) := Lib.hid (((Below.refl _ _).alloc (Nat.le_refl _) _).drew)
        have Y0 : Hid ((wr.alloc (.cells #[.int .u8 cn, .slice q an c] 25)).drew.heap[wr.heap.size]? = some (.cells #[.int .u8 cn, .slice q an c] 25 (0, 0))) := Lib.hid (heap_alloc_new _ _)
        have TB0 := Lib.hid (HTb.out.later (HT.out.below.trans (X0.out.mono HT.out.below.size)))
        go_wp2_with fail
        go_region_law? (first
          | (refine step_append_own _ rfl (.tmp 21) (.tmp 26) 46 rfl W.heap.size 50 j0 (.agg #[.string ⟨#[]⟩, .int .u8 0, .slice none 0 0]) 3 48 Tryd.underlying46 hj hy0 hy1 hy2 rfl (by decide) u5 k (ceQ (bgF Lib.decDigits l k) (vs.take k)) rfl O1.out ⟨w1.heap.size, 0, none⟩ 1 1 [.string s, .int .u8 cn, .slice q an c] rfl rfl (three_new _ _ _ _ _) (by simp [Value.oneCell']) (by rw [HM.out]; omega) (by omega) (by simp; omega) ?_
             intro v2 w2 ho2 hg2 hn2 hb2)
          | (go_simp; go_at_call 59; refine (HD.out _ TB0.out).mono ?_; rintro e w1 ⟨rfl, hb⟩
             have X1 := Lib.hid ((X0.out.trans (hb.mono (by have := X0.out.size; exact this))).alloc (by have := hb.size; have := X0.out.size; simp at *; omega) (.cells #[.string s, .int .u8 cn, .slice q an c] 50))
             have O1 : Hid ((w1.alloc (.cells #[.string s, .int .u8 cn, .slice q an c] 50)).ownsRow W.heap.size 50 3 u5 k (ceQ (bgF Lib.decDigits l k) (vs.take k))) := Lib.hid ((l_own_later (l_own_later R0.out X0.out) hb).alloc _)
             have SZ : W.heap.size ≤ w1.heap.size := Nat.le_trans hsz (Nat.le_trans X0.out.size hb.size)
             have y0 : w1.cell? ⟨wr.heap.size, 0, none⟩ = some (.int .u8 cn) := by have := blk_keep hb Y0.out; simp [World.cell?, this]
             have y1 : w1.cell? ⟨wr.heap.size, 1, none⟩ = some (.slice q an c) := by have := blk_keep hb Y0.out; simp [World.cell?, this]
             clear hb))
        all_goals
          have T1 := Lib.hid (HSt.out _ _ _ X1.out ho2 hg2)
          clear ho2 hg2 hn2 hb2
          go_wp2_with fail
          go_roundw
          case rel => exact ⟨k + 1, by go_num, T1.out⟩
          case measure => simp [intOf]; omega
      · have hk : k = l.length := by omega
        have HX := Lib.hid hk
        have hm : ¬ (k : Int) < (l.length : Int) := by omega
        clear hk hlt
        go_wp2_with fail
        go_ret2
        have hT := HT.out
        rw [HX.out] at hT
        exact ⟨_, rfl, (BW.out.trans (hT.below.mono BW.out.size)), by rw [HL.out]; exact bgAt_end hT HVL.out fun k h1 h2 => ⟨(HVA.out k h1 h2).1, (HVA.out k h1 h2).2.1⟩⟩
  · have HW : Hid (bgL Lib.decDigits l = []) := Lib.hid (by unfold bgL; rw [if_neg h0])
    have t1 : (chk l != 0) = true := by rw [bne_iff_ne]; exact h0
    obtain ⟨x, hx⟩ : ∃ x, chk l = x := ⟨_, rfl⟩
    rw [hx] at KC t1 ⊢
    clear hv h0 hx KT hargs
    go_enter Tryd.func28, Tryd.ntmps28
    go_wp2_with fail
    refine (KC.out _ HV.out).mono ?_
    rintro e w1 ⟨rfl, hb⟩
    have B1 := Lib.hid hb
    clear hb
    go_wp2_with fail
    go_ret2
    exact ⟨_, rfl, B1.out, by rw [HW.out]; exact .none _ _⟩
end Go.Proofs.YtepoaobjcpgilaaDoor
namespace Go.Proofs.YtepoaobjcpgilaaDoor
open Go.RowKit
open WM RM CH
set_option linter.unusedVariables false
set_option linter.unusedSimpArgs false

theorem ce_ext {a b : Ce} (h1 : a.p = b.p) (h2 : a.m = b.m) : a = b := by cases a; cases b; simp_all
theorem csame_at {a b : List Ce} {k : Nat} (h1 : k < a.length) (h2 : k < b.length) (h : a[k] ≠ b[k]) : decide (a = b) = false := decide_eq_false (fun e => by subst e; exact h rfl)
theorem bA_inj {x y : Bs} (h : bA x = bA y) : x = y := by rw [← lA_bA x, h, lA_bA]
theorem str_ne {x y : Bs} (h : x ≠ y) : ((bA x).toList == (bA y).toList) = false := by
  rw [beq_eq_false_iff_ne]
  intro e
  rw [ByteArray.toList_eq, ByteArray.toList_eq] at e
  exact h (lA_bA x ▸ lA_bA y ▸ e)
set_option maxRecDepth 100000 in
set_option maxHeartbeats 3200000 in
theorem csame_any (v1 v2 : Value) (a b : List Ce) (h1 : a.length ≤ 9223372036854775807) (h2 : b.length ≤ 9223372036854775807) (g1 : ∀ c ∈ a, c.m.a.length ≤ 9223372036854775807) (g2 : ∀ c ∈ b, c.m.a.length ≤ 9223372036854775807)
    (w : World) (i1 : Ces w v1 a) (i2 : Ces w v2 b) :
    Calls Tryd.prog 34 #[v1, v2] w fun e w' => e = .returned (.bool (decide (a = b))) ∧ Below w.heap.size w w' := by
  obtain ⟨p1, cap1, rfl⟩ := i1.slice
  obtain ⟨p2, cap2, rfl⟩ := i2.slice
  have HI1 := Lib.hid i1
  have HI2 := Lib.hid i2
  have HG1 := Lib.hid g1
  have HG2 := Lib.hid g2
  clear i1 i2 g1 g2
  by_cases hl : a.length = b.length
  · obtain ⟨n, hn⟩ : ∃ n, a.length = n := ⟨_, rfl⟩
    have hn2 : b.length = n := by omega
    have HN1 := Lib.hid hn
    have HN2 := Lib.hid hn2
    rw [hn] at HI1 h1 ⊢
    rw [hn2] at HI2 ⊢
    clear hn hn2 hl h2
    go_enter Tryd.func34, Tryd.ntmps34
    go_wp2_with fail
    go_loopw [5] (fun i wr => ∃ k : Nat, k ≤ n ∧ i = .int .i64 k ∧ Below w.heap.size w wr ∧ ∀ j, (hj : j < a.length) → (hj2 : j < b.length) → j < k → a[j] = b[j]) (fun i _ => n - (intOf i).toNat)
    case atStart => exact ⟨0, Nat.zero_le _, rfl, Below.refl _ _, fun j _ _ h => by omega⟩
    case round =>
      obtain ⟨k, hk, rfl, hb, hok⟩ := hrel
      have HK := Lib.hid hok
      have HB := Lib.hid hb
      clear hok hb
      by_cases hlt : k < n
      · have ha : k < a.length := by rw [HN1.out]; exact hlt
        have hb : k < b.length := by rw [HN2.out]; exact hlt
        obtain ⟨b1, o1, c1, q1, d1, hp1, s1, e1, f1, j1, lb1⟩ := (HI1.out.later HB.out).at ha
        obtain ⟨b2, o2, c2, q2, d2, hp2, s2, e2, f2, j2, lb2⟩ := (HI2.out.later HB.out).at hb
        rw [HN1.out] at hp1
        rw [HN2.out] at hp2
        obtain rfl : p1 = some ⟨b1, o1, none⟩ := by cases hp1; rfl
        obtain rfl : p2 = some ⟨b2, o2, none⟩ := by cases hp2; rfl
        have k1 : (k : Int) < (n : Int) := by omega
        have hx1 := HG1.out _ (List.getElem_mem ha)
        have hx2 := HG2.out _ (List.getElem_mem hb)
        have HC : Hid (∀ (d : Nat) (os : Array Obj), Calls Tryd.prog 65 #[.agg #[.int .u8 a[k].m.c.toNat, .slice q1 a[k].m.a.length d1], .agg #[.int .u8 b[k].m.c.toNat, .slice q2 b[k].m.a.length d2]] («Sort».grow (redrawn wr d) os) fun e w' =>
            e = .returned (.bool (decide (a[k].m = b[k].m))) ∧ Below («Sort».grow (redrawn wr d) os).heap.size («Sort».grow (redrawn wr d) os) w') :=
          Lib.hid (fun d os => samemod_any a[k].m b[k].m _ _ hx1 hx2 _ (j1.later (below_regrown wr d os)) (j2.later (below_regrown wr d os)))
        by_cases hpq : a[k].p = b[k].p
        · have HP := Lib.hid hpq
          rw [← hpq] at s2
          obtain ⟨t, ht⟩ : ∃ t, decide (a[k].m = b[k].m) = t := ⟨_, rfl⟩
          have HT := Lib.hid ht
          rw [ht] at HC
          clear hp1 hp2 j1 j2 ht hx1 hx2 hpq
          generalize bA a[k].p = sa at s1 s2
          generalize a[k].m.c.toNat = ca at e1 HC
          generalize b[k].m.c.toNat = cb at e2 HC
          generalize a[k].m.a.length = la at f1 HC
          generalize b[k].m.a.length = lb at f2 HC
          have r1 := fun d os => cell_regrown e1 d os
          have r2 := fun d os => cell_regrown f1 d os
          have r3 := fun d os => cell_regrown e2 d os
          have r4 := fun d os => cell_regrown f2 d os
          have r5 := fun d os => cell_regrown s1 d os
          have r6 := fun d os => cell_regrown s2 d os
          go_wp2_with fail
          refine wp_region_quiet_below (by kernel_rfl) (by kernel_rfl) ?_
          repeat (any_goals (first | go_big_quiet_step ((go_at_call 65; exact Calls.regrown_of (HC.out _ _))) | quiet_step ((go_at_call 65; exact Calls.regrown_of (HC.out _ _)))))
          refine wpQuiet_nil ?_
          intro _ hw'
          obtain ⟨⟨dq, osq⟩, hw''⟩ := hw'
          subst hw''
          have HB2 : Hid (Below w.heap.size w («Sort».grow (redrawn wr dq) osq)) := Lib.hid (HB.out.trans ((below_regrown wr dq osq).mono HB.out.size))
          cases t with
          | true =>
            have HG : Hid (∀ j, (hj : j < a.length) → (hj2 : j < b.length) → j < k + 1 → a[j] = b[j]) := Lib.hid (fun j hj hj2 h => by
              rcases Nat.lt_or_eq_of_le (Nat.le_of_lt_succ h) with h1 | h1
              · exact HK.out j hj hj2 h1
              · subst h1; exact ce_ext HP.out (of_decide_eq_true HT.out))
            go_wp2_with fail
            go_roundw
            case rel => exact ⟨k + 1, by omega, by go_num, HB2.out, HG.out⟩
            case measure => simp [intOf]; omega
          | false =>
            have HF := Lib.hid (csame_at ha hb (fun e => of_decide_eq_false HT.out (congrArg Ce.m e)))
            go_wp2_with fail
            go_ret
            exact ⟨ret_bool HF.out.symm, HB2.out⟩
        · have HF := Lib.hid (csame_at ha hb (fun e => hpq (congrArg Ce.p e)))
          have t0 := str_ne hpq
          clear hp1 hp2 j1 j2 hx1 hx2 hpq HC
          generalize bA a[k].p = sa at s1 t0
          generalize bA b[k].p = sb at s2 t0
          have r5 := fun d os => cell_regrown s1 d os
          have r6 := fun d os => cell_regrown s2 d os
          go_wp2_with fail
          refine wp_region_quiet_below (by kernel_rfl) (by kernel_rfl) ?_
          repeat (any_goals (first | go_big_quiet_step (fail) | quiet_step (fail)))
          refine wpQuiet_nil ?_
          intro _ hw'
          obtain ⟨⟨dq, osq⟩, hw''⟩ := hw'
          subst hw''
          have HB2 : Hid (Below w.heap.size w («Sort».grow (redrawn wr dq) osq)) := Lib.hid (HB.out.trans ((below_regrown wr dq osq).mono HB.out.size))
          go_wp2_with fail
          go_ret
          exact ⟨ret_bool HF.out.symm, HB2.out⟩
      · obtain rfl : k = n := by omega
        have HF : Hid (decide (a = b) = true) := Lib.hid (decide_eq_true (by
          apply List.ext_getElem (by rw [HN1.out, HN2.out])
          intro j h1 h2; exact HK.out j h1 h2 (by rw [HN1.out] at h1; exact h1)))
        go_wp2_with fail
        go_ret
        exact ⟨ret_bool HF.out.symm, HB.out⟩
  · have t2 : ((a.length : Int) != (b.length : Int)) = true := by rw [bne_iff_ne]; omega
    have HF : Hid (decide (a = b) = false) := Lib.hid (decide_eq_false (fun e => hl (by rw [e])))
    clear hl
    go_enter Tryd.func34, Tryd.ntmps34
    go_wp2_with fail
    go_ret
    exact ⟨ret_bool HF.out.symm, Below.refl _ _⟩
end Go.Proofs.YtepoaobjcpgilaaDoor
namespace Go.Proofs.YtepoaobjcpgilaaDoor
open Go.RowKit
open WM RM
set_option linter.unusedVariables false
set_option linter.unusedSimpArgs false

inductive Fms (w : World) : Value → List Fm → Prop
  | none (p : Option Addr) (cap : Nat) : Fms w (.slice p 0 cap) []
  | some (b off cap : Nat) (l : List Fm) (hpos : 0 < l.length) (hb : b < w.heap.size)
      (h : ∀ i, (h : i < l.length) → w.cell? ⟨b, off + i * 2, Option.none⟩ = Option.some (.int .i64 l[i].k) ∧
        ∃ v, w.cell? ⟨b, off + i * 2 + 1, Option.none⟩ = Option.some v ∧ Ints w v l[i].cs) :
      Fms w (.slice (Option.some ⟨b, off, Option.none⟩) l.length cap) l
theorem Fms.later {w w1 : World} {v : Value} {l : List Fm} (h : Fms w v l) (hb : Below w.heap.size w w1) : Fms w1 v l := by
  cases h with
  | none p cap => exact .none p cap
  | some b off cap _ hpos hlt hx =>
    refine .some b off cap l hpos (Nat.lt_of_lt_of_le hlt hb.size) fun i hi => ?_
    obtain ⟨h1, v, h2, h3⟩ := hx i hi
    exact ⟨(hb.cell (p := ⟨b, off + i * 2, Option.none⟩) hlt).trans h1, v, (hb.cell (p := ⟨b, off + i * 2 + 1, Option.none⟩) hlt).trans h2, h3.later hb⟩
theorem Fms.slice {w : World} {v : Value} {l : List Fm} (h : Fms w v l) : ∃ p cap, v = .slice p l.length cap := by
  cases h with
  | none p cap => exact ⟨p, cap, rfl⟩
  | some b off cap _ _ _ _ => exact ⟨_, cap, rfl⟩
theorem Fms.at {w : World} {v : Value} {l : List Fm} (h : Fms w v l) {k : Nat} (hk : k < l.length) :
    ∃ b off cap p c, v = .slice (Option.some ⟨b, off, Option.none⟩) l.length cap ∧ w.cell? ⟨b, off + k * 2, Option.none⟩ = Option.some (.int .i64 l[k].k) ∧
      w.cell? ⟨b, off + k * 2 + 1, Option.none⟩ = Option.some (.slice p l[k].cs.length c) ∧ Ints w (.slice p l[k].cs.length c) l[k].cs ∧ b < w.heap.size := by
  cases h with
  | none p cap => simp at hk
  | some b off cap _ _ hb hx =>
    obtain ⟨h1, v, h2, h3⟩ := hx k hk
    obtain ⟨p, c, rfl⟩ := h3.slice
    exact ⟨b, off, cap, p, c, rfl, h1, h2, h3, hb⟩
inductive Shs (w : World) : Value → List Sh → Prop
  | none (p : Option Addr) (cap : Nat) : Shs w (.slice p 0 cap) []
  | some (b off cap : Nat) (l : List Sh) (hpos : 0 < l.length) (hb : b < w.heap.size)
      (h : ∀ i, (h : i < l.length) → w.cell? ⟨b, off + i * 2, Option.none⟩ = Option.some (.int .u8 l[i].c.toNat) ∧
        ∃ v, w.cell? ⟨b, off + i * 2 + 1, Option.none⟩ = Option.some v ∧ Fms w v l[i].a) :
      Shs w (.slice (Option.some ⟨b, off, Option.none⟩) l.length cap) l
theorem Shs.later {w w1 : World} {v : Value} {l : List Sh} (h : Shs w v l) (hb : Below w.heap.size w w1) : Shs w1 v l := by
  cases h with
  | none p cap => exact .none p cap
  | some b off cap _ hpos hlt hx =>
    refine .some b off cap l hpos (Nat.lt_of_lt_of_le hlt hb.size) fun i hi => ?_
    obtain ⟨h1, v, h2, h3⟩ := hx i hi
    exact ⟨(hb.cell (p := ⟨b, off + i * 2, Option.none⟩) hlt).trans h1, v, (hb.cell (p := ⟨b, off + i * 2 + 1, Option.none⟩) hlt).trans h2, h3.later hb⟩
theorem Shs.slice {w : World} {v : Value} {l : List Sh} (h : Shs w v l) : ∃ p cap, v = .slice p l.length cap := by
  cases h with
  | none p cap => exact ⟨p, cap, rfl⟩
  | some b off cap _ _ _ _ => exact ⟨_, cap, rfl⟩
theorem Shs.at {w : World} {v : Value} {l : List Sh} (h : Shs w v l) {k : Nat} (hk : k < l.length) :
    ∃ b off cap p c, v = .slice (Option.some ⟨b, off, Option.none⟩) l.length cap ∧ w.cell? ⟨b, off + k * 2, Option.none⟩ = Option.some (.int .u8 l[k].c.toNat) ∧
      w.cell? ⟨b, off + k * 2 + 1, Option.none⟩ = Option.some (.slice p l[k].a.length c) ∧ Fms w (.slice p l[k].a.length c) l[k].a ∧ b < w.heap.size := by
  cases h with
  | none p cap => simp at hk
  | some b off cap _ _ hb hx =>
    obtain ⟨h1, v, h2, h3⟩ := hx k hk
    obtain ⟨p, c, rfl⟩ := h3.slice
    exact ⟨b, off, cap, p, c, rfl, h1, h2, h3, hb⟩
inductive Rws (w : World) : Value → List Rw → Prop
  | none (p : Option Addr) (cap : Nat) : Rws w (.slice p 0 cap) []
  | some (b off cap : Nat) (l : List Rw) (hpos : 0 < l.length) (hb : b < w.heap.size)
      (h : ∀ i, (h : i < l.length) → w.cell? ⟨b, off + i * 7, Option.none⟩ = Option.some (.int .u8 l[i].c.toNat) ∧ w.cell? ⟨b, off + i * 7 + 1, Option.none⟩ = Option.some (.int .i64 l[i].ar) ∧
        w.cell? ⟨b, off + i * 7 + 2, Option.none⟩ = Option.some (.int .u8 l[i].l.toNat) ∧ w.cell? ⟨b, off + i * 7 + 3, Option.none⟩ = Option.some (.int .u8 l[i].r.toNat) ∧
        w.cell? ⟨b, off + i * 7 + 5, Option.none⟩ = Option.some (.int .i64 l[i].wt) ∧
        (∃ v, w.cell? ⟨b, off + i * 7 + 4, Option.none⟩ = Option.some v ∧ Fms w v l[i].gs) ∧ (∃ v, w.cell? ⟨b, off + i * 7 + 6, Option.none⟩ = Option.some v ∧ Shs w v l[i].out)) :
      Rws w (.slice (Option.some ⟨b, off, Option.none⟩) l.length cap) l
theorem Rws.later {w w1 : World} {v : Value} {l : List Rw} (h : Rws w v l) (hb : Below w.heap.size w w1) : Rws w1 v l := by
  cases h with
  | none p cap => exact .none p cap
  | some b off cap _ hpos hlt hx =>
    refine .some b off cap l hpos (Nat.lt_of_lt_of_le hlt hb.size) fun i hi => ?_
    obtain ⟨h1, h2, h3, h4, h5, ⟨v, h6, h7⟩, ⟨u, h8, h9⟩⟩ := hx i hi
    have c : ∀ o, w1.cell? ⟨b, o, Option.none⟩ = w.cell? ⟨b, o, Option.none⟩ := fun o => hb.cell (p := ⟨b, o, Option.none⟩) hlt
    exact ⟨(c _).trans h1, (c _).trans h2, (c _).trans h3, (c _).trans h4, (c _).trans h5, ⟨v, (c _).trans h6, h7.later hb⟩, ⟨u, (c _).trans h8, h9.later hb⟩⟩
theorem Rws.slice {w : World} {v : Value} {l : List Rw} (h : Rws w v l) : ∃ p cap, v = .slice p l.length cap := by
  cases h with
  | none p cap => exact ⟨p, cap, rfl⟩
  | some b off cap _ _ _ _ => exact ⟨_, cap, rfl⟩
/-- A rule's cells, at a place. -/
structure RwAt (w : World) (b o : Nat) (r : Rw) (gv ov : Value) : Prop where
  c0 : w.cell? ⟨b, o, Option.none⟩ = Option.some (.int .u8 r.c.toNat)
  c1 : w.cell? ⟨b, o + 1, Option.none⟩ = Option.some (.int .i64 r.ar)
  c2 : w.cell? ⟨b, o + 2, Option.none⟩ = Option.some (.int .u8 r.l.toNat)
  c3 : w.cell? ⟨b, o + 3, Option.none⟩ = Option.some (.int .u8 r.r.toNat)
  c4 : w.cell? ⟨b, o + 4, Option.none⟩ = Option.some gv
  c5 : w.cell? ⟨b, o + 5, Option.none⟩ = Option.some (.int .i64 r.wt)
  c6 : w.cell? ⟨b, o + 6, Option.none⟩ = Option.some ov
  gs : Fms w gv r.gs
  out : Shs w ov r.out
theorem Rws.at {w : World} {v : Value} {l : List Rw} (h : Rws w v l) {k : Nat} (hk : k < l.length) :
    ∃ b off cap p c q d, v = .slice (Option.some ⟨b, off, Option.none⟩) l.length cap ∧ b < w.heap.size ∧ RwAt w b (off + k * 7) l[k] (.slice p l[k].gs.length c) (.slice q l[k].out.length d) := by
  cases h with
  | none p cap => simp at hk
  | some b off cap _ _ hb hx =>
    obtain ⟨h1, h2, h3, h4, h5, ⟨v, h6, h7⟩, ⟨u, h8, h9⟩⟩ := hx k hk
    obtain ⟨p, c, rfl⟩ := h7.slice
    obtain ⟨q, d, rfl⟩ := h9.slice
    exact ⟨b, off, cap, p, c, q, d, rfl, hb, h1, h2, h3, h4, h6, h5, h8, h7, h9⟩
end Go.Proofs.YtepoaobjcpgilaaDoor
