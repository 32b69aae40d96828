/-
  What the package's Close hands back: the walks.
-/
import Derived.Test.YtjjjopopalcokaaDoorWordPrH
namespace Go.Proofs.YtjjjopopalcokaaDoor
open Go.RowKit
open WM
set_option linter.unusedVariables false
set_option linter.unusedSimpArgs false

theorem pclose_bad (v : Value) (l : List Md) (hmax : l.length ≤ 9223372036854775807) (hargs : ∀ m ∈ l, m.a.length ≤ 9223372036854775807) (i : Int) (h0 : chk l ≠ 0) (w : World) (hv : Mods w v l) :
    Calls Tryd.prog 10 #[v, .int .i64 i] w (ClEnd l i w) := by
  have HV := Lib.hid hv
  have HC := Lib.hid (fun w hv => pcheck_any v l hmax hargs w hv)
  have h1 : (chk l != 0) = true := by rw [bne_iff_ne]; exact h0
  have HE : Hid (∀ w', Below w.heap.size w w' → ClEnd l i w (.returned (.tuple #[.int .i64 0, .int .i64 (chk l)])) w') := Lib.hid (fun w' hb => ⟨hb, .inl ⟨h0, rfl⟩⟩)
  obtain ⟨c, hc⟩ : ∃ c, chk l = c := ⟨_, rfl⟩
  rw [hc] at HC HE h1
  clear hc hv hargs h0
  go_enter Tryd.func10, Tryd.ntmps10
  go_wp2_with fail
  refine (HC.out _ HV.out).mono ?_
  rintro e w1 ⟨rfl, hb⟩
  have B1 := Lib.hid hb
  clear hb
  go_wp2_with fail
  go_ret2
  exact HE.out _ B1.out
theorem pclose_out (v : Value) (l : List Md) (hmax : l.length ≤ 9223372036854775807) (hargs : ∀ m ∈ l, m.a.length ≤ 9223372036854775807) (i : Int) (h0 : chk l = 0) (hi : i < 0 ∨ (0 ≤ i ∧ (l.length : Int) ≤ i)) (w : World) (hv : Mods w v l) :
    Calls Tryd.prog 10 #[v, .int .i64 i] w (ClEnd l i w) := by
  obtain ⟨p, cap, rfl⟩ := hv.slice
  have HV := Lib.hid hv
  have HC := Lib.hid (fun w hv => pcheck_any (.slice p l.length cap) l hmax hargs w hv)
  have HE : Hid (∀ w', Below w.heap.size w w' → ClEnd l i w (.returned (.tuple #[.int .i64 0, .int .i64 2])) w') := Lib.hid (fun w' hb => ⟨hb, .inr (.inl ⟨h0, by
    cases h : atB l i
    · rfl
    · obtain ⟨k, rfl, hk, _⟩ := atB_iff.1 h; omega, rfl⟩)⟩)
  rw [h0] at HC
  clear hv hargs h0
  rcases hi with hi | ⟨hi, hi2⟩
  · go_enter Tryd.func10, Tryd.ntmps10
    go_wp2_with fail
    refine (HC.out _ HV.out).mono ?_
    rintro e w1 ⟨rfl, hb⟩
    have B1 := Lib.hid hb
    clear hb
    go_wp2_with fail
    go_ret2
    exact HE.out _ B1.out
  · go_enter Tryd.func10, Tryd.ntmps10
    go_wp2_with fail
    refine (HC.out _ HV.out).mono ?_
    rintro e w1 ⟨rfl, hb⟩
    have B1 := Lib.hid hb
    clear hb
    go_wp2_with fail
    go_ret2
    exact HE.out _ B1.out
set_option maxRecDepth 100000 in
set_option maxHeartbeats 1600000 in
theorem pclose_no (v : Value) (l : List Md) (hargs : ∀ m ∈ l, m.a.length ≤ 9223372036854775807) (i : Nat) (h0 : chk l = 0) (hi : i < l.length) (hb : braB l[i].c = false) (w : World) (hv : Mods w v l) :
    Calls Tryd.prog 10 #[v, .int .i64 (i : Int)] w (ClEnd l i w) := by
  have hmax : l.length ≤ 2000 := (chk_zero.1 h0).1
  obtain ⟨p, cap, rfl⟩ := hv.slice
  have HV := Lib.hid hv
  have HC := Lib.hid (fun w hv => pcheck_any (.slice p l.length cap) l (by omega) hargs w hv)
  have HE : Hid (∀ w', Below w.heap.size w w' → ClEnd l i w (.returned (.tuple #[.int .i64 0, .int .i64 2])) w') := Lib.hid (fun w' hb' => ⟨hb', .inr (.inl ⟨h0, by
    cases h : atB l i
    · rfl
    · obtain ⟨k, hk, hk2, hk3⟩ := atB_iff.1 h
      obtain rfl : i = k := by omega
      rw [hb] at hk3; exact absurd hk3 (by simp), rfl⟩)⟩)
  rw [h0] at HC
  have i1 : (i : Int) < (l.length : Int) := by omega
  have HBr := Lib.hid (fun p n c w => bracket_any l[i].c p n c w)
  rw [hb] at HBr
  clear hv hargs h0 hb
  go_enter Tryd.func10, Tryd.ntmps10
  go_wp2_with fail
  refine (HC.out _ HV.out).mono ?_
  rintro e w1 ⟨rfl, hb⟩
  have B1 := Lib.hid hb
  obtain ⟨b, off, cap', q, d, hp, e1, e2, _, lb⟩ := (HV.out.later hb).at hi
  obtain rfl : p = some ⟨b, off, none⟩ := by cases hp; rfl
  clear hb hp
  generalize l[i].c.toNat = cn at e1 HBr
  go_wp2_with fail
  refine (HBr.out _ _ _ _).mono ?_
  rintro e w2 ⟨rfl, hb⟩
  have B2 := Lib.hid (B1.out.trans (hb.mono B1.out.size))
  clear hb
  go_wp2_with fail
  go_ret2
  exact HE.out _ B2.out
set_option maxRecDepth 100000 in
set_option maxHeartbeats 3200000 in
theorem pclose_yes (v : Value) (l : List Md) (hargs : ∀ m ∈ l, m.a.length ≤ 9223372036854775807) (i : Nat) (h0 : chk l = 0) (hi : i < l.length) (hbr : braB l[i].c = true) (w : World) (hv : Mods w v l) :
    Calls Tryd.prog 10 #[v, .int .i64 (i : Int)] w (ClEnd l i w) := by
  have hmax : l.length ≤ 2000 := (chk_zero.1 h0).1
  obtain ⟨k, hk⟩ := isCl_ex h0 hi hbr
  obtain ⟨p, cap, rfl⟩ := hv.slice
  have HV := Lib.hid hv
  have HC := Lib.hid (fun w hv => pcheck_any (.slice p l.length cap) l (by omega) hargs w hv)
  have HO := Lib.hid (fun w hv => levels_valid (.slice p l.length cap) l h0 w hv)
  have HE : Hid (∀ w', Below w.heap.size w w' → ClEnd l i w (.returned (.tuple #[.int .i64 (k : Int), .int .i64 0])) w') := Lib.hid (fun w' hb => ⟨hb, .inr (.inr ⟨h0, i, k, rfl, hk, rfl⟩)⟩)
  have HBr := Lib.hid (fun p n c w => bracket_any l[i].c p n c w)
  rw [hbr] at HBr
  have i1 : (i : Int) < (l.length : Int) := by omega
  have HOk := Lib.hid (chk_zero.1 h0).2.2.1
  rw [h0] at HC
  have HK := Lib.hid hk
  clear hv hargs h0 hk
  rcases bra_cases hbr with hc | hc
  · have t3 : ((l[i].c.toNat : Int) == 93) = false := by rw [hc]; rfl
    obtain ⟨g2, g3, g4, g5⟩ := cl_fwd HK.out hi hc
    have G4 := Lib.hid g4
    have G5 := Lib.hid (g5 g3)
    clear hbr g4 g5
    go_enter Tryd.func10, Tryd.ntmps10
    go_wp2_with fail
    refine (HC.out _ HV.out).mono ?_
    rintro e w1 ⟨rfl, hb⟩
    have B1 := Lib.hid hb
    obtain ⟨b, off, cap', q, d, hp, e1, e2, _, lb⟩ := (HV.out.later hb).at hi
    obtain rfl : p = some ⟨b, off, none⟩ := by cases hp; rfl
    have lb0 : b < w.heap.size := by
      obtain ⟨b', off', cap'', q', c', hp', _, _, _, lb'⟩ := HV.out.at hi
      cases hp'; exact lb'
    clear hb hp hc
    generalize l[i].c.toNat = cn at e1 t3 HBr
    go_wp2_with fail
    refine (HBr.out _ _ _ _).mono ?_
    rintro e w2 ⟨rfl, hb⟩
    have B2 := Lib.hid (B1.out.trans (hb.mono B1.out.size))
    have e1 := (hb.cell (p := ⟨b, off + i * 2, none⟩) lb).trans e1
    have lb2 := Nat.lt_of_lt_of_le lb hb.size
    clear hb
    go_wp2_with fail
    refine (HO.out _ (HV.out.later B2.out)).mono ?_
    rintro e w3 ⟨g, rfl, hb, hi3⟩
    have B3 := Lib.hid (B2.out.trans (hb.mono B2.out.size))
    have HI := Lib.hid hi3
    have lg := hi3.lt
    clear hb hi3 e1 e2
    go_wp2_with fail
    go_loopw [10] (fun o wr => ∃ j : Nat, o = .int .i64 j ∧ i < j ∧ j ≤ k ∧ Below w3.heap.size w3 wr) (fun o _ => k - (intOf o).toNat)
    case atStart => exact ⟨i + 1, by go_num, by omega, by omega, Below.refl _ _⟩
    case round =>
      obtain ⟨j, rfl, hij, hjk, hB⟩ := hrel
      have HB := Lib.hid hB
      have hj : j < l.length := by omega
      have j1 : (j : Int) < (l.length : Int) := by omega
      have f1 := (hB.cell (p := ⟨g, j, none⟩) lg).trans (lvl_cell HI.out hj)
      have f2 := (hB.cell (p := ⟨g, i, none⟩) lg).trans (lvl_cell HI.out hi)
      have lgr := Nat.lt_of_lt_of_le lg hB.size
      obtain ⟨b', off', cap'', q2, c2, hp', e5, e6, _, lbr⟩ := (HV.out.later (B3.out.trans (hB.mono B3.out.size))).at hj
      obtain ⟨rfl, rfl⟩ : b' = b ∧ off' = off := by cases hp'; exact ⟨rfl, rfl⟩
      have HC2 := Lib.hid (fun (d : Nat) (os : Array Obj) => bracket_any l[j].c q2 l[j].a.length c2 («Sort».grow (redrawn wr d) os))
      have G4j := Lib.hid (G4.out j hj hij)
      have G5j : Hid (j = k → braB l[j].c = true ∧ lvlA l j = lvlA l i) := Lib.hid (fun e => by subst e; exact G5.out)
      clear hB hp'
      obtain ⟨t, ht⟩ : ∃ t, braB l[j].c = t := ⟨_, rfl⟩
      obtain ⟨x, hx⟩ : ∃ x, lvlA l j = x := ⟨_, rfl⟩
      obtain ⟨y, hy⟩ : ∃ y, lvlA l i = y := ⟨_, rfl⟩
      rw [ht] at HC2 G4j G5j
      rw [hx] at f1 G4j G5j
      rw [hy] at f2 G4j G5j
      clear ht hx hy
      generalize l[j].c.toNat = cn at e5 HC2
      generalize l[j].a.length = an at e6 HC2
      have r1 := fun d os => cell_regrown e5 d os
      have r2 := fun d os => cell_regrown e6 d os
      have r3 := fun d os => cell_regrown f1 d os
      have r4 := fun d os => cell_regrown f2 d os
      by_cases hjk2 : j = k
      · obtain ⟨rfl, rfl⟩ := G5j.out hjk2
        subst hjk2
        go_wp2_with fail
        refine wp_region_quiet_below (by kernel_rfl) (by kernel_rfl) ?_
        (repeat (any_goals (first | go_big_quiet_step ((go_at_call 26; exact Calls.regrown_of (HC2.out _ _))) | quiet_step ((go_at_call 26; exact Calls.regrown_of (HC2.out _ _))))))
        refine wpQuiet_nil ?_
        intro _ hw'
        obtain ⟨⟨dq, osq⟩, hw''⟩ := hw'
        subst hw''
        have HB2 : Hid (Below w.heap.size w («Sort».grow (redrawn wr dq) osq)) := Lib.hid (B3.out.trans ((HB.out.trans ((below_regrown wr dq osq).mono HB.out.size)).mono B3.out.size))
        go_wp2_with fail
        go_ret2
        exact HE.out _ HB2.out
      · cases t with
        | false =>
          go_wp2_with fail
          refine wp_region_quiet_below (by kernel_rfl) (by kernel_rfl) ?_
          (repeat (any_goals (first | go_big_quiet_step ((go_at_call 26; exact Calls.regrown_of (HC2.out _ _))) | quiet_step ((go_at_call 26; exact Calls.regrown_of (HC2.out _ _))))))
          refine wpQuiet_nil ?_
          intro _ hw'
          obtain ⟨⟨dq, osq⟩, hw''⟩ := hw'
          subst hw''
          have HB2 : Hid (Below w3.heap.size w3 («Sort».grow (redrawn wr dq) osq)) := Lib.hid (HB.out.trans ((below_regrown wr dq osq).mono HB.out.size))
          go_wp2_with fail
          go_roundw
          case rel => exact ⟨j + 1, by go_num, by omega, by omega, HB2.out⟩
          case measure => simp [intOf]; omega
        | true =>
          have hne : x ≠ y := by
            rcases G4j.out (by omega) with h | h
            · simp at h
            · exact h
          have t5 : (x != y) = true := by rw [bne_iff_ne]; exact hne
          clear hne
          go_wp2_with fail
          refine wp_region_quiet_below (by kernel_rfl) (by kernel_rfl) ?_
          (repeat (any_goals (first | go_big_quiet_step ((go_at_call 26; exact Calls.regrown_of (HC2.out _ _))) | quiet_step ((go_at_call 26; exact Calls.regrown_of (HC2.out _ _))))))
          refine wpQuiet_nil ?_
          intro _ hw'
          obtain ⟨⟨dq, osq⟩, hw''⟩ := hw'
          subst hw''
          have HB2 : Hid (Below w3.heap.size w3 («Sort».grow (redrawn wr dq) osq)) := Lib.hid (HB.out.trans ((below_regrown wr dq osq).mono HB.out.size))
          go_wp2_with fail
          go_roundw
          case rel => exact ⟨j + 1, by go_num, by omega, by omega, HB2.out⟩
          case measure => simp [intOf]; omega
  · have t3 : ((l[i].c.toNat : Int) == 93) = true := by rw [hc]; rfl
    obtain ⟨g2, g4, g5⟩ := cl_bwd HK.out hi hc
    have G4 := Lib.hid g4
    have hkl : k < l.length := by omega
    have G5 := Lib.hid (g5 hkl)
    clear hbr g4 g5
    go_enter Tryd.func10, Tryd.ntmps10
    go_wp2_with fail
    refine (HC.out _ HV.out).mono ?_
    rintro e w1 ⟨rfl, hb⟩
    have B1 := Lib.hid hb
    obtain ⟨b, off, cap', q, d, hp, e1, e2, _, lb⟩ := (HV.out.later hb).at hi
    obtain rfl : p = some ⟨b, off, none⟩ := by cases hp; rfl
    clear hb hp hc
    generalize l[i].c.toNat = cn at e1 t3 HBr
    go_wp2_with fail
    refine (HBr.out _ _ _ _).mono ?_
    rintro e w2 ⟨rfl, hb⟩
    have B2 := Lib.hid (B1.out.trans (hb.mono B1.out.size))
    have e1 := (hb.cell (p := ⟨b, off + i * 2, none⟩) lb).trans e1
    have lb2 := Nat.lt_of_lt_of_le lb hb.size
    clear hb
    go_wp2_with fail
    refine (HO.out _ (HV.out.later B2.out)).mono ?_
    rintro e w3 ⟨g, rfl, hb, hi3⟩
    have B3 := Lib.hid (B2.out.trans (hb.mono B2.out.size))
    have HI := Lib.hid hi3
    have lg := hi3.lt
    clear hb hi3 e1 e2
    go_wp2_with fail
    go_loopw [10] (fun o wr => ∃ j : Nat, o = .int .i64 j ∧ j < i ∧ k ≤ j ∧ Below w3.heap.size w3 wr) (fun o _ => (intOf o).toNat)
    case atStart => exact ⟨i - 1, by rw [show ((i - 1 : Nat) : Int) = (i : Int) + -1 by omega], by omega, by omega, Below.refl _ _⟩
    case round =>
      obtain ⟨j, rfl, hij, hjk, hB⟩ := hrel
      have HB := Lib.hid hB
      have hj : j < l.length := by omega
      have j1 : (j : Int) < (l.length : Int) := by omega
      have f1 := (hB.cell (p := ⟨g, j, none⟩) lg).trans (lvl_cell HI.out hj)
      have f2 := (hB.cell (p := ⟨g, i, none⟩) lg).trans (lvl_cell HI.out hi)
      have lgr := Nat.lt_of_lt_of_le lg hB.size
      obtain ⟨b', off', cap'', q2, c2, hp', e5, e6, _, lbr⟩ := (HV.out.later (B3.out.trans (hB.mono B3.out.size))).at hj
      obtain ⟨rfl, rfl⟩ : b' = b ∧ off' = off := by cases hp'; exact ⟨rfl, rfl⟩
      have HC2 := Lib.hid (fun (d : Nat) (os : Array Obj) => bracket_any l[j].c q2 l[j].a.length c2 («Sort».grow (redrawn wr d) os))
      have G4j := Lib.hid (fun h => G4.out j hj h hij)
      have G5j : Hid (j = k → braB l[j].c = true ∧ lvlA l j = lvlA l i) := Lib.hid (fun e => by subst e; exact G5.out)
      clear hB hp'
      obtain ⟨t, ht⟩ : ∃ t, braB l[j].c = t := ⟨_, rfl⟩
      obtain ⟨x, hx⟩ : ∃ x, lvlA l j = x := ⟨_, rfl⟩
      obtain ⟨y, hy⟩ : ∃ y, lvlA l i = y := ⟨_, rfl⟩
      rw [ht] at HC2 G4j G5j
      rw [hx] at f1 G4j G5j
      rw [hy] at f2 G4j G5j
      clear ht hx hy
      generalize l[j].c.toNat = cn at e5 HC2
      generalize l[j].a.length = an at e6 HC2
      have r1 := fun d os => cell_regrown e5 d os
      have r2 := fun d os => cell_regrown e6 d os
      have r3 := fun d os => cell_regrown f1 d os
      have r4 := fun d os => cell_regrown f2 d os
      by_cases hjk2 : j = k
      · obtain ⟨rfl, rfl⟩ := G5j.out hjk2
        subst hjk2
        go_wp2_with fail
        refine wp_region_quiet_below (by kernel_rfl) (by kernel_rfl) ?_
        (repeat (any_goals (first | go_big_quiet_step ((go_at_call 26; exact Calls.regrown_of (HC2.out _ _))) | quiet_step ((go_at_call 26; exact Calls.regrown_of (HC2.out _ _))))))
        refine wpQuiet_nil ?_
        intro _ hw'
        obtain ⟨⟨dq, osq⟩, hw''⟩ := hw'
        subst hw''
        have HB2 : Hid (Below w.heap.size w («Sort».grow (redrawn wr dq) osq)) := Lib.hid (B3.out.trans ((HB.out.trans ((below_regrown wr dq osq).mono HB.out.size)).mono B3.out.size))
        go_wp2_with fail
        go_ret2
        exact HE.out _ HB2.out
      · have hkj : k < j := by omega
        have hst : ((j - 1 : Nat) : Int) = (j : Int) + -1 := by omega
        have HSt := Lib.hid hst
        clear hst
        cases t with
        | false =>
          go_wp2_with fail
          refine wp_region_quiet_below (by kernel_rfl) (by kernel_rfl) ?_
          (repeat (any_goals (first | go_big_quiet_step ((go_at_call 26; exact Calls.regrown_of (HC2.out _ _))) | quiet_step ((go_at_call 26; exact Calls.regrown_of (HC2.out _ _))))))
          refine wpQuiet_nil ?_
          intro _ hw'
          obtain ⟨⟨dq, osq⟩, hw''⟩ := hw'
          subst hw''
          have HB2 : Hid (Below w3.heap.size w3 («Sort».grow (redrawn wr dq) osq)) := Lib.hid (HB.out.trans ((below_regrown wr dq osq).mono HB.out.size))
          go_wp2_with fail
          go_roundw
          case rel => exact ⟨j - 1, by rw [HSt.out], by omega, by omega, HB2.out⟩
          case measure => simp [intOf]; omega
        | true =>
          have hne : x ≠ y := by
            rcases G4j.out hkj with h | h
            · simp at h
            · exact h
          have t5 : (x != y) = true := by rw [bne_iff_ne]; exact hne
          clear hne
          go_wp2_with fail
          refine wp_region_quiet_below (by kernel_rfl) (by kernel_rfl) ?_
          (repeat (any_goals (first | go_big_quiet_step ((go_at_call 26; exact Calls.regrown_of (HC2.out _ _))) | quiet_step ((go_at_call 26; exact Calls.regrown_of (HC2.out _ _))))))
          refine wpQuiet_nil ?_
          intro _ hw'
          obtain ⟨⟨dq, osq⟩, hw''⟩ := hw'
          subst hw''
          have HB2 : Hid (Below w3.heap.size w3 («Sort».grow (redrawn wr dq) osq)) := Lib.hid (HB.out.trans ((below_regrown wr dq osq).mono HB.out.size))
          go_wp2_with fail
          go_roundw
          case rel => exact ⟨j - 1, by rw [HSt.out], by omega, by omega, HB2.out⟩
          case measure => simp [intOf]; omega
/-- Close, for any word and any index. -/
theorem pclose_any (v : Value) (l : List Md) (hmax : l.length ≤ 9223372036854775807) (hargs : ∀ m ∈ l, m.a.length ≤ 9223372036854775807) (i : Int) (w : World) (hv : Mods w v l) :
    Calls Tryd.prog 10 #[v, .int .i64 i] w (ClEnd l i w) := by
  by_cases h0 : chk l = 0
  · by_cases hi : i < 0 ∨ (0 ≤ i ∧ (l.length : Int) ≤ i)
    · exact pclose_out v l hmax hargs i h0 hi w hv
    · obtain ⟨n, rfl⟩ : ∃ n : Nat, i = n := ⟨i.toNat, by omega⟩
      have hn : n < l.length := by omega
      cases hb : braB l[n].c
      · exact pclose_no v l hargs n h0 hn hb w hv
      · exact pclose_yes v l hargs n h0 hn hb w hv
  · exact pclose_bad v l hmax hargs i h0 w hv
end Go.Proofs.YtjjjopopalcokaaDoor
