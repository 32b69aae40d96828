/-
  What the package's valid hands back.
-/
import Derived.Test.YtkjjehnfibfngaaWordPrA
namespace Go.Proofs.Ytkjjehnfibfngaa
open Go.RowKit
open WM
set_option linter.unusedVariables false
set_option linter.unusedSimpArgs false

set_option maxHeartbeats 1600000 in
theorem valid_any (m : Md) (v : Value) (hm : m.a.length ≤ 9223372036854775807) (w : World) (hv : Ints w v m.a) : Calls Try.prog 38 #[.agg #[.int .u8 m.c.toNat, v]] w fun e w' => e = .returned (.bool (fineB m)) ∧ Below w.heap.size w w' := by
  obtain ⟨p, cap, rfl⟩ := hv.slice
  obtain ⟨W0, hW0⟩ : ∃ W, W = w.alloc (.cells #[.int .u8 m.c.toNat, .slice p m.a.length cap] 27) := ⟨_, rfl⟩
  have N0 : W0.heap[w.heap.size]? = some (.cells #[.int .u8 m.c.toNat, .slice p m.a.length cap] 27 (0, 0)) := by rw [hW0]; exact heap_alloc_new _ _
  have B0 : Below w.heap.size w W0 := by rw [hW0]; exact (Below.refl _ _).alloc (Nat.le_refl _) _
  have S0 : W0.heap.size = w.heap.size + 1 := by rw [hW0]; simp
  have HS0 := Lib.hid S0
  have HN := Lib.hid N0
  have HB := Lib.hid B0
  have HV0 := Lib.hid (hv.later B0)
  have q0 := cell_two0 N0
  have q1 := cell_two1 N0
  have l1 := lt_of_block N0
  clear N0 B0 hv S0
  have HBr := Lib.hid (fun w => bracket_any m.c p m.a.length cap w)
  cases hl : letB m.c with
  | false =>
    have HF := Lib.hid (fine_let0 hl)
    have HC : Hid (∀ w, Calls Try.prog 48 #[.int .u8 m.c.toNat] w fun e w' => e = .returned (.bool false) ∧ w = w') := Lib.hid (fun w => by have := proper_any m.c w; rwa [hl] at this)
    clear hl
    go_enter Try.func38, Try.ntmps38
    go_wp2_with fail
    rw [← hW0]
    clear hW0
    go_wp2_with (go_at_call 48; refine (HC.out _).mono ?_; rintro e w2 ⟨rfl, rfl⟩)
    go_ret
    exact ⟨ret_bool HF.out.symm, HB.out⟩
  | true =>
    have HC : Hid (∀ w, Calls Try.prog 48 #[.int .u8 m.c.toNat] w fun e w' => e = .returned (.bool true) ∧ w = w') := Lib.hid (fun w => by have := proper_any m.c w; rwa [hl] at this)
    by_cases h4 : 4 < m.a.length
    · have HF := Lib.hid (fine_len h4)
      have h4' : (4 : Int) < (m.a.length : Int) := by omega
      clear hl
      go_enter Try.func38, Try.ntmps38
      go_wp2_with fail
      rw [← hW0]
      clear hW0
      go_wp2_with (go_at_call 48; refine (HC.out _).mono ?_; rintro e w2 ⟨rfl, rfl⟩)
      go_ret
      exact ⟨ret_bool HF.out.symm, HB.out⟩
    · have h4' : ¬ (4 : Int) < (m.a.length : Int) := by omega
      have HL := Lib.hid hl
      obtain ⟨t, ht⟩ : ∃ t, braB m.c = t := ⟨_, rfl⟩
      rw [ht] at HBr
      have HT := Lib.hid ht
      clear hl ht
      cases t with
      | true =>
        by_cases hz : 0 < m.a.length
        · have HF := Lib.hid (fine_bra HT.out hz)
          have hz2 : (0 : Int) < (m.a.length : Int) := by omega
          go_enter Try.func38, Try.ntmps38
          go_wp2_with fail
          rw [← hW0]
          clear hW0
          go_wp2_with (go_at_call 48; refine (HC.out _).mono ?_; rintro e w2 ⟨rfl, rfl⟩)
          refine (HBr.out _).mono ?_
          rintro e w2 ⟨rfl, hb⟩
          have HB2 := Lib.hid (HB.out.trans (hb.mono HB.out.size))
          have q1 := (hb.cell (p := ⟨w.heap.size, 1, none⟩) l1).trans q1
          clear hb
          go_wp2_with fail
          go_ret
          exact ⟨ret_bool HF.out.symm, HB2.out⟩
        · have HF := Lib.hid (fine_all HL.out (by omega) (.inr (by omega)) fun j h => by omega)
          have hl0 : m.a.length = 0 := by omega
          have hz2 : ¬ (0 : Int) < (m.a.length : Int) := by omega
          clear hl0
          go_enter Try.func38, Try.ntmps38
          go_wp2_with fail
          rw [← hW0]
          clear hW0
          go_wp2_with (go_at_call 48; refine (HC.out _).mono ?_; rintro e w2 ⟨rfl, rfl⟩)
          refine (HBr.out _).mono ?_
          rintro e w2 ⟨rfl, hb⟩
          have HB2 := Lib.hid (HB.out.trans (hb.mono HB.out.size))
          have q1 := (hb.cell (p := ⟨w.heap.size, 1, none⟩) l1).trans q1
          have l1 := Nat.lt_of_lt_of_le l1 hb.size
          clear hb
          go_wp2_with fail
          go_loop [28] (fun i => i = .int .i64 0) (fun _ => 0)
          case atStart => rfl
          case round =>
            subst hrel
            go_wp2_with fail
            go_ret
            exact ⟨ret_bool HF.out.symm, HB2.out⟩
      | false =>
        go_enter Try.func38, Try.ntmps38
        go_wp2_with fail
        rw [← hW0]
        clear hW0
        go_wp2_with (go_at_call 48; refine (HC.out _).mono ?_; rintro e w2 ⟨rfl, rfl⟩)
        refine (HBr.out _).mono ?_
        rintro e w2 ⟨rfl, hb⟩
        have HB2 := Lib.hid (HB.out.trans (hb.mono HB.out.size))
        have HV2 := Lib.hid (HV0.out.later (hb.mono (Nat.le_refl _)))
        have q1 := (hb.cell (p := ⟨w.heap.size, 1, none⟩) l1).trans q1
        have l1 := Nat.lt_of_lt_of_le l1 hb.size
        clear hb
        go_wp2_with fail
        go_loop [28] (fun i => ∃ k : Nat, k ≤ m.a.length ∧ i = .int .i64 k ∧ ∀ j, (h : j < m.a.length) → j < k → -1000000000 ≤ m.a[j] ∧ m.a[j] ≤ 1000000000) (fun i => m.a.length - (intOf i).toNat)
        case atStart => exact ⟨0, Nat.zero_le _, rfl, fun j _ h => by omega⟩
        case round =>
          obtain ⟨k, hk, rfl, hok⟩ := hrel
          have HK := Lib.hid hok
          clear hok
          by_cases hlt : k < m.a.length
          · obtain ⟨b, off, cap', hp, e1', lb⟩ := HV2.out.at hlt
            obtain rfl : p = some ⟨b, off, none⟩ := by cases hp; rfl
            obtain ⟨y, hy⟩ : ∃ y, m.a[k] = y := ⟨_, rfl⟩
            have HY : Hid (m.a[k] = y) := Lib.hid hy
            rw [hy] at e1'
            clear hp hy
            have k1 : (k : Int) < (m.a.length : Int) := by omega
            by_cases y1 : y < -1000000000
            · have HF := Lib.hid (fine_rng hlt (.inl (by rw [HY.out]; exact y1)))
              go_wp2_with fail
              go_ret
              exact ⟨ret_bool HF.out.symm, HB2.out⟩
            · by_cases y2 : 1000000000 < y
              · have HF := Lib.hid (fine_rng hlt (.inr (by rw [HY.out]; exact y2)))
                go_wp2_with fail
                go_ret
                exact ⟨ret_bool HF.out.symm, HB2.out⟩
              · have HG : Hid (∀ j, (h : j < m.a.length) → j < k + 1 → -1000000000 ≤ m.a[j] ∧ m.a[j] ≤ 1000000000) := Lib.hid (fun j h hj => by
                  rcases Nat.lt_or_eq_of_le (Nat.le_of_lt_succ hj) with h1 | h1
                  · exact HK.out j h h1
                  · subst h1; rw [HY.out]; omega)
                go_wp2_with fail
                go_round
                case rel => exact ⟨k + 1, by omega, by go_num, HG.out⟩
                case measure => simp [intOf]; omega
          · obtain rfl : k = m.a.length := by omega
            have HF := Lib.hid (fine_all HL.out (by omega) (.inl HT.out) fun j h => HK.out j h h)
            go_wp2_with fail
            go_ret
            exact ⟨ret_bool HF.out.symm, HB2.out⟩
end Go.Proofs.Ytkjjehnfibfngaa
