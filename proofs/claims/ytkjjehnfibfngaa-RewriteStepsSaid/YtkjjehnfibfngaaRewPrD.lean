/-
  What the package's Value and first hand back.
-/
import Derived.Test.YtkjjehnfibfngaaRewPrA
import Derived.Test.YtkjjehnfibfngaaRewRefE
namespace Go.Proofs.Ytkjjehnfibfngaa
open Go.RowKit
open WM RM
set_option linter.unusedVariables false
set_option linter.unusedSimpArgs false

theorem rng_in (x : Int) : (decide (-1000000000 ≤ x) && decide (x ≤ 1000000000)) = argB x := rfl
theorem fine70_no {x : List Int} {k : Nat} (hk : k < x.length) (h : argB x[k] = false) : fineB ⟨70, x⟩ = false := by
  have : rngB x = false := by
    unfold rngB
    rw [List.all_eq_false]
    exact ⟨_, List.getElem_mem hk, by rw [rng_in, h]; simp⟩
  simp [fineB, this]
theorem fine70_ok {x : List Int} (h4 : ¬ 4 < x.length) (h : ∀ k, (hk : k < x.length) → argB x[k] = true) : fineB ⟨70, x⟩ = true := by
  have : rngB x = true := by
    unfold rngB
    rw [List.all_eq_true]
    intro y hy
    obtain ⟨j, hj, rfl⟩ := List.mem_iff_getElem.1 hy
    exact h j hj
  unfold fineB
  rw [this, decide_eq_true (by show x.length ≤ 4; omega)]
  simp [letB, braB]
theorem within_argB (n : Int) (w : World) : Calls Try.prog 21 #[.int .i64 n, .int .i64 1000000000] w fun e w' => e = .returned (.bool (argB n)) ∧ w = w' := within_arg n w
theorem argB_iff {x : Int} : argB x = true ↔ -1000000000 ≤ x ∧ x ≤ 1000000000 := by simp [argB]
set_option maxRecDepth 100000 in
set_option maxHeartbeats 3200000 in
theorem prvalue_any (f : Fm) (x : List Int) (v u : Value) (hm : f.cs.length ≤ 9223372036854775807) (hx : x.length ≤ 9223372036854775807) (w : World) (h1 : Ints w v f.cs) (h2 : Ints w u x) :
    Calls Try.prog 6 #[.agg #[.int .i64 f.k, v], u] w fun e w' => e = .returned (.tuple #[.int .i64 (vaV f x), .int .i64 (vaC f x)]) ∧ Below w.heap.size w w' := by
  obtain ⟨p, cap, rfl⟩ := h1.slice
  obtain ⟨p2, cap2, rfl⟩ := h2.slice
  obtain ⟨W0, hW0⟩ : ∃ W, W = w.alloc (.cells #[.int .i64 f.k, .slice p f.cs.length cap] 25) := ⟨_, rfl⟩
  have N0 : W0.heap[w.heap.size]? = some (.cells #[.int .i64 f.k, .slice p f.cs.length cap] 25 (0, 0)) := by rw [hW0]; exact heap_alloc_new _ _
  have B0 : Below w.heap.size w W0 := by rw [hW0]; exact (Below.refl _ _).alloc (Nat.le_refl _) _
  have HB := Lib.hid B0
  have H1 := Lib.hid (h1.later B0)
  have H2 := Lib.hid (h2.later B0)
  have q0 := cell_two0 N0
  have q1 := cell_two1 N0
  have l1 := lt_of_block N0
  have KF := Lib.hid (fun w h => formed_any f (.slice p f.cs.length cap) (x.length : Int) hm w h)
  have KI := Lib.hid within_argB
  have HFm := Lib.hid hm
  clear N0 B0 h1 h2
  by_cases c4 : 4 < x.length
  · have HV := Lib.hid (va_bad (f := f) (.inl c4))
    have c4' : (4 : Int) < (x.length : Int) := by omega
    go_enter Try.func6, Try.ntmps6
    go_wp2_with fail
    rw [← hW0]
    clear hW0
    go_wp2_with fail
    go_ret2
    exact ⟨rret_two HV.out.2.symm HV.out.1.symm, HB.out⟩
  have c4' : ¬ (4 : Int) < (x.length : Int) := by omega
  cases hf : formB f (x.length : Int) with
  | false =>
    have HV := Lib.hid (va_bad (f := f) (.inr (.inl hf)))
    rw [hf] at KF
    clear hf
    go_enter Try.func6, Try.ntmps6
    go_wp2_with fail
    rw [← hW0]
    clear hW0
    go_wp2_with fail
    refine (KF.out _ H1.out).mono ?_
    rintro e w1 ⟨rfl, hb⟩
    have B1 := Lib.hid (HB.out.trans (hb.mono HB.out.size))
    clear hb
    go_wp2_with fail
    go_ret2
    exact ⟨rret_two HV.out.2.symm HV.out.1.symm, B1.out⟩
  | true =>
    have HFo := Lib.hid hf
    rw [hf] at KF
    clear hf
    go_enter Try.func6, Try.ntmps6
    go_wp2_with fail
    rw [← hW0]
    clear hW0
    go_wp2_with fail
    refine (KF.out _ H1.out).mono ?_
    rintro e w1 ⟨rfl, hb⟩
    have D1 := Lib.hid hb
    have y0 := (hb.cell (p := ⟨w.heap.size, 0, none⟩) l1).trans q0
    have y1 := (hb.cell (p := ⟨w.heap.size, 1, none⟩) l1).trans q1
    have H1' := Lib.hid (H1.out.later hb)
    have H2' := Lib.hid (H2.out.later hb)
    have B1 := Lib.hid (HB.out.trans (hb.mono HB.out.size))
    clear hb
    go_wp2_with fail
    go_loopw [21] (fun i wr => ∃ k : Nat, k ≤ x.length ∧ i = .int .i64 k ∧ wr = w1 ∧ ∀ j, (h : j < x.length) → j < k → argB x[j] = true) (fun i _ => x.length - (intOf i).toNat)
    case atStart => exact ⟨0, Nat.zero_le _, rfl, rfl, fun j _ h => by omega⟩
    case round =>
      obtain ⟨k, hk, rfl, rfl, hok⟩ := hrel
      have HO := Lib.hid hok
      clear hok
      by_cases hlt : k < x.length
      · obtain ⟨b, off, cap', hp, e1, lb⟩ := H2'.out.at hlt
        obtain rfl : p2 = some ⟨b, off, none⟩ := by cases hp; rfl
        have k1 : (k : Int) < (x.length : Int) := by omega
        have K2 := Lib.hid (KI.out x[k])
        obtain ⟨t, ht⟩ : ∃ t, argB x[k] = t := ⟨_, rfl⟩
        have HT := Lib.hid ht
        rw [ht] at K2
        clear hp ht
        generalize x[k] = y at e1 K2
        cases t with
        | false =>
          have HV := Lib.hid (va_bad (f := f) (.inr (.inr (fine70_no hlt HT.out))))
          go_wp2_with fail
          refine (K2.out _).mono ?_
          rintro e w2 ⟨rfl, rfl⟩
          go_wp2_with fail
          go_ret2
          exact ⟨rret_two HV.out.2.symm HV.out.1.symm, B1.out⟩
        | true =>
          have HG : Hid (∀ j, (h : j < x.length) → j < k + 1 → argB x[j] = true) := Lib.hid (fun j h hj => by
            rcases Nat.lt_or_eq_of_le (Nat.le_of_lt_succ hj) with h6 | h6
            · exact HO.out j h h6
            · subst h6; exact HT.out)
          go_wp2_with fail
          refine (K2.out _).mono ?_
          rintro e w2 ⟨rfl, rfl⟩
          go_wp2_with fail
          go_roundw
          case rel => exact ⟨k + 1, by omega, by go_num, (by first | trivial | rfl), HG.out⟩
          case measure => simp [intOf]; omega
      · obtain rfl : k = x.length := by omega
        have hi := fine70_ok c4 (fun i hi => HO.out i hi hi)
        have HV := Lib.hid (va_good c4 HFo.out hi)
        have KW := Lib.hid (fun w h h' => total_any f x (.slice p f.cs.length cap) (.slice p2 x.length cap2) HFo.out (by omega) (fine_args4 hi).2 w h h')
        obtain ⟨z, hz⟩ : ∃ z, worth f x = z := ⟨_, rfl⟩
        have K3 := Lib.hid (KI.out z)
        rw [hz] at KW HV
        clear hz hi
        have HZ : Hid ((-1000000000 ≤ z ∧ z ≤ 1000000000) ↔ argB z = true) := Lib.hid argB_iff.symm
        cases ht : argB z with
        | false =>
          have HV := Lib.hid (HV.out.1 (by rw [HZ.out, ht]; decide))
          rw [ht] at K3
          clear ht HZ
          go_wp2_with fail
          refine (KW.out _ H1'.out H2'.out).mono ?_
          rintro e w2 ⟨rfl, hb⟩
          have B2 := Lib.hid (B1.out.trans (hb.mono B1.out.size))
          clear hb
          go_wp2_with fail
          refine (K3.out _).mono ?_
          rintro e w3 ⟨rfl, rfl⟩
          go_wp2_with fail
          go_ret2
          exact ⟨rret_two HV.out.2.symm HV.out.1.symm, B2.out⟩
        | true =>
          have HV := Lib.hid (HV.out.2 (by rw [HZ.out, ht]))
          rw [ht] at K3
          clear ht HZ
          go_wp2_with fail
          refine (KW.out _ H1'.out H2'.out).mono ?_
          rintro e w2 ⟨rfl, hb⟩
          have B2 := Lib.hid (B1.out.trans (hb.mono B1.out.size))
          clear hb
          go_wp2_with fail
          refine (K3.out _).mono ?_
          rintro e w3 ⟨rfl, rfl⟩
          go_wp2_with fail
          go_ret2
          exact ⟨rret_two HV.out.2.symm HV.out.1.symm, B2.out⟩
end Go.Proofs.Ytkjjehnfibfngaa
