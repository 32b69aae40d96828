/-
  What the reference's Form and Worth hand back.
-/
import Derived.Test.YtkjjehnfibfngaaRewMem
import Derived.Test.YtkjjehnfibfngaaWordRefB
namespace Go.Proofs.Ytkjjehnfibfngaa
open Go.RowKit
open WM RM
set_option linter.unusedVariables false
set_option linter.unusedSimpArgs false

theorem form_k {f : Fm} {n : Int} (h : coefB f.k = false) : formB f n = false := by simp [formB, h]
theorem form_len {f : Fm} {n : Int} (h : (f.cs.length : Int) ≠ n) : formB f n = false := by simp [formB, h]
theorem form_bad {f : Fm} {n : Int} {i : Nat} (hi : i < f.cs.length) (h : coefB f.cs[i] = false) : formB f n = false := by
  have : f.cs.all coefB = false := by
    rw [List.all_eq_false]
    exact ⟨_, List.getElem_mem hi, by rw [h]; simp⟩
  simp [formB, this]
theorem form_ok {f : Fm} {n : Int} (h1 : coefB f.k = true) (h2 : (f.cs.length : Int) = n) (h : ∀ i, (hi : i < f.cs.length) → coefB f.cs[i] = true) : formB f n = true := by
  have : f.cs.all coefB = true := by
    rw [List.all_eq_true]
    intro x hx
    obtain ⟨j, hj, rfl⟩ := List.mem_iff_getElem.1 hx
    exact h j hj
  simp [formB, h1, h2, this]
theorem form_iff {f : Fm} {n : Int} (h : formB f n = true) : coefB f.k = true ∧ (f.cs.length : Int) = n ∧ f.cs.all coefB = true := by
  unfold formB at h
  simp only [Bool.and_eq_true, decide_eq_true_eq] at h
  exact ⟨h.1.1, h.1.2, h.2⟩
theorem coef_lo {x : Int} (h : x < -1000000) : coefB x = false := by simp [coefB]; omega
theorem coef_hi {x : Int} (h : 1000000 < x) : coefB x = false := by simp [coefB]; omega
set_option maxRecDepth 100000 in
set_option maxHeartbeats 1600000 in
theorem refform_any (f : Fm) (v : Value) (n : Int) (hm : f.cs.length ≤ 9223372036854775807) (w : World) (hv : Ints w v f.cs) :
    Calls Try.prog 23 #[.agg #[.int .i64 f.k, v], .int .i64 n] w fun e w' => e = .returned (.bool (formB f n)) ∧ Below w.heap.size w w' := by
  obtain ⟨p, cap, rfl⟩ := hv.slice
  obtain ⟨W0, hW0⟩ : ∃ W, W = w.alloc (.cells #[.int .i64 f.k, .slice p f.cs.length cap] 25) := ⟨_, rfl⟩
  have N0 : W0.heap[w.heap.size]? = some (.cells #[.int .i64 f.k, .slice p f.cs.length cap] 25 (0, 0)) := by rw [hW0]; exact heap_alloc_new _ _
  have B0 : Below w.heap.size w W0 := by rw [hW0]; exact (Below.refl _ _).alloc (Nat.le_refl _) _
  have HB := Lib.hid B0
  have HV0 := Lib.hid (hv.later B0)
  have q0 := cell_two0 N0
  have q1 := cell_two1 N0
  have l1 := lt_of_block N0
  clear N0 B0 hv
  by_cases h1 : f.k < -1000000
  · have HF := Lib.hid (form_k (n := n) (coef_lo h1))
    go_enter Try.func23, Try.ntmps23
    go_wp2_with fail
    rw [← hW0]
    clear hW0
    go_wp2_with fail
    go_ret
    exact ⟨ret_bool HF.out.symm, HB.out⟩
  by_cases h2 : 1000000 < f.k
  · have HF := Lib.hid (form_k (n := n) (coef_hi h2))
    go_enter Try.func23, Try.ntmps23
    go_wp2_with fail
    rw [← hW0]
    clear hW0
    go_wp2_with fail
    go_ret
    exact ⟨ret_bool HF.out.symm, HB.out⟩
  by_cases h3 : (f.cs.length : Int) = n
  · have HK : Hid (coefB f.k = true) := Lib.hid (coefB_iff.2 ⟨by omega, by omega⟩)
    subst h3
    go_enter Try.func23, Try.ntmps23
    go_wp2_with fail
    rw [← hW0]
    clear hW0
    go_wp2_with fail
    go_loop [5] (fun i => ∃ k : Nat, k ≤ f.cs.length ∧ i = .int .i64 k ∧ ∀ j, (h : j < f.cs.length) → j < k → coefB f.cs[j] = true) (fun i => f.cs.length - (intOf i).toNat)
    case atStart => exact ⟨0, Nat.zero_le _, rfl, fun j _ h => by omega⟩
    case round =>
      obtain ⟨k, hk, rfl, hok⟩ := hrel
      have HO := Lib.hid hok
      clear hok
      by_cases hlt : k < f.cs.length
      · obtain ⟨b, off, cap', hp, e1, lb⟩ := HV0.out.at hlt
        obtain rfl : p = some ⟨b, off, none⟩ := by cases hp; rfl
        have k1 : (k : Int) < (f.cs.length : Int) := by omega
        clear hp
        by_cases h4 : f.cs[k] < -1000000
        · have HF := Lib.hid (form_bad (n := (f.cs.length : Int)) hlt (coef_lo h4))
          obtain ⟨x, hx⟩ : ∃ x, f.cs[k] = x := ⟨_, rfl⟩
          rw [hx] at h4 e1
          clear hx
          go_wp2_with fail
          go_ret
          exact ⟨ret_bool HF.out.symm, HB.out⟩
        · by_cases h5 : 1000000 < f.cs[k]
          · have HF := Lib.hid (form_bad (n := (f.cs.length : Int)) hlt (coef_hi h5))
            obtain ⟨x, hx⟩ : ∃ x, f.cs[k] = x := ⟨_, rfl⟩
            rw [hx] at h4 h5 e1
            clear hx
            go_wp2_with fail
            go_ret
            exact ⟨ret_bool HF.out.symm, HB.out⟩
          · have HG : Hid (∀ j, (h : j < f.cs.length) → j < k + 1 → coefB f.cs[j] = true) := Lib.hid (fun j h hj => by
              rcases Nat.lt_or_eq_of_le (Nat.le_of_lt_succ hj) with h6 | h6
              · exact HO.out j h h6
              · subst h6; exact coefB_iff.2 ⟨by omega, by omega⟩)
            obtain ⟨x, hx⟩ : ∃ x, f.cs[k] = x := ⟨_, rfl⟩
            rw [hx] at h4 h5 e1
            clear hx
            go_wp2_with fail
            go_round
            case rel => exact ⟨k + 1, by omega, by go_num, HG.out⟩
            case measure => simp [intOf]; omega
      · obtain rfl : k = f.cs.length := by omega
        have HF := Lib.hid (form_ok HK.out rfl (fun i hi => HO.out i hi hi))
        go_wp2_with fail
        go_ret
        exact ⟨ret_bool HF.out.symm, HB.out⟩
  · have HF := Lib.hid (form_len h3)
    go_enter Try.func23, Try.ntmps23
    go_wp2_with fail
    rw [← hW0]
    clear hW0
    go_wp2_with fail
    go_ret
    exact ⟨ret_bool HF.out.symm, HB.out⟩
/-- Of a form that is valid for the args, which are in range. -/
theorem refworth_any (f : Fm) (x : List Int) (v u : Value) (hf : formB f (x.length : Int) = true) (hl : x.length ≤ 4) (hx : ∀ y ∈ x, -1000000000 ≤ y ∧ y ≤ 1000000000) (w : World) (hv : Ints w v f.cs) (hu : Ints w u x) :
    Calls Try.prog 25 #[.agg #[.int .i64 f.k, v], u] w fun e w' => e = .returned (.int .i64 (worth f x)) ∧ Below w.heap.size w w' := by
  obtain ⟨f1, f2, f3⟩ := form_iff hf
  have hlen : f.cs.length = x.length := by omega
  obtain ⟨p, cap, rfl⟩ := hv.slice
  obtain ⟨p2, cap2, rfl⟩ := hu.slice
  obtain ⟨W0, hW0⟩ : ∃ W, W = w.alloc (.cells #[.int .i64 f.k, .slice p f.cs.length cap] 25) := ⟨_, rfl⟩
  have N0 : W0.heap[w.heap.size]? = some (.cells #[.int .i64 f.k, .slice p f.cs.length cap] 25 (0, 0)) := by rw [hW0]; exact heap_alloc_new _ _
  have B0 : Below w.heap.size w W0 := by rw [hW0]; exact (Below.refl _ _).alloc (Nat.le_refl _) _
  have HB := Lib.hid B0
  have HV0 := Lib.hid (hv.later B0)
  have HU0 := Lib.hid (hu.later B0)
  have q0 := cell_two0 N0
  have q1 := cell_two1 N0
  have l1 := lt_of_block N0
  have HR := Lib.hid (wor_rng hlen f1 f3 hx)
  have HS : Hid (∀ k, (h : k < x.length) → wor f.k (f.cs.take (k + 1)) (x.take (k + 1)) = wor f.k (f.cs.take k) (x.take k) + f.cs[k]'(hlen.symm ▸ h) * x[k]) := Lib.hid (fun k h => wor_take hlen h)
  have HM : Hid (∀ k, (h : k < x.length) → -1000000000000000 ≤ f.cs[k]'(hlen.symm ▸ h) * x[k] ∧ f.cs[k]'(hlen.symm ▸ h) * x[k] ≤ 1000000000000000) := Lib.hid (fun k h => mul_rng (coefB_iff.1 (List.all_eq_true.1 f3 _ (List.getElem_mem (show k < f.cs.length by omega)))) (hx _ (List.getElem_mem h)))
  have HE : Hid (wor f.k (f.cs.take x.length) (x.take x.length) = worth f x) := Lib.hid (by rw [← hlen, List.take_length, hlen, List.take_length]; rfl)
  have H0 : Hid (wor f.k (f.cs.take 0) (x.take 0) = f.k) := Lib.hid (by simp [wor])
  rw [hlen] at q1
  rw [hlen] at hW0
  rw [hlen]
  clear N0 B0 hv hu hf hx f1 f2 f3
  go_enter Try.func25, Try.ntmps25
  go_wp2_with fail
  rw [← hW0]
  clear hW0
  go_wp2_with fail
  go_loopw [5, 6] (fun m i wr => ∃ k q : Nat, k ≤ x.length ∧ i = .int .i64 k ∧ m = .int .i64 (wor f.k (f.cs.take k) (x.take k)) ∧ wr = W0.drewN q) (fun _ i _ => x.length - (intOf i).toNat)
  case atStart => exact ⟨0, 0, Nat.zero_le _, rfl, by rw [H0.out], rfl⟩
  case round =>
    obtain ⟨k, q, hk, rfl, rfl, rfl⟩ := hrel
    have hr := HR.out k hk
    by_cases hlt : k < x.length
    · obtain ⟨b, off, cap', hp, e1, lb⟩ := HV0.out.at (k := k) (by omega)
      obtain rfl : p = some ⟨b, off, none⟩ := by cases hp; rfl
      obtain ⟨b2, off2, cap3, hp2, e2, lb2⟩ := HU0.out.at hlt
      obtain rfl : p2 = some ⟨b2, off2, none⟩ := by cases hp2; rfl
      have k1 : (k : Int) < (x.length : Int) := by omega
      have HS1 := Lib.hid (HS.out k hlt)
      have hm := HM.out k hlt
      clear hp hp2
      obtain ⟨m, hmm⟩ : ∃ m, wor f.k (f.cs.take k) (x.take k) = m := ⟨_, rfl⟩
      rw [hmm] at HS1 hr ⊢
      obtain ⟨c, hc⟩ : ∃ c, f.cs[k]'(hlen.symm ▸ hlt) = c := ⟨_, rfl⟩
      rw [hc] at HS1 hm e1
      obtain ⟨y, hy⟩ : ∃ y, x[k] = y := ⟨_, rfl⟩
      rw [hy] at HS1 hm e2
      obtain ⟨z, hz⟩ : ∃ z, c * y = z := ⟨_, rfl⟩
      have hz1 : -1000000000000000 ≤ z ∧ z ≤ 1000000000000000 := by rw [← hz]; exact hm
      rw [hz] at HS1
      have hrr : -5000000001000000 ≤ m ∧ m ≤ 5000000001000000 := by
        have : (k : Int) ≤ 4 := by omega
        omega
      clear hmm hc hy hm hr
      go_wp2_with fail
      go_quiet (fail)
      go_wp2_with fail
      go_roundw
      case rel => exact ⟨k + 1, _, by omega, by go_num, by rw [HS1.out], rfl⟩
      case measure => simp [intOf]; omega
    · obtain rfl : k = x.length := by omega
      rw [HE.out]
      go_wp2_with fail
      go_ret
      exact ⟨rfl, below_drewN HB.out _⟩
end Go.Proofs.Ytkjjehnfibfngaa
