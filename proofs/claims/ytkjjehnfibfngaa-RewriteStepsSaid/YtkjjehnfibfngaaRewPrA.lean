/-
  What the package's within, total, formed and allFormed hand back.
-/
import Derived.Test.YtkjjehnfibfngaaRewRefD
import Derived.Test.YtkjjehnfibfngaaRewPrM
namespace Go.Proofs.Ytkjjehnfibfngaa
open Go.RowKit
open WM RM
set_option linter.unusedVariables false
set_option linter.unusedSimpArgs false

set_option maxHeartbeats 800000 in
theorem within_any (n m : Int) (hm : 0 ≤ m ∧ m ≤ 1000000000) (w : World) :
    Calls Try.prog 21 #[.int .i64 n, .int .i64 m] w fun e w' => e = .returned (.bool (decide (-m ≤ n) && decide (n ≤ m))) ∧ w = w' := by
  have hw : wrap64 (-m) = -m := by unfold wrap64; omega
  by_cases h1 : -m ≤ n
  · by_cases h2 : n ≤ m
    · go_enter Try.func21, Try.ntmps21
      go_wp2_with fail
      go_ret
      exact ⟨ret_bool (by simp [h1, h2]), rfl⟩
    · go_enter Try.func21, Try.ntmps21
      go_wp2_with fail
      go_ret
      exact ⟨ret_bool (by simp [h1, h2]), rfl⟩
  · go_enter Try.func21, Try.ntmps21
    go_wp2_with fail
    go_ret
    exact ⟨ret_bool (by simp; omega), rfl⟩
theorem within_coef (n : Int) (w : World) : Calls Try.prog 21 #[.int .i64 n, .int .i64 1000000] w fun e w' => e = .returned (.bool (coefB n)) ∧ w = w' := within_any n 1000000 (by decide) w
theorem within_arg (n : Int) (w : World) : Calls Try.prog 21 #[.int .i64 n, .int .i64 1000000000] w fun e w' => e = .returned (.bool (decide (-1000000000 ≤ n) && decide (n ≤ 1000000000))) ∧ w = w' := within_any n 1000000000 (by decide) w
set_option maxRecDepth 100000 in
set_option maxHeartbeats 1600000 in
theorem formed_any (f : Fm) (v : Value) (n : Int) (hm : f.cs.length ≤ 9223372036854775807) (w : World) (hv : Ints w v f.cs) :
    Calls Try.prog 20 #[.agg #[.int .i64 f.k, v], .int .i64 n] w fun e w' => e = .returned (.bool (formB f n)) ∧ Below w.heap.size w w' := by
  obtain ⟨p, cap, rfl⟩ := hv.slice
  obtain ⟨W0, hW0⟩ : ∃ W, W = w.alloc (.cells #[.int .i64 f.k, .slice p f.cs.length cap] 25) := ⟨_, rfl⟩
  have N0 : W0.heap[w.heap.size]? = some (.cells #[.int .i64 f.k, .slice p f.cs.length cap] 25 (0, 0)) := by rw [hW0]; exact heap_alloc_new _ _
  have B0 : Below w.heap.size w W0 := by rw [hW0]; exact (Below.refl _ _).alloc (Nat.le_refl _) _
  have HB := Lib.hid B0
  have HV0 := Lib.hid (hv.later B0)
  have q0 := cell_two0 N0
  have q1 := cell_two1 N0
  have l1 := lt_of_block N0
  have KW := Lib.hid within_coef
  clear N0 B0 hv
  by_cases h3 : (f.cs.length : Int) = n
  · have t3 : ((f.cs.length : Int) != n) = false := by rw [h3]; simp
    have HN := Lib.hid h3
    cases hk : coefB f.k with
    | false =>
      have HF := Lib.hid (form_k (n := n) hk)
      have K1 := Lib.hid (KW.out f.k)
      rw [hk] at K1
      clear h3 hk
      go_enter Try.func20, Try.ntmps20
      go_wp2_with fail
      rw [← hW0]
      clear hW0
      go_wp2_with fail
      refine (K1.out _).mono ?_
      rintro e w1 ⟨rfl, rfl⟩
      go_wp2_with fail
      go_ret
      exact ⟨ret_bool HF.out.symm, HB.out⟩
    | true =>
      have HK := Lib.hid hk
      have K1 := Lib.hid (KW.out f.k)
      rw [hk] at K1
      clear h3 hk
      go_enter Try.func20, Try.ntmps20
      go_wp2_with fail
      rw [← hW0]
      clear hW0
      go_wp2_with fail
      refine (K1.out _).mono ?_
      rintro e w1 ⟨rfl, rfl⟩
      go_wp2_with fail
      go_loopw [21] (fun i wr => ∃ k : Nat, k ≤ f.cs.length ∧ i = .int .i64 k ∧ wr = W0 ∧ ∀ j, (h : j < f.cs.length) → j < k → coefB f.cs[j] = true) (fun i _ => f.cs.length - (intOf i).toNat)
      case atStart => exact ⟨0, Nat.zero_le _, rfl, rfl, fun j _ h => by omega⟩
      case round =>
        obtain ⟨k, hk, rfl, rfl, hok⟩ := hrel
        have HO := Lib.hid hok
        clear hok
        by_cases hlt : k < f.cs.length
        · obtain ⟨b, off, cap', hp, e1, lb⟩ := HV0.out.at hlt
          obtain rfl : p = some ⟨b, off, none⟩ := by cases hp; rfl
          have k1 : (k : Int) < (f.cs.length : Int) := by omega
          have K2 := Lib.hid (KW.out f.cs[k])
          obtain ⟨t, ht⟩ : ∃ t, coefB f.cs[k] = t := ⟨_, rfl⟩
          have HT := Lib.hid ht
          rw [ht] at K2
          clear hp ht
          generalize f.cs[k] = x at e1 K2
          cases t with
          | false =>
            have HF := Lib.hid (form_bad (n := n) hlt HT.out)
            go_wp2_with fail
            refine (K2.out _).mono ?_
            rintro e w1 ⟨rfl, rfl⟩
            go_wp2_with fail
            go_ret
            exact ⟨ret_bool HF.out.symm, HB.out⟩
          | true =>
            have HG : Hid (∀ j, (h : j < f.cs.length) → j < k + 1 → coefB f.cs[j] = true) := Lib.hid (fun j h hj => by
              rcases Nat.lt_or_eq_of_le (Nat.le_of_lt_succ hj) with h6 | h6
              · exact HO.out j h h6
              · subst h6; exact HT.out)
            go_wp2_with fail
            refine (K2.out _).mono ?_
            rintro e w1 ⟨rfl, rfl⟩
            go_wp2_with fail
            go_roundw
            case rel => exact ⟨k + 1, by omega, by go_num, (by first | trivial | rfl), HG.out⟩
            case measure => simp [intOf]; omega
        · obtain rfl : k = f.cs.length := by omega
          have HF := Lib.hid (form_ok HK.out HN.out (fun i hi => HO.out i hi hi))
          go_wp2_with fail
          go_ret
          exact ⟨ret_bool HF.out.symm, HB.out⟩
  · have HF := Lib.hid (form_len h3)
    have t3 : ((f.cs.length : Int) != n) = true := by rw [bne_iff_ne]; exact h3
    go_enter Try.func20, Try.ntmps20
    go_wp2_with fail
    rw [← hW0]
    clear hW0
    go_wp2_with fail
    go_ret
    exact ⟨ret_bool HF.out.symm, HB.out⟩
/-- Of a form that is valid for the args, which are in range. -/
theorem total_any (f : Fm) (x : List Int) (v u : Value) (hf : formB f (x.length : Int) = true) (hl : x.length ≤ 4) (hx : ∀ y ∈ x, -1000000000 ≤ y ∧ y ≤ 1000000000) (w : World) (hv : Ints w v f.cs) (hu : Ints w u x) :
    Calls Try.prog 22 #[.agg #[.int .i64 f.k, v], u] w fun e w' => e = .returned (.int .i64 (worth f x)) ∧ Below w.heap.size w w' := by
  obtain ⟨f1, f2, f3⟩ := form_iff hf
  have hlen : f.cs.length = x.length := by omega
  obtain ⟨p, cap, rfl⟩ := hv.slice
  obtain ⟨p2, cap2, rfl⟩ := hu.slice
  obtain ⟨W0, hW0⟩ : ∃ W, W = w.alloc (.cells #[.int .i64 f.k, .slice p f.cs.length cap] 25) := ⟨_, rfl⟩
  have N0 : W0.heap[w.heap.size]? = some (.cells #[.int .i64 f.k, .slice p f.cs.length cap] 25 (0, 0)) := by rw [hW0]; exact heap_alloc_new _ _
  have B0 : Below w.heap.size w W0 := by rw [hW0]; exact (Below.refl _ _).alloc (Nat.le_refl _) _
  have HB := Lib.hid B0
  have HV0 := Lib.hid (hv.later B0)
  have HU0 := Lib.hid (hu.later B0)
  have q0 := cell_two0 N0
  have q1 := cell_two1 N0
  have l1 := lt_of_block N0
  have HR := Lib.hid (wor_rng hlen f1 f3 hx)
  have HS : Hid (∀ k, (h : k < x.length) → wor f.k (f.cs.take (k + 1)) (x.take (k + 1)) = wor f.k (f.cs.take k) (x.take k) + f.cs[k]'(hlen.symm ▸ h) * x[k]) := Lib.hid (fun k h => wor_take hlen h)
  have HM : Hid (∀ k, (h : k < x.length) → -1000000000000000 ≤ f.cs[k]'(hlen.symm ▸ h) * x[k] ∧ f.cs[k]'(hlen.symm ▸ h) * x[k] ≤ 1000000000000000) := Lib.hid (fun k h => mul_rng (coefB_iff.1 (List.all_eq_true.1 f3 _ (List.getElem_mem (show k < f.cs.length by omega)))) (hx _ (List.getElem_mem h)))
  have HE : Hid (wor f.k (f.cs.take x.length) (x.take x.length) = worth f x) := Lib.hid (by rw [← hlen, List.take_length, hlen, List.take_length]; rfl)
  have H0 : Hid (wor f.k (f.cs.take 0) (x.take 0) = f.k) := Lib.hid (by simp [wor])
  rw [hlen] at q1
  rw [hlen] at hW0
  rw [hlen]
  clear N0 B0 hv hu hf hx f1 f2 f3
  go_enter Try.func22, Try.ntmps22
  go_wp2_with fail
  rw [← hW0]
  clear hW0
  go_wp2_with fail
  go_loopw [5, 13] (fun m i wr => ∃ k : Nat, k ≤ x.length ∧ i = .int .i64 k ∧ m = .int .i64 (wor f.k (f.cs.take k) (x.take k)) ∧ wr = W0) (fun _ i _ => x.length - (intOf i).toNat)
  case atStart => exact ⟨0, Nat.zero_le _, rfl, by rw [H0.out], rfl⟩
  case round =>
    obtain ⟨k, hk, rfl, rfl, rfl⟩ := hrel
    have hr := HR.out k hk
    by_cases hlt : k < x.length
    · obtain ⟨b, off, cap', hp, e1, lb⟩ := HV0.out.at (k := k) (by omega)
      obtain rfl : p = some ⟨b, off, none⟩ := by cases hp; rfl
      obtain ⟨b2, off2, cap3, hp2, e2, lb2⟩ := HU0.out.at hlt
      obtain rfl : p2 = some ⟨b2, off2, none⟩ := by cases hp2; rfl
      have k1 : (k : Int) < (x.length : Int) := by omega
      have HS1 := Lib.hid (HS.out k hlt)
      have hm := HM.out k hlt
      clear hp hp2
      obtain ⟨m, hmm⟩ : ∃ m, wor f.k (f.cs.take k) (x.take k) = m := ⟨_, rfl⟩
      rw [hmm] at HS1 hr ⊢
      obtain ⟨c, hc⟩ : ∃ c, f.cs[k]'(hlen.symm ▸ hlt) = c := ⟨_, rfl⟩
      rw [hc] at HS1 hm e1
      obtain ⟨y, hy⟩ : ∃ y, x[k] = y := ⟨_, rfl⟩
      rw [hy] at HS1 hm e2
      obtain ⟨z, hz⟩ : ∃ z, c * y = z := ⟨_, rfl⟩
      have hz1 : -1000000000000000 ≤ z ∧ z ≤ 1000000000000000 := by rw [← hz]; exact hm
      rw [hz] at HS1
      have hrr : -5000000001000000 ≤ m ∧ m ≤ 5000000001000000 := by
        have : (k : Int) ≤ 4 := by omega
        omega
      clear hmm hc hy hm hr
      go_wp2_with fail
      go_roundw
      case rel => exact ⟨k + 1, by omega, by go_num, by rw [HS1.out], (by first | trivial | rfl)⟩
      case measure => simp [intOf]; omega
    · obtain rfl : k = x.length := by omega
      rw [HE.out]
      go_wp2_with fail
      go_ret
      exact ⟨rfl, HB.out⟩
theorem all_no {fs : List Fm} {n : Int} {k : Nat} (hk : k < fs.length) (h : formB fs[k] n = false) : fs.all (formB · n) = false := by
  rw [List.all_eq_false]; exact ⟨_, List.getElem_mem hk, by rw [h]; simp⟩
theorem all_yes {fs : List Fm} {n : Int} (h : ∀ k, (hk : k < fs.length) → formB fs[k] n = true) : fs.all (formB · n) = true := by
  rw [List.all_eq_true]
  intro x hx
  obtain ⟨j, hj, rfl⟩ := List.mem_iff_getElem.1 hx
  exact h j hj
set_option maxRecDepth 100000 in
set_option maxHeartbeats 1600000 in
theorem allformed_any (fs : List Fm) (v : Value) (n : Int) (hm : fs.length ≤ 9223372036854775807) (hms : ∀ f ∈ fs, f.cs.length ≤ 9223372036854775807) (w : World) (hv : Fms w v fs) :
    Calls Try.prog 42 #[v, .int .i64 n] w fun e w' => e = .returned (.bool (fs.all (formB · n))) ∧ Below w.heap.size w w' := by
  obtain ⟨p, cap, rfl⟩ := hv.slice
  have HV := Lib.hid hv
  have HA := Lib.hid hms
  clear hv hms
  go_enter Try.func42, Try.ntmps42
  go_wp2_with fail
  go_loopw [9] (fun i wr => ∃ k : Nat, k ≤ fs.length ∧ i = .int .i64 k ∧ Below w.heap.size w wr ∧ ∀ j, (h : j < fs.length) → j < k → formB fs[j] n = true) (fun i _ => fs.length - (intOf i).toNat)
  case atStart => exact ⟨0, Nat.zero_le _, rfl, Below.refl _ _, fun j _ h => by omega⟩
  case round =>
    obtain ⟨k, hk, rfl, hb, hok⟩ := hrel
    have HK := Lib.hid hok
    have HB := Lib.hid hb
    clear hok hb
    by_cases hlt : k < fs.length
    · obtain ⟨b, off, cap', q, c, hp, e1, e2, hin, lb⟩ := (HV.out.later (HB.out.mono (Nat.le_refl _))).at hlt
      obtain rfl : p = some ⟨b, off, none⟩ := by cases hp; rfl
      have k1 : (k : Int) < (fs.length : Int) := by omega
      have HI := Lib.hid hin
      have KF := Lib.hid (fun (w : World) (h : Ints w (.slice q fs[k].cs.length c) fs[k].cs) => formed_any fs[k] (.slice q fs[k].cs.length c) n (HA.out _ (List.getElem_mem hlt)) w h)
      obtain ⟨t, ht⟩ : ∃ t, formB fs[k] n = t := ⟨_, rfl⟩
      have HT := Lib.hid ht
      rw [ht] at KF
      generalize fs[k].k = fk at e1 KF
      generalize fs[k].cs.length = fl at e2 KF HI
      obtain ⟨W1, hW1⟩ : ∃ W, W = wr.alloc (.cells #[.int .i64 fk, .slice q fl c] 25) := ⟨_, rfl⟩
      have N1 : W1.heap[wr.heap.size]? = some (.cells #[.int .i64 fk, .slice q fl c] 25 (0, 0)) := by rw [hW1]; exact heap_alloc_new _ _
      have b1 : Below wr.heap.size wr W1 := by rw [hW1]; exact (Below.refl _ _).alloc (Nat.le_refl _) _
      have B1 := Lib.hid b1
      have q0 := cell_two0 N1
      have q1 := cell_two1 N1
      clear hp hin ht N1 b1
      cases t with
      | false =>
        have HF := Lib.hid (all_no hlt HT.out)
        go_wp2_with fail
        rw [← hW1]
        clear hW1
        go_wp2_with fail
        refine (KF.out _ (HI.out.later B1.out)).mono ?_
        rintro e w1 ⟨rfl, hb⟩
        have HB1 := Lib.hid (HB.out.trans ((B1.out.trans (hb.mono B1.out.size)).mono HB.out.size))
        clear hb
        go_wp2_with fail
        go_ret
        exact ⟨ret_bool HF.out.symm, HB1.out⟩
      | true =>
        have HG : Hid (∀ j, (h : j < fs.length) → j < k + 1 → formB fs[j] n = true) := Lib.hid (fun j h hj => by
          rcases Nat.lt_or_eq_of_le (Nat.le_of_lt_succ hj) with h1 | h1
          · exact HK.out j h h1
          · subst h1; exact HT.out)
        go_wp2_with fail
        rw [← hW1]
        clear hW1
        go_wp2_with fail
        refine (KF.out _ (HI.out.later B1.out)).mono ?_
        rintro e w1 ⟨rfl, hb⟩
        have HB1 := Lib.hid (HB.out.trans ((B1.out.trans (hb.mono B1.out.size)).mono HB.out.size))
        clear hb
        go_wp2_with fail
        go_roundw
        case rel => exact ⟨k + 1, by omega, by go_num, HB1.out, HG.out⟩
        case measure => simp [intOf]; omega
    · obtain rfl : k = fs.length := by omega
      have HF := Lib.hid (all_yes (fun i hi => HK.out i hi hi))
      go_wp2_with fail
      go_ret
      exact ⟨ret_bool HF.out.symm, HB.out⟩
end Go.Proofs.Ytkjjehnfibfngaa
