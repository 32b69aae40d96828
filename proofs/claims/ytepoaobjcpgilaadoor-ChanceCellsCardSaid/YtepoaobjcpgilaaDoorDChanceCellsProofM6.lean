/-
  Texts of the proof, merged: DRewRefA, DRewRefB, DRewRefC, DRewRefD, DRewPrM, DRewPrA, DRewPrB.
-/
import Derived.Test.YtepoaobjcpgilaaDoorDChanceCellsProofM5
import Derived.Test.YtepoaobjcpgilaaDoorDChanceCellsProofM2
import Derived.Test.YtepoaobjcpgilaaDoorDChanceCellsProofM3
import Derived.Test.YtepoaobjcpgilaaDoorDChanceCellsProofM1
import Derived.Test.YtepoaobjcpgilaaDoorDChanceCellsProofM4
namespace Go.Proofs.YtepoaobjcpgilaaDoor
open Go.RowKit
open WM RM
set_option linter.unusedVariables false
set_option linter.unusedSimpArgs false

theorem form_k {f : Fm} {n : Int} (h : coefB f.k = false) : formB f n = false := by simp [formB, h]
theorem form_len {f : Fm} {n : Int} (h : (f.cs.length : Int) ≠ n) : formB f n = false := by simp [formB, h]
theorem form_bad {f : Fm} {n : Int} {i : Nat} (hi : i < f.cs.length) (h : coefB f.cs[i] = false) : formB f n = false := by
  have : f.cs.all coefB = false := by
    rw [List.all_eq_false]
    exact ⟨_, List.getElem_mem hi, by rw [h]; simp⟩
  simp [formB, this]
theorem form_ok {f : Fm} {n : Int} (h1 : coefB f.k = true) (h2 : (f.cs.length : Int) = n) (h : ∀ i, (hi : i < f.cs.length) → coefB f.cs[i] = true) : formB f n = true := by
  have : f.cs.all coefB = true := by
    rw [List.all_eq_true]
    intro x hx
    obtain ⟨j, hj, rfl⟩ := List.mem_iff_getElem.1 hx
    exact h j hj
  simp [formB, h1, h2, this]
theorem form_iff {f : Fm} {n : Int} (h : formB f n = true) : coefB f.k = true ∧ (f.cs.length : Int) = n ∧ f.cs.all coefB = true := by
  unfold formB at h
  simp only [Bool.and_eq_true, decide_eq_true_eq] at h
  exact ⟨h.1.1, h.1.2, h.2⟩
theorem coef_lo {x : Int} (h : x < -1000000) : coefB x = false := by simp [coefB]; omega
theorem coef_hi {x : Int} (h : 1000000 < x) : coefB x = false := by simp [coefB]; omega
set_option maxRecDepth 100000 in
set_option maxHeartbeats 1600000 in
theorem refform_any (f : Fm) (v : Value) (n : Int) (hm : f.cs.length ≤ 9223372036854775807) (w : World) (hv : Ints w v f.cs) :
    Calls Tryd.prog 88 #[.agg #[.int .i64 f.k, v], .int .i64 n] w fun e w' => e = .returned (.bool (formB f n)) ∧ Below w.heap.size w w' := by
  obtain ⟨p, cap, rfl⟩ := hv.slice
  obtain ⟨W0, hW0⟩ : ∃ W, W = w.alloc (.cells #[.int .i64 f.k, .slice p f.cs.length cap] 35) := ⟨_, rfl⟩
  have N0 : W0.heap[w.heap.size]? = some (.cells #[.int .i64 f.k, .slice p f.cs.length cap] 35 (0, 0)) := by rw [hW0]; exact heap_alloc_new _ _
  have B0 : Below w.heap.size w W0 := by rw [hW0]; exact (Below.refl _ _).alloc (Nat.le_refl _) _
  have HB := Lib.hid B0
  have HV0 := Lib.hid (hv.later B0)
  have q0 := cell_two0 N0
  have q1 := cell_two1 N0
  have l1 := lt_of_block N0
  clear N0 B0 hv
  by_cases h1 : f.k < -1000000
  · have HF := Lib.hid (form_k (n := n) (coef_lo h1))
    go_enter Tryd.func88, Tryd.ntmps88
    go_wp2_with fail
    rw [← hW0]
    clear hW0
    go_wp2_with fail
    go_ret
    exact ⟨ret_bool HF.out.symm, HB.out⟩
  by_cases h2 : 1000000 < f.k
  · have HF := Lib.hid (form_k (n := n) (coef_hi h2))
    go_enter Tryd.func88, Tryd.ntmps88
    go_wp2_with fail
    rw [← hW0]
    clear hW0
    go_wp2_with fail
    go_ret
    exact ⟨ret_bool HF.out.symm, HB.out⟩
  by_cases h3 : (f.cs.length : Int) = n
  · have HK : Hid (coefB f.k = true) := Lib.hid (coefB_iff.2 ⟨by omega, by omega⟩)
    subst h3
    go_enter Tryd.func88, Tryd.ntmps88
    go_wp2_with fail
    rw [← hW0]
    clear hW0
    go_wp2_with fail
    go_loop [5] (fun i => ∃ k : Nat, k ≤ f.cs.length ∧ i = .int .i64 k ∧ ∀ j, (h : j < f.cs.length) → j < k → coefB f.cs[j] = true) (fun i => f.cs.length - (intOf i).toNat)
    case atStart => exact ⟨0, Nat.zero_le _, rfl, fun j _ h => by omega⟩
    case round =>
      obtain ⟨k, hk, rfl, hok⟩ := hrel
      have HO := Lib.hid hok
      clear hok
      by_cases hlt : k < f.cs.length
      · obtain ⟨b, off, cap', hp, e1, lb⟩ := HV0.out.at hlt
        obtain rfl : p = some ⟨b, off, none⟩ := by cases hp; rfl
        have k1 : (k : Int) < (f.cs.length : Int) := by omega
        clear hp
        by_cases h4 : f.cs[k] < -1000000
        · have HF := Lib.hid (form_bad (n := (f.cs.length : Int)) hlt (coef_lo h4))
          obtain ⟨x, hx⟩ : ∃ x, f.cs[k] = x := ⟨_, rfl⟩
          rw [hx] at h4 e1
          clear hx
          go_wp2_with fail
          go_ret
          exact ⟨ret_bool HF.out.symm, HB.out⟩
        · by_cases h5 : 1000000 < f.cs[k]
          · have HF := Lib.hid (form_bad (n := (f.cs.length : Int)) hlt (coef_hi h5))
            obtain ⟨x, hx⟩ : ∃ x, f.cs[k] = x := ⟨_, rfl⟩
            rw [hx] at h4 h5 e1
            clear hx
            go_wp2_with fail
            go_ret
            exact ⟨ret_bool HF.out.symm, HB.out⟩
          · have HG : Hid (∀ j, (h : j < f.cs.length) → j < k + 1 → coefB f.cs[j] = true) := Lib.hid (fun j h hj => by
              rcases Nat.lt_or_eq_of_le (Nat.le_of_lt_succ hj) with h6 | h6
              · exact HO.out j h h6
              · subst h6; exact coefB_iff.2 ⟨by omega, by omega⟩)
            obtain ⟨x, hx⟩ : ∃ x, f.cs[k] = x := ⟨_, rfl⟩
            rw [hx] at h4 h5 e1
            clear hx
            go_wp2_with fail
            go_round
            case rel => exact ⟨k + 1, by omega, by go_num, HG.out⟩
            case measure => simp [intOf]; omega
      · obtain rfl : k = f.cs.length := by omega
        have HF := Lib.hid (form_ok HK.out rfl (fun i hi => HO.out i hi hi))
        go_wp2_with fail
        go_ret
        exact ⟨ret_bool HF.out.symm, HB.out⟩
  · have HF := Lib.hid (form_len h3)
    go_enter Tryd.func88, Tryd.ntmps88
    go_wp2_with fail
    rw [← hW0]
    clear hW0
    go_wp2_with fail
    go_ret
    exact ⟨ret_bool HF.out.symm, HB.out⟩
/-- Of a form that is valid for the args, which are in range. -/
theorem refworth_any (f : Fm) (x : List Int) (v u : Value) (hf : formB f (x.length : Int) = true) (hl : x.length ≤ 4) (hx : ∀ y ∈ x, -1000000000 ≤ y ∧ y ≤ 1000000000) (w : World) (hv : Ints w v f.cs) (hu : Ints w u x) :
    Calls Tryd.prog 70 #[.agg #[.int .i64 f.k, v], u] w fun e w' => e = .returned (.int .i64 (worth f x)) ∧ Below w.heap.size w w' := by
  obtain ⟨f1, f2, f3⟩ := form_iff hf
  have hlen : f.cs.length = x.length := by omega
  obtain ⟨p, cap, rfl⟩ := hv.slice
  obtain ⟨p2, cap2, rfl⟩ := hu.slice
  obtain ⟨W0, hW0⟩ : ∃ W, W = w.alloc (.cells #[.int .i64 f.k, .slice p f.cs.length cap] 35) := ⟨_, rfl⟩
  have N0 : W0.heap[w.heap.size]? = some (.cells #[.int .i64 f.k, .slice p f.cs.length cap] 35 (0, 0)) := by rw [hW0]; exact heap_alloc_new _ _
  have B0 : Below w.heap.size w W0 := by rw [hW0]; exact (Below.refl _ _).alloc (Nat.le_refl _) _
  have HB := Lib.hid B0
  have HV0 := Lib.hid (hv.later B0)
  have HU0 := Lib.hid (hu.later B0)
  have q0 := cell_two0 N0
  have q1 := cell_two1 N0
  have l1 := lt_of_block N0
  have HR := Lib.hid (wor_rng hlen f1 f3 hx)
  have HS : Hid (∀ k, (h : k < x.length) → wor f.k (f.cs.take (k + 1)) (x.take (k + 1)) = wor f.k (f.cs.take k) (x.take k) + f.cs[k]'(hlen.symm ▸ h) * x[k]) := Lib.hid (fun k h => wor_take hlen h)
  have HM : Hid (∀ k, (h : k < x.length) → -1000000000000000 ≤ f.cs[k]'(hlen.symm ▸ h) * x[k] ∧ f.cs[k]'(hlen.symm ▸ h) * x[k] ≤ 1000000000000000) := Lib.hid (fun k h => mul_rng (coefB_iff.1 (List.all_eq_true.1 f3 _ (List.getElem_mem (show k < f.cs.length by omega)))) (hx _ (List.getElem_mem h)))
  have HE : Hid (wor f.k (f.cs.take x.length) (x.take x.length) = worth f x) := Lib.hid (by rw [← hlen, List.take_length, hlen, List.take_length]; rfl)
  have H0 : Hid (wor f.k (f.cs.take 0) (x.take 0) = f.k) := Lib.hid (by simp [wor])
  rw [hlen] at q1
  rw [hlen] at hW0
  rw [hlen]
  clear N0 B0 hv hu hf hx f1 f2 f3
  go_enter Tryd.func70, Tryd.ntmps70
  go_wp2_with fail
  rw [← hW0]
  clear hW0
  go_wp2_with fail
  go_loopw [5, 6] (fun m i wr => ∃ k q : Nat, k ≤ x.length ∧ i = .int .i64 k ∧ m = .int .i64 (wor f.k (f.cs.take k) (x.take k)) ∧ wr = W0.drewN q) (fun _ i _ => x.length - (intOf i).toNat)
  case atStart => exact ⟨0, 0, Nat.zero_le _, rfl, by rw [H0.out], rfl⟩
  case round =>
    obtain ⟨k, q, hk, rfl, rfl, rfl⟩ := hrel
    have hr := HR.out k hk
    by_cases hlt : k < x.length
    · obtain ⟨b, off, cap', hp, e1, lb⟩ := HV0.out.at (k := k) (by omega)
      obtain rfl : p = some ⟨b, off, none⟩ := by cases hp; rfl
      obtain ⟨b2, off2, cap3, hp2, e2, lb2⟩ := HU0.out.at hlt
      obtain rfl : p2 = some ⟨b2, off2, none⟩ := by cases hp2; rfl
      have k1 : (k : Int) < (x.length : Int) := by omega
      have HS1 := Lib.hid (HS.out k hlt)
      have hm := HM.out k hlt
      clear hp hp2
      obtain ⟨m, hmm⟩ : ∃ m, wor f.k (f.cs.take k) (x.take k) = m := ⟨_, rfl⟩
      rw [hmm] at HS1 hr ⊢
      obtain ⟨c, hc⟩ : ∃ c, f.cs[k]'(hlen.symm ▸ hlt) = c := ⟨_, rfl⟩
      rw [hc] at HS1 hm e1
      obtain ⟨y, hy⟩ : ∃ y, x[k] = y := ⟨_, rfl⟩
      rw [hy] at HS1 hm e2
      obtain ⟨z, hz⟩ : ∃ z, c * y = z := ⟨_, rfl⟩
      have hz1 : -1000000000000000 ≤ z ∧ z ≤ 1000000000000000 := by rw [← hz]; exact hm
      rw [hz] at HS1
      have hrr : -5000000001000000 ≤ m ∧ m ≤ 5000000001000000 := by
        have : (k : Int) ≤ 4 := by omega
        omega
      clear hmm hc hy hm hr
      go_wp2_with fail
      go_quiet (fail)
      go_wp2_with fail
      go_roundw
      case rel => exact ⟨k + 1, _, by omega, by go_num, by rw [HS1.out], rfl⟩
      case measure => simp [intOf]; omega
    · obtain rfl : k = x.length := by omega
      rw [HE.out]
      go_wp2_with fail
      go_ret
      exact ⟨rfl, below_drewN HB.out _⟩
end Go.Proofs.YtepoaobjcpgilaaDoor
namespace Go.Proofs.YtepoaobjcpgilaaDoor
open Go.RowKit
open WM RM
set_option linter.unusedVariables false
set_option linter.unusedSimpArgs false

theorem fit_name {r : Rw} {m : Md} (h : r.c ≠ m.c) : fitB r m = false := by simp [fitB, h]
theorem fit_len {r : Rw} {m : Md} (h : r.ar ≠ (m.a.length : Int)) : fitB r m = false := by simp [fitB, h]
theorem fit_neg {r : Rw} {m : Md} {i : Nat} (hi : i < r.gs.length) (h : worth r.gs[i] m.a < 0) : fitB r m = false := by
  have : (r.gs.all fun g => decide (0 ≤ worth g m.a)) = false := by
    rw [List.all_eq_false]
    exact ⟨_, List.getElem_mem hi, by simp; omega⟩
  simp [fitB, this]
theorem fit_ok {r : Rw} {m : Md} (h1 : r.c = m.c) (h2 : r.ar = (m.a.length : Int)) (h : ∀ i, (hi : i < r.gs.length) → 0 ≤ worth r.gs[i] m.a) : fitB r m = true := by
  have : (r.gs.all fun g => decide (0 ≤ worth g m.a)) = true := by
    rw [List.all_eq_true]
    intro x hx
    obtain ⟨j, hj, rfl⟩ := List.mem_iff_getElem.1 hx
    simpa using h j hj
  simp [fitB, h1, h2, this]
theorem fine_args4 {m : Md} (h : fineB m = true) : m.a.length ≤ 4 ∧ ∀ x ∈ m.a, -1000000000 ≤ x ∧ x ≤ 1000000000 := by
  unfold fineB at h
  simp only [Bool.and_eq_true, decide_eq_true_eq] at h
  exact ⟨h.1.1.2, rngB_iff.1 h.2⟩
/-- A rule as a value. -/
def rwV (r : Rw) (gv ov : Value) : Value := .agg #[.int .u8 r.c.toNat, .int .i64 r.ar, .int .u8 r.l.toNat, .int .u8 r.r.toNat, gv, .int .i64 r.wt, ov]
set_option maxRecDepth 100000 in
set_option maxHeartbeats 3200000 in
theorem reffits_any (r : Rw) (m : Md) (gv ov mv : Value) (hg : r.gs.all (formB · r.ar) = true) (hm : fineB m = true) (hlen : r.gs.length ≤ 9223372036854775807) (w : World) (h1 : Fms w gv r.gs) (h2 : Ints w mv m.a) :
    Calls Tryd.prog 42 #[rwV r gv ov, .agg #[.int .u8 m.c.toNat, mv]] w fun e w' => e = .returned (.bool (fitB r m)) ∧ Below w.heap.size w w' := by
  obtain ⟨p, cap, rfl⟩ := h1.slice
  obtain ⟨p2, cap2, rfl⟩ := h2.slice
  obtain ⟨m4, mr⟩ := fine_args4 hm
  unfold rwV
  obtain ⟨W0, hW0⟩ : ∃ W, W = (w.alloc (.cells #[.int .u8 r.c.toNat, .int .i64 r.ar, .int .u8 r.l.toNat, .int .u8 r.r.toNat, .slice p r.gs.length cap, .int .i64 r.wt, ov] 31)).alloc (.cells #[.int .u8 m.c.toNat, .slice p2 m.a.length cap2] 25) := ⟨_, rfl⟩
  have N1 : W0.heap[w.heap.size]? = some (.cells #[.int .u8 r.c.toNat, .int .i64 r.ar, .int .u8 r.l.toNat, .int .u8 r.r.toNat, .slice p r.gs.length cap, .int .i64 r.wt, ov] 31 (0, 0)) := by rw [hW0]; exact heap_alloc_old (heap_alloc_new _ _) _
  have N2 : W0.heap[w.heap.size + 1]? = some (.cells #[.int .u8 m.c.toNat, .slice p2 m.a.length cap2] 25 (0, 0)) := by
    have := heap_alloc_new (w.alloc (.cells #[.int .u8 r.c.toNat, .int .i64 r.ar, .int .u8 r.l.toNat, .int .u8 r.r.toNat, .slice p r.gs.length cap, .int .i64 r.wt, ov] 31)) (.cells #[.int .u8 m.c.toNat, .slice p2 m.a.length cap2] 25)
    rw [hW0]; simpa using this
  have B0 : Below w.heap.size w W0 := by rw [hW0]; exact ((Below.refl _ _).alloc (Nat.le_refl _) _).alloc (by simp) _
  have HB := Lib.hid B0
  have H1 := Lib.hid (h1.later B0)
  have H2 := Lib.hid (h2.later B0)
  have q0 : W0.cell? ⟨w.heap.size, 0, none⟩ = some (.int .u8 r.c.toNat) := by simp [World.cell?, N1]
  have q1 : W0.cell? ⟨w.heap.size, 1, none⟩ = some (.int .i64 r.ar) := by simp [World.cell?, N1]
  have q4 : W0.cell? ⟨w.heap.size, 4, none⟩ = some (.slice p r.gs.length cap) := by simp [World.cell?, N1]
  have s0 := cell_two0 N2
  have s1 := cell_two1 N2
  have l1 := lt_of_block N1
  have l2 := lt_of_block N2
  have HG := Lib.hid hg
  have HMR := Lib.hid mr
  clear N1 N2 B0 h1 h2 hg hm mr
  by_cases hc : r.c = m.c
  · have HC := Lib.hid hc
    have t1 : ((r.c.toNat : Int) != (m.c.toNat : Int)) = false := by rw [hc]; simp
    by_cases ha : r.ar = (m.a.length : Int)
    · have HA := Lib.hid ha
      have t2 : (r.ar != (m.a.length : Int)) = false := by rw [ha]; simp
      rw [ha] at q1
      rw [ha] at hW0
      rw [ha]
      clear hc ha t2
      generalize r.c.toNat = ca at q0 t1 hW0 ⊢
      generalize m.c.toNat = cb at s0 t1 hW0 ⊢
      go_enter Tryd.func42, Tryd.ntmps42
      go_wp2_with fail
      rw [← hW0]
      clear hW0
      go_wp2_with fail
      go_loopw [5] (fun i wr => ∃ k : Nat, k ≤ r.gs.length ∧ i = .int .i64 k ∧ Below W0.heap.size W0 wr ∧ ∀ j, (hj : j < r.gs.length) → j < k → 0 ≤ worth r.gs[j] m.a) (fun i _ => r.gs.length - (intOf i).toNat)
      case atStart => exact ⟨0, Nat.zero_le _, rfl, Below.refl _ _, fun j _ h => by omega⟩
      case round =>
        obtain ⟨k, hk, rfl, hb, hok⟩ := hrel
        have HK := Lib.hid hok
        have HBr := Lib.hid hb
        have y1 := (hb.cell (p := ⟨w.heap.size, 4, none⟩) l1).trans q4
        have y2 := (hb.cell (p := ⟨w.heap.size + 1, 1, none⟩) l2).trans s1
        clear hok hb
        by_cases hlt : k < r.gs.length
        · obtain ⟨b, off, cap', q, d, hp, e1, e2, hin, lb⟩ := (H1.out.later HBr.out).at hlt
          obtain rfl : p = some ⟨b, off, none⟩ := by cases hp; rfl
          have k1 : (k : Int) < (r.gs.length : Int) := by omega
          have hf := List.all_eq_true.1 HG.out _ (List.getElem_mem hlt)
          rw [HA.out] at hf
          have HX := Lib.hid (H2.out.later HBr.out)
          have HCw : Hid (∀ (d' : Nat) (os : Array Obj), Calls Tryd.prog 70 #[.agg #[.int .i64 r.gs[k].k, .slice q r.gs[k].cs.length d], .slice p2 m.a.length cap2] («Sort».grow (redrawn wr d') os) fun e w' =>
              e = .returned (.int .i64 (worth r.gs[k] m.a)) ∧ Below («Sort».grow (redrawn wr d') os).heap.size («Sort».grow (redrawn wr d') os) w') :=
            Lib.hid (fun d' os => refworth_any r.gs[k] m.a _ _ hf m4 HMR.out _ (hin.later (below_regrown wr d' os)) (HX.out.later (below_regrown wr d' os)))
          obtain ⟨z, hz⟩ : ∃ z, worth r.gs[k] m.a = z := ⟨_, rfl⟩
          have HZ := Lib.hid hz
          rw [hz] at HCw
          obtain ⟨fk, hfk⟩ : ∃ fk, r.gs[k].k = fk := ⟨_, rfl⟩
          obtain ⟨fl, hfl⟩ : ∃ fl, r.gs[k].cs.length = fl := ⟨_, rfl⟩
          rw [hfk] at e1 HCw
          rw [hfl] at e2 HCw
          clear hp hin hf hz hfk hfl
          have r1 := fun d os => cell_regrown e1 d os
          have r2 := fun d os => cell_regrown e2 d os
          have r3 := fun d os => cell_regrown y1 d os
          have r4 := fun d os => cell_regrown y2 d os
          go_wp2_with fail
          refine wp_region_quiet_below (by kernel_rfl) (by kernel_rfl) ?_
          repeat (any_goals (first | go_big_quiet_step ((go_at_call 70; exact Calls.regrown_of (HCw.out _ _))) | quiet_step ((go_at_call 70; exact Calls.regrown_of (HCw.out _ _)))))
          refine wpQuiet_nil ?_
          intro _ hw'
          obtain ⟨⟨dq, osq⟩, hw''⟩ := hw'
          subst hw''
          have HB2 : Hid (Below W0.heap.size W0 («Sort».grow (redrawn wr dq) osq)) := Lib.hid (HBr.out.trans ((below_regrown wr dq osq).mono HBr.out.size))
          by_cases h0 : z < 0
          · have HF := Lib.hid (fit_neg hlt (by rw [HZ.out]; exact h0))
            go_wp2_with fail
            go_ret
            exact ⟨ret_bool HF.out.symm, HB.out.trans (HB2.out.mono HB.out.size)⟩
          · have HG2 : Hid (∀ j, (hj : j < r.gs.length) → j < k + 1 → 0 ≤ worth r.gs[j] m.a) := Lib.hid (fun j hj h => by
              rcases Nat.lt_or_eq_of_le (Nat.le_of_lt_succ h) with h1 | h1
              · exact HK.out j hj h1
              · subst h1; rw [HZ.out]; omega)
            go_wp2_with fail
            go_roundw
            case rel => exact ⟨k + 1, by omega, by go_num, HB2.out, HG2.out⟩
            case measure => simp [intOf]; omega
        · obtain rfl : k = r.gs.length := by omega
          have HF := Lib.hid (fit_ok HC.out HA.out (fun i hi => HK.out i hi hi))
          go_wp2_with fail
          go_ret
          exact ⟨ret_bool HF.out.symm, HB.out.trans (HBr.out.mono HB.out.size)⟩
    · have HF := Lib.hid (fit_len (m := m) ha)
      have t2 : (r.ar != (m.a.length : Int)) = true := by rw [bne_iff_ne]; exact ha
      clear hc
      generalize r.c.toNat = ca at q0 t1 hW0 ⊢
      generalize m.c.toNat = cb at s0 t1 hW0 ⊢
      go_enter Tryd.func42, Tryd.ntmps42
      go_wp2_with fail
      rw [← hW0]
      clear hW0
      go_wp2_with fail
      go_ret
      exact ⟨ret_bool HF.out.symm, HB.out⟩
  · have HF := Lib.hid (fit_name hc)
    have t1 : ((r.c.toNat : Int) != (m.c.toNat : Int)) = true := by
      rw [bne_iff_ne]; intro e; exact hc (UInt8.toNat_inj.1 (by omega))
    generalize r.c.toNat = ca at q0 t1 hW0 ⊢
    generalize m.c.toNat = cb at s0 t1 hW0 ⊢
    go_enter Tryd.func42, Tryd.ntmps42
    go_wp2_with fail
    rw [← hW0]
    clear hW0
    go_wp2_with fail
    go_ret
    exact ⟨ret_bool HF.out.symm, HB.out⟩
end Go.Proofs.YtepoaobjcpgilaaDoor
namespace Go.Proofs.YtepoaobjcpgilaaDoor
open Go.RowKit
open WM RM
set_option linter.unusedVariables false
set_option linter.unusedSimpArgs false

theorem va_bad {f : Fm} {x : List Int} (h : 4 < x.length ∨ formB f (x.length : Int) = false ∨ fineB ⟨70, x⟩ = false) : vaC f x = 8 ∧ vaV f x = 0 := by
  have e : vaC f x = 8 := by unfold vaC; rw [if_pos h]
  exact ⟨e, by unfold vaV; rw [e]; rfl⟩
theorem va_good {f : Fm} {x : List Int} (h1 : ¬ 4 < x.length) (h2 : formB f (x.length : Int) = true) (h3 : fineB ⟨70, x⟩ = true) :
    (¬ (-1000000000 ≤ worth f x ∧ worth f x ≤ 1000000000) → vaC f x = 16 ∧ vaV f x = 0) ∧ ((-1000000000 ≤ worth f x ∧ worth f x ≤ 1000000000) → vaC f x = 0 ∧ vaV f x = worth f x) := by
  have e : vaC f x = if -1000000000 ≤ worth f x ∧ worth f x ≤ 1000000000 then 0 else 16 := by
    unfold vaC; rw [if_neg (by rw [h2, h3]; simp [h1])]
  constructor
  · intro h
    rw [if_neg h] at e
    exact ⟨e, by unfold vaV; rw [e]; rfl⟩
  · intro h
    rw [if_pos h] at e
    exact ⟨e, by unfold vaV; rw [e]; rfl⟩
theorem rret_two {a b c d : Int} (h1 : a = c) (h2 : b = d) : Ending.returned (.tuple #[.int .i64 a, .int .i64 b]) = .returned (.tuple #[.int .i64 c, .int .i64 d]) := by rw [h1, h2]
/-! ### Many -/
theorem many_len {l : List Rw} (h : 40 < l.length) : manyB l = true := by simp [manyB, h]
theorem many_at {l : List Rw} {k : Nat} (hk : k < l.length) (h : 4 < l[k].gs.length ∨ 20 < l[k].out.length) : manyB l = true := by
  have : (l.any fun r => decide (4 < r.gs.length) || decide (20 < r.out.length)) = true := by
    rw [List.any_eq_true]
    exact ⟨_, List.getElem_mem hk, by simpa using h⟩
  unfold manyB
  rw [this]; simp
theorem many_not {l : List Rw} (h1 : ¬ 40 < l.length) (h : ∀ k, (hk : k < l.length) → ¬ 4 < l[k].gs.length ∧ ¬ 20 < l[k].out.length) : manyB l = false := by
  have : (l.any fun r => decide (4 < r.gs.length) || decide (20 < r.out.length)) = false := by
    rw [List.any_eq_false]
    intro x hx
    obtain ⟨j, hj, rfl⟩ := List.mem_iff_getElem.1 hx
    have := h j hj
    simp; omega
  unfold manyB
  rw [this]; simpa using h1
theorem many_no {l : List Rw} (h : manyB l = false) : l.length ≤ 40 ∧ ∀ r ∈ l, r.gs.length ≤ 4 ∧ r.out.length ≤ 20 := by
  unfold manyB at h
  rw [Bool.or_eq_false_iff] at h
  refine ⟨by simpa using h.1, fun r hr => ?_⟩
  have := List.any_eq_false.1 h.2 r hr
  simpa using this
set_option maxRecDepth 100000 in
set_option maxHeartbeats 1600000 in
theorem refmany_any (v : Value) (l : List Rw) (hmax : l.length ≤ 9223372036854775807) (w : World) (hv : Rws w v l) :
    Calls Tryd.prog 63 #[v] w fun e w' => e = .returned (.bool (manyB l)) ∧ w = w' := by
  obtain ⟨p, cap, rfl⟩ := hv.slice
  have HV := Lib.hid hv
  clear hv
  by_cases h40 : 40 < l.length
  · have HF := Lib.hid (many_len h40)
    have c1 : (40 : Int) < (l.length : Int) := by omega
    go_enter Tryd.func63, Tryd.ntmps63
    go_wp2_with fail
    go_ret
    exact ⟨ret_bool HF.out.symm, rfl⟩
  · have c1 : ¬ (40 : Int) < (l.length : Int) := by omega
    go_enter Tryd.func63, Tryd.ntmps63
    go_wp2_with fail
    go_loop [3] (fun i => ∃ k : Nat, k ≤ l.length ∧ i = .int .i64 k ∧ ∀ j, (hj : j < l.length) → j < k → ¬ 4 < l[j].gs.length ∧ ¬ 20 < l[j].out.length) (fun i => l.length - (intOf i).toNat)
    case atStart => exact ⟨0, Nat.zero_le _, rfl, fun j _ h => by omega⟩
    case round =>
      obtain ⟨k, hk, rfl, hok⟩ := hrel
      have HK := Lib.hid hok
      clear hok
      by_cases hlt : k < l.length
      · obtain ⟨b, off, cap', g, gc, o, oc, hp, lb, hat⟩ := HV.out.at hlt
        obtain rfl : p = some ⟨b, off, none⟩ := by cases hp; rfl
        have e4 := hat.c4
        have e6 := hat.c6
        have k1 : (k : Int) < (l.length : Int) := by omega
        clear hp hat
        by_cases h4 : 4 < l[k].gs.length
        · have HF := Lib.hid (many_at hlt (.inl h4))
          have c4 : (4 : Int) < (l[k].gs.length : Int) := by omega
          obtain ⟨n, hn⟩ : ∃ n, l[k].gs.length = n := ⟨_, rfl⟩
          rw [hn] at e4 c4
          clear hn h4
          go_wp2_with fail
          go_ret
          exact ⟨ret_bool HF.out.symm, rfl⟩
        · have c4 : ¬ (4 : Int) < (l[k].gs.length : Int) := by omega
          by_cases h20 : 20 < l[k].out.length
          · have HF := Lib.hid (many_at hlt (.inr h20))
            have c5 : (20 : Int) < (l[k].out.length : Int) := by omega
            obtain ⟨n, hn⟩ : ∃ n, l[k].gs.length = n := ⟨_, rfl⟩
            rw [hn] at e4 c4
            obtain ⟨m, hm⟩ : ∃ m, l[k].out.length = m := ⟨_, rfl⟩
            rw [hm] at e6 c5
            clear hn hm h4 h20
            go_wp2_with fail
            go_ret
            exact ⟨ret_bool HF.out.symm, rfl⟩
          · have c5 : ¬ (20 : Int) < (l[k].out.length : Int) := by omega
            have HG : Hid (∀ j, (hj : j < l.length) → j < k + 1 → ¬ 4 < l[j].gs.length ∧ ¬ 20 < l[j].out.length) := Lib.hid (fun j hj h => by
              rcases Nat.lt_or_eq_of_le (Nat.le_of_lt_succ h) with h1 | h1
              · exact HK.out j hj h1
              · subst h1; exact ⟨h4, h20⟩)
            obtain ⟨n, hn⟩ : ∃ n, l[k].gs.length = n := ⟨_, rfl⟩
            rw [hn] at e4 c4
            obtain ⟨m, hm⟩ : ∃ m, l[k].out.length = m := ⟨_, rfl⟩
            rw [hm] at e6 c5
            clear hn hm h4 h20
            go_wp2_with fail
            go_round
            case rel => exact ⟨k + 1, by omega, by go_num, HG.out⟩
            case measure => simp [intOf]; omega
      · obtain rfl : k = l.length := by omega
        have HF := Lib.hid (many_not h40 (fun i hi => HK.out i hi hi))
        go_wp2_with fail
        go_ret
        exact ⟨ret_bool HF.out.symm, rfl⟩
end Go.Proofs.YtepoaobjcpgilaaDoor
namespace Go.Proofs.YtepoaobjcpgilaaDoor
open Go.RowKit
open WM RM
set_option linter.unusedVariables false
set_option linter.unusedSimpArgs false

/-- How the search stands. -/
def FAt (l : List Rw) (m : Md) (k : Nat) : Prop := first l m = firstF (l.drop k) m (k : Int)
theorem fAt_start (l : List Rw) (m : Md) : FAt l m 0 := rfl
theorem fAt_yes {l : List Rw} {m : Md} {k : Nat} (hk : k < l.length) (h : FAt l m k) (hf : fitB l[k] m = true) : first l m = (k : Int) := by
  unfold FAt at h; rw [h, firstF_drop hk, if_pos hf]
theorem fAt_no {l : List Rw} {m : Md} {k : Nat} (hk : k < l.length) (h : FAt l m k) (hf : fitB l[k] m = false) : FAt l m (k + 1) := by
  unfold FAt at h ⊢; rw [h, firstF_drop hk, if_neg (by rw [hf]; decide)]
theorem fAt_end {l : List Rw} {m : Md} (h : FAt l m l.length) : first l m = -1 := by
  unfold FAt at h; rw [h, firstF_end (Nat.le_refl _)]
end Go.Proofs.YtepoaobjcpgilaaDoor
namespace Go.Proofs.YtepoaobjcpgilaaDoor
open WM
set_option linter.unusedVariables false
set_option linter.unusedSimpArgs false
namespace RM

def zerM (c : UInt8) (n : Nat) : Md := ⟨c, List.replicate n 0⟩
/-- The module that the package lays for a shape. -/
def blM (s : Sh) : Md := zerM s.c (min s.a.length 5)
theorem rng_zer (n : Nat) : rngB (List.replicate n 0) = true := by
  rw [rngB_iff]; intro x hx
  have := List.eq_of_mem_replicate hx
  omega
theorem fine_zer (c : UInt8) (n : Nat) : fineB (zerM c n) = (letB c && decide (n ≤ 4) && !(braB c && decide (0 < n))) := by
  simp [fineB, zerM, rng_zer]
theorem fine_bl (s : Sh) : fineB (blM s) = fineB (shM s) := by
  have e : shM s = zerM s.c s.a.length := rfl
  rw [e, blM, fine_zer, fine_zer]
  have h1 : decide (min s.a.length 5 ≤ 4) = decide (s.a.length ≤ 4) := by rw [decide_eq_decide]; omega
  have h2 : decide (0 < min s.a.length 5) = decide (0 < s.a.length) := by rw [decide_eq_decide]; omega
  rw [h1, h2]
theorem dlt_c {a b : Md} (h : a.c = b.c) : dlt a = dlt b := by unfold dlt; rw [h]
theorem dep_map {α : Type} (f g : α → Md) (h : ∀ x, (f x).c = (g x).c) : ∀ l : List α, dep (l.map f) = dep (l.map g)
  | [] => rfl
  | x :: l => by rw [List.map_cons, List.map_cons, dep_cons, dep_cons, dep_map f g h l, dlt_c (h x)]
theorem ok_map {α : Type} (f g : α → Md) (h : ∀ x, (f x).c = (g x).c) (l : List α) (k : Nat) : okB (l.map f) k = okB (l.map g) k := by
  rw [Bool.eq_iff_iff, okB_iff, okB_iff]
  have e : ∀ i, dep ((l.map f).take (i + 1)) = dep ((l.map g).take (i + 1)) := fun i => by rw [← List.map_take, ← List.map_take, dep_map f g h]
  constructor
  · intro h1 i hi; rw [← e i]; exact h1 i hi
  · intro h1 i hi; rw [e i]; exact h1 i hi
theorem chk_bl {out : List Sh} (hl : out.length ≤ 2000) : decide (chk (out.map blM) = 0) = (out.all (fun s => fineB (shM s)) && decide (chk (out.map shM) = 0)) := by
  have hc : ∀ s : Sh, (blM s).c = (shM s).c := fun _ => rfl
  rw [Bool.eq_iff_iff, decide_eq_true_iff, Bool.and_eq_true, decide_eq_true_iff, chk_zero, chk_zero]
  rw [List.length_map, List.length_map, ok_map blM shM hc, dep_map blM shM hc, List.all_map, List.all_map]
  have e : (fineB ∘ blM) = fun s => fineB (shM s) := by funext s; exact fine_bl s
  have e2 : (fineB ∘ shM) = fun s => fineB (shM s) := rfl
  rw [e, e2]
  constructor
  · rintro ⟨h1, h2, h3, h4⟩; exact ⟨h2, h1, h2, h3, h4⟩
  · rintro ⟨_, h1, h2, h3, h4⟩; exact ⟨h1, h2, h3, h4⟩
/-- valid's answer. -/
def validB (r : Rw) : Bool := letB r.c && !(braB r.c) && decide (0 ≤ r.ar) && decide (r.ar ≤ 4) && plainB r && r.gs.all (formB · r.ar) && decide (chk (r.out.map blM) = 0) && r.out.all (fun s => s.a.all (formB · r.ar))
theorem sh_all (out : List Sh) (n : Int) : out.all (shB · n) = (out.all (fun s => fineB (shM s)) && out.all (fun s => s.a.all (formB · n))) := by
  induction out with
  | nil => rfl
  | cons s l ih =>
    rw [List.all_cons, List.all_cons, List.all_cons, ih]
    unfold shB
    cases fineB (shM s) <;> cases s.a.all (formB · n) <;> simp
theorem validB_eq {r : Rw} (hl : r.out.length ≤ 2000) : validB r = (ruleB r && plainB r) := by
  unfold validB ruleB
  rw [chk_bl hl, sh_all]
  cases letB r.c <;> cases braB r.c <;> cases decide (0 ≤ r.ar) <;> cases decide (r.ar ≤ 4) <;> cases plainB r <;> cases r.gs.all (formB · r.ar) <;> cases r.out.all (fun s => fineB (shM s)) <;> cases r.out.all (fun s => s.a.all (formB · r.ar)) <;> cases decide (chk (r.out.map shM) = 0) <;> rfl
theorem dep_one (m : Md) : dep [m] = dlt m := by rw [dep_cons, dep_nil]; omega
theorem ok_one (m : Md) : okB [m] 1 = decide (0 ≤ dlt m) := by rw [okB_succ, okB_zero, Bool.true_and]; rw [show ([m] : List Md).take (0 + 1) = [m] from rfl, dep_one]
/-- A module alone is a word where it is no bracket. -/
theorem chk_let (c : UInt8) : decide (chk [⟨c, []⟩] = 0) = (letB c && !(braB c)) := by
  rw [Bool.eq_iff_iff, decide_eq_true_iff, chk_zero]
  have hf : ([⟨c, []⟩] : List Md).all fineB = letB c := by simp [fineB, rngB]
  rw [hf, dep_one, show ([⟨c, []⟩] : List Md).length = 1 from rfl, ok_one]
  have hd : (0 ≤ dlt ⟨c, []⟩ ∧ dlt ⟨c, []⟩ = 0) ↔ braB c = false := by
    unfold dlt braB
    by_cases h1 : c = 91
    · subst h1; decide
    · by_cases h2 : c = 93
      · subst h2; decide
      · simp [h1, h2]
  rw [Bool.and_eq_true, Bool.not_eq_true', decide_eq_true_iff]
  constructor
  · rintro ⟨_, h2, h3, h4⟩; exact ⟨h2, hd.1 ⟨h3, h4⟩⟩
  · rintro ⟨h1, h2⟩
    obtain ⟨h3, h4⟩ := hd.2 h2
    exact ⟨by omega, h1, h3, h4⟩
/-- A module alone is told bad exactly if it is no valid module. -/
theorem chk_one (m : Md) : (chk [m] == 8) = !(fineB m) := by
  cases h : fineB m with
  | false =>
    rw [chk_bad (by simp) (by simp [h])]; rfl
  | true =>
    have h1 : ([m] : List Md).all fineB = true := by simp [h]
    cases h2 : (okB [m] ([m] : List Md).length && decide (dep [m] = 0)) with
    | false => rw [chk_open (by simp) h1 h2]; rfl
    | true =>
      have : chk [m] = 0 := by unfold chk; rw [if_neg (by simp), if_neg (by simp [h]), if_pos h2]
      rw [this]; rfl
/-- Check's answer, as the package finds it. -/
theorem rchk_valid {l : List Rw} (h : manyB l = false) : rchk l = if l.all validB = true then 0 else 8 := by
  have e : l.all validB = l.all (fun r => ruleB r && plainB r) := by
    unfold manyB at h
    simp only [Bool.or_eq_false_iff] at h
    have h2 := List.any_eq_false.1 h.2
    apply Bool.eq_iff_iff.2
    rw [List.all_eq_true, List.all_eq_true]
    have key : ∀ r ∈ l, validB r = (ruleB r && plainB r) := fun r hr => validB_eq (by
      have := h2 r hr
      simp only [Bool.or_eq_true, decide_eq_true_eq, not_or, Nat.not_lt] at this
      omega)
    constructor
    · intro h3 r hr; rw [← key r hr]; exact h3 r hr
    · intro h3 r hr; rw [key r hr]; exact h3 r hr
  unfold rchk
  rw [if_neg (by rw [h]; decide), e]
/-- What the modules become, one by one: none where an arg is out of range. -/
def shO (s : Sh) (x : List Int) : Option Md := if mkB s x = true then some (mkM s x) else none
def sucO (l : List Rw) (m : Md) : List (Option Md) := if h : 0 ≤ first l m then (match l[(first l m).toNat]? with | some r => r.out.map (shO · m.a) | none => []) else [some m]
def seqO (l : List Rw) (w : List Md) : List (Option Md) := w.flatMap (sucO l)
def allO : List (Option Md) → Option (List Md)
  | [] => some []
  | none :: _ => none
  | some m :: l => (allO l).map (m :: ·)
theorem allO_app : ∀ a b : List (Option Md), allO (a ++ b) = (match allO a, allO b with | some x, some y => some (x ++ y) | _, _ => none)
  | [], b => by cases h : allO b <;> simp [allO, h]
  | none :: a, b => by simp [allO]
  | some m :: a, b => by
    simp only [List.cons_append, allO]
    rw [allO_app a b]
    cases allO a <;> cases allO b <;> simp
theorem allO_some (d : List Md) : allO (d.map some) = some d := by
  induction d with
  | nil => rfl
  | cons m d ih => simp [allO, ih]
theorem allO_none {a : List (Option Md)} (h : none ∈ a) : allO a = none := by
  induction a with
  | nil => simp at h
  | cons o a ih =>
    cases o with
    | none => rfl
    | some m =>
      simp only [List.mem_cons, reduceCtorEq, false_or] at h
      simp [allO, ih h]
theorem allO_map (out : List Sh) (x : List Int) : allO (out.map (shO · x)) = if out.all (mkB · x) = true then some (out.map (mkM · x)) else none := by
  induction out with
  | nil => rfl
  | cons s out ih =>
    rw [List.map_cons, List.all_cons, List.map_cons]
    cases h : mkB s x with
    | false =>
      rw [show shO s x = none by unfold shO; rw [if_neg (by rw [h]; decide)]]
      simp [allO]
    | true =>
      rw [show shO s x = some (mkM s x) by unfold shO; rw [if_pos h]]
      rw [allO, ih, Bool.true_and]
      split <;> rfl
theorem allO_suc (l : List Rw) (m : Md) (hb : first l m < l.length) : allO (sucO l m) = succM l m := by
  unfold sucO succM
  by_cases h : 0 ≤ first l m
  · rw [dif_pos h, dif_pos h]
    have hk : (first l m).toNat < l.length := by omega
    rw [List.getElem?_eq_getElem hk]
    exact allO_map _ _
  · rw [dif_neg h, dif_neg h]; rfl
theorem first_lt (l : List Rw) (m : Md) : first l m < l.length := by
  rcases firstF_rng l m 0 with h | h <;> unfold first <;> omega
/-- A word's successor, by its sequence. -/
theorem allO_seq (l : List Rw) : ∀ w : List Md, allO (seqO l w) = stepL l w
  | [] => rfl
  | m :: w => by
    have e : seqO l (m :: w) = sucO l m ++ seqO l w := rfl
    rw [e, allO_app, allO_suc l m (first_lt l m), allO_seq l w]
    rfl
theorem seqO_snoc {l : List Rw} {w : List Md} {k : Nat} (hk : k < w.length) : seqO l (w.take (k + 1)) = seqO l (w.take k) ++ sucO l w[k] := by
  unfold seqO
  rw [List.take_succ_eq_append_getElem hk, List.flatMap_append, List.flatMap_cons, List.flatMap_nil, List.append_nil]
theorem seqO_pre (l : List Rw) (w : List Md) (k : Nat) : seqO l (w.take k) <+: seqO l w := by
  refine ⟨seqO l (w.drop k), ?_⟩
  unfold seqO
  rw [← List.flatMap_append, List.take_append_drop]
theorem sucO_self {l : List Rw} {m : Md} (h : first l m < 0) : sucO l m = [some m] := by unfold sucO; rw [dif_neg (by omega)]
theorem sucO_made {l : List Rw} {m : Md} {k : Nat} (h : first l m = (k : Int)) (hk : k < l.length) : sucO l m = l[k].out.map (shO · m.a) := by
  unfold sucO
  rw [dif_pos (by omega)]
  have : (first l m).toNat = k := by omega
  rw [this, List.getElem?_eq_getElem hk]
theorem sucO_len {l : List Rw} (h : ∀ r ∈ l, r.out.length ≤ 20) (m : Md) : (sucO l m).length ≤ 20 := by
  unfold sucO
  split
  · split
    · rename_i r hr
      rw [List.length_map]; exact h r (List.mem_of_getElem? hr)
    · simp
  · simp
theorem seqO_len {l : List Rw} (h : ∀ r ∈ l, r.out.length ≤ 20) (w : List Md) : (seqO l w).length ≤ 20 * w.length := by
  induction w with
  | nil => simp [seqO]
  | cons m w ih =>
    have e : seqO l (m :: w) = sucO l m ++ seqO l w := rfl
    have := sucO_len h m
    rw [e, List.length_append, List.length_cons]; omega
end RM
end Go.Proofs.YtepoaobjcpgilaaDoor
namespace Go.Proofs.YtepoaobjcpgilaaDoor
open Go.RowKit
open WM RM
set_option linter.unusedVariables false
set_option linter.unusedSimpArgs false

set_option maxHeartbeats 800000 in
theorem within_any (n m : Int) (hm : 0 ≤ m ∧ m ≤ 1000000000) (w : World) :
    Calls Tryd.prog 46 #[.int .i64 n, .int .i64 m] w fun e w' => e = .returned (.bool (decide (-m ≤ n) && decide (n ≤ m))) ∧ w = w' := by
  have hw : wrap64 (-m) = -m := by unfold wrap64; omega
  by_cases h1 : -m ≤ n
  · by_cases h2 : n ≤ m
    · go_enter Tryd.func46, Tryd.ntmps46
      go_wp2_with fail
      go_ret
      exact ⟨ret_bool (by simp [h1, h2]), rfl⟩
    · go_enter Tryd.func46, Tryd.ntmps46
      go_wp2_with fail
      go_ret
      exact ⟨ret_bool (by simp [h1, h2]), rfl⟩
  · go_enter Tryd.func46, Tryd.ntmps46
    go_wp2_with fail
    go_ret
    exact ⟨ret_bool (by simp; omega), rfl⟩
theorem within_coef (n : Int) (w : World) : Calls Tryd.prog 46 #[.int .i64 n, .int .i64 1000000] w fun e w' => e = .returned (.bool (coefB n)) ∧ w = w' := within_any n 1000000 (by decide) w
theorem within_arg (n : Int) (w : World) : Calls Tryd.prog 46 #[.int .i64 n, .int .i64 1000000000] w fun e w' => e = .returned (.bool (decide (-1000000000 ≤ n) && decide (n ≤ 1000000000))) ∧ w = w' := within_any n 1000000000 (by decide) w
set_option maxRecDepth 100000 in
set_option maxHeartbeats 1600000 in
theorem formed_any (f : Fm) (v : Value) (n : Int) (hm : f.cs.length ≤ 9223372036854775807) (w : World) (hv : Ints w v f.cs) :
    Calls Tryd.prog 45 #[.agg #[.int .i64 f.k, v], .int .i64 n] w fun e w' => e = .returned (.bool (formB f n)) ∧ Below w.heap.size w w' := by
  obtain ⟨p, cap, rfl⟩ := hv.slice
  obtain ⟨W0, hW0⟩ : ∃ W, W = w.alloc (.cells #[.int .i64 f.k, .slice p f.cs.length cap] 35) := ⟨_, rfl⟩
  have N0 : W0.heap[w.heap.size]? = some (.cells #[.int .i64 f.k, .slice p f.cs.length cap] 35 (0, 0)) := by rw [hW0]; exact heap_alloc_new _ _
  have B0 : Below w.heap.size w W0 := by rw [hW0]; exact (Below.refl _ _).alloc (Nat.le_refl _) _
  have HB := Lib.hid B0
  have HV0 := Lib.hid (hv.later B0)
  have q0 := cell_two0 N0
  have q1 := cell_two1 N0
  have l1 := lt_of_block N0
  have KW := Lib.hid within_coef
  clear N0 B0 hv
  by_cases h3 : (f.cs.length : Int) = n
  · have t3 : ((f.cs.length : Int) != n) = false := by rw [h3]; simp
    have HN := Lib.hid h3
    cases hk : coefB f.k with
    | false =>
      have HF := Lib.hid (form_k (n := n) hk)
      have K1 := Lib.hid (KW.out f.k)
      rw [hk] at K1
      clear h3 hk
      go_enter Tryd.func45, Tryd.ntmps45
      go_wp2_with fail
      rw [← hW0]
      clear hW0
      go_wp2_with fail
      refine (K1.out _).mono ?_
      rintro e w1 ⟨rfl, rfl⟩
      go_wp2_with fail
      go_ret
      exact ⟨ret_bool HF.out.symm, HB.out⟩
    | true =>
      have HK := Lib.hid hk
      have K1 := Lib.hid (KW.out f.k)
      rw [hk] at K1
      clear h3 hk
      go_enter Tryd.func45, Tryd.ntmps45
      go_wp2_with fail
      rw [← hW0]
      clear hW0
      go_wp2_with fail
      refine (K1.out _).mono ?_
      rintro e w1 ⟨rfl, rfl⟩
      go_wp2_with fail
      go_loopw [21] (fun i wr => ∃ k : Nat, k ≤ f.cs.length ∧ i = .int .i64 k ∧ wr = W0 ∧ ∀ j, (h : j < f.cs.length) → j < k → coefB f.cs[j] = true) (fun i _ => f.cs.length - (intOf i).toNat)
      case atStart => exact ⟨0, Nat.zero_le _, rfl, rfl, fun j _ h => by omega⟩
      case round =>
        obtain ⟨k, hk, rfl, rfl, hok⟩ := hrel
        have HO := Lib.hid hok
        clear hok
        by_cases hlt : k < f.cs.length
        · obtain ⟨b, off, cap', hp, e1, lb⟩ := HV0.out.at hlt
          obtain rfl : p = some ⟨b, off, none⟩ := by cases hp; rfl
          have k1 : (k : Int) < (f.cs.length : Int) := by omega
          have K2 := Lib.hid (KW.out f.cs[k])
          obtain ⟨t, ht⟩ : ∃ t, coefB f.cs[k] = t := ⟨_, rfl⟩
          have HT := Lib.hid ht
          rw [ht] at K2
          clear hp ht
          generalize f.cs[k] = x at e1 K2
          cases t with
          | false =>
            have HF := Lib.hid (form_bad (n := n) hlt HT.out)
            go_wp2_with fail
            refine (K2.out _).mono ?_
            rintro e w1 ⟨rfl, rfl⟩
            go_wp2_with fail
            go_ret
            exact ⟨ret_bool HF.out.symm, HB.out⟩
          | true =>
            have HG : Hid (∀ j, (h : j < f.cs.length) → j < k + 1 → coefB f.cs[j] = true) := Lib.hid (fun j h hj => by
              rcases Nat.lt_or_eq_of_le (Nat.le_of_lt_succ hj) with h6 | h6
              · exact HO.out j h h6
              · subst h6; exact HT.out)
            go_wp2_with fail
            refine (K2.out _).mono ?_
            rintro e w1 ⟨rfl, rfl⟩
            go_wp2_with fail
            go_roundw
            case rel => exact ⟨k + 1, by omega, by go_num, (by first | trivial | rfl), HG.out⟩
            case measure => simp [intOf]; omega
        · obtain rfl : k = f.cs.length := by omega
          have HF := Lib.hid (form_ok HK.out HN.out (fun i hi => HO.out i hi hi))
          go_wp2_with fail
          go_ret
          exact ⟨ret_bool HF.out.symm, HB.out⟩
  · have HF := Lib.hid (form_len h3)
    have t3 : ((f.cs.length : Int) != n) = true := by rw [bne_iff_ne]; exact h3
    go_enter Tryd.func45, Tryd.ntmps45
    go_wp2_with fail
    rw [← hW0]
    clear hW0
    go_wp2_with fail
    go_ret
    exact ⟨ret_bool HF.out.symm, HB.out⟩
/-- Of a form that is valid for the args, which are in range. -/
theorem total_any (f : Fm) (x : List Int) (v u : Value) (hf : formB f (x.length : Int) = true) (hl : x.length ≤ 4) (hx : ∀ y ∈ x, -1000000000 ≤ y ∧ y ≤ 1000000000) (w : World) (hv : Ints w v f.cs) (hu : Ints w u x) :
    Calls Tryd.prog 47 #[.agg #[.int .i64 f.k, v], u] w fun e w' => e = .returned (.int .i64 (worth f x)) ∧ Below w.heap.size w w' := by
  obtain ⟨f1, f2, f3⟩ := form_iff hf
  have hlen : f.cs.length = x.length := by omega
  obtain ⟨p, cap, rfl⟩ := hv.slice
  obtain ⟨p2, cap2, rfl⟩ := hu.slice
  obtain ⟨W0, hW0⟩ : ∃ W, W = w.alloc (.cells #[.int .i64 f.k, .slice p f.cs.length cap] 35) := ⟨_, rfl⟩
  have N0 : W0.heap[w.heap.size]? = some (.cells #[.int .i64 f.k, .slice p f.cs.length cap] 35 (0, 0)) := by rw [hW0]; exact heap_alloc_new _ _
  have B0 : Below w.heap.size w W0 := by rw [hW0]; exact (Below.refl _ _).alloc (Nat.le_refl _) _
  have HB := Lib.hid B0
  have HV0 := Lib.hid (hv.later B0)
  have HU0 := Lib.hid (hu.later B0)
  have q0 := cell_two0 N0
  have q1 := cell_two1 N0
  have l1 := lt_of_block N0
  have HR := Lib.hid (wor_rng hlen f1 f3 hx)
  have HS : Hid (∀ k, (h : k < x.length) → wor f.k (f.cs.take (k + 1)) (x.take (k + 1)) = wor f.k (f.cs.take k) (x.take k) + f.cs[k]'(hlen.symm ▸ h) * x[k]) := Lib.hid (fun k h => wor_take hlen h)
  have HM : Hid (∀ k, (h : k < x.length) → -1000000000000000 ≤ f.cs[k]'(hlen.symm ▸ h) * x[k] ∧ f.cs[k]'(hlen.symm ▸ h) * x[k] ≤ 1000000000000000) := Lib.hid (fun k h => mul_rng (coefB_iff.1 (List.all_eq_true.1 f3 _ (List.getElem_mem (show k < f.cs.length by omega)))) (hx _ (List.getElem_mem h)))
  have HE : Hid (wor f.k (f.cs.take x.length) (x.take x.length) = worth f x) := Lib.hid (by rw [← hlen, List.take_length, hlen, List.take_length]; rfl)
  have H0 : Hid (wor f.k (f.cs.take 0) (x.take 0) = f.k) := Lib.hid (by simp [wor])
  rw [hlen] at q1
  rw [hlen] at hW0
  rw [hlen]
  clear N0 B0 hv hu hf hx f1 f2 f3
  go_enter Tryd.func47, Tryd.ntmps47
  go_wp2_with fail
  rw [← hW0]
  clear hW0
  go_wp2_with fail
  go_loopw [5, 13] (fun m i wr => ∃ k : Nat, k ≤ x.length ∧ i = .int .i64 k ∧ m = .int .i64 (wor f.k (f.cs.take k) (x.take k)) ∧ wr = W0) (fun _ i _ => x.length - (intOf i).toNat)
  case atStart => exact ⟨0, Nat.zero_le _, rfl, by rw [H0.out], rfl⟩
  case round =>
    obtain ⟨k, hk, rfl, rfl, rfl⟩ := hrel
    have hr := HR.out k hk
    by_cases hlt : k < x.length
    · obtain ⟨b, off, cap', hp, e1, lb⟩ := HV0.out.at (k := k) (by omega)
      obtain rfl : p = some ⟨b, off, none⟩ := by cases hp; rfl
      obtain ⟨b2, off2, cap3, hp2, e2, lb2⟩ := HU0.out.at hlt
      obtain rfl : p2 = some ⟨b2, off2, none⟩ := by cases hp2; rfl
      have k1 : (k : Int) < (x.length : Int) := by omega
      have HS1 := Lib.hid (HS.out k hlt)
      have hm := HM.out k hlt
      clear hp hp2
      obtain ⟨m, hmm⟩ : ∃ m, wor f.k (f.cs.take k) (x.take k) = m := ⟨_, rfl⟩
      rw [hmm] at HS1 hr ⊢
      obtain ⟨c, hc⟩ : ∃ c, f.cs[k]'(hlen.symm ▸ hlt) = c := ⟨_, rfl⟩
      rw [hc] at HS1 hm e1
      obtain ⟨y, hy⟩ : ∃ y, x[k] = y := ⟨_, rfl⟩
      rw [hy] at HS1 hm e2
      obtain ⟨z, hz⟩ : ∃ z, c * y = z := ⟨_, rfl⟩
      have hz1 : -1000000000000000 ≤ z ∧ z ≤ 1000000000000000 := by rw [← hz]; exact hm
      rw [hz] at HS1
      have hrr : -5000000001000000 ≤ m ∧ m ≤ 5000000001000000 := by
        have : (k : Int) ≤ 4 := by omega
        omega
      clear hmm hc hy hm hr
      go_wp2_with fail
      go_roundw
      case rel => exact ⟨k + 1, by omega, by go_num, by rw [HS1.out], (by first | trivial | rfl)⟩
      case measure => simp [intOf]; omega
    · obtain rfl : k = x.length := by omega
      rw [HE.out]
      go_wp2_with fail
      go_ret
      exact ⟨rfl, HB.out⟩
theorem all_no {fs : List Fm} {n : Int} {k : Nat} (hk : k < fs.length) (h : formB fs[k] n = false) : fs.all (formB · n) = false := by
  rw [List.all_eq_false]; exact ⟨_, List.getElem_mem hk, by rw [h]; simp⟩
theorem all_yes {fs : List Fm} {n : Int} (h : ∀ k, (hk : k < fs.length) → formB fs[k] n = true) : fs.all (formB · n) = true := by
  rw [List.all_eq_true]
  intro x hx
  obtain ⟨j, hj, rfl⟩ := List.mem_iff_getElem.1 hx
  exact h j hj
set_option maxRecDepth 100000 in
set_option maxHeartbeats 1600000 in
theorem allformed_any (fs : List Fm) (v : Value) (n : Int) (hm : fs.length ≤ 9223372036854775807) (hms : ∀ f ∈ fs, f.cs.length ≤ 9223372036854775807) (w : World) (hv : Fms w v fs) :
    Calls Tryd.prog 73 #[v, .int .i64 n] w fun e w' => e = .returned (.bool (fs.all (formB · n))) ∧ Below w.heap.size w w' := by
  obtain ⟨p, cap, rfl⟩ := hv.slice
  have HV := Lib.hid hv
  have HA := Lib.hid hms
  clear hv hms
  go_enter Tryd.func73, Tryd.ntmps73
  go_wp2_with fail
  go_loopw [9] (fun i wr => ∃ k : Nat, k ≤ fs.length ∧ i = .int .i64 k ∧ Below w.heap.size w wr ∧ ∀ j, (h : j < fs.length) → j < k → formB fs[j] n = true) (fun i _ => fs.length - (intOf i).toNat)
  case atStart => exact ⟨0, Nat.zero_le _, rfl, Below.refl _ _, fun j _ h => by omega⟩
  case round =>
    obtain ⟨k, hk, rfl, hb, hok⟩ := hrel
    have HK := Lib.hid hok
    have HB := Lib.hid hb
    clear hok hb
    by_cases hlt : k < fs.length
    · obtain ⟨b, off, cap', q, c, hp, e1, e2, hin, lb⟩ := (HV.out.later (HB.out.mono (Nat.le_refl _))).at hlt
      obtain rfl : p = some ⟨b, off, none⟩ := by cases hp; rfl
      have k1 : (k : Int) < (fs.length : Int) := by omega
      have HI := Lib.hid hin
      have KF := Lib.hid (fun (w : World) (h : Ints w (.slice q fs[k].cs.length c) fs[k].cs) => formed_any fs[k] (.slice q fs[k].cs.length c) n (HA.out _ (List.getElem_mem hlt)) w h)
      obtain ⟨t, ht⟩ : ∃ t, formB fs[k] n = t := ⟨_, rfl⟩
      have HT := Lib.hid ht
      rw [ht] at KF
      generalize fs[k].k = fk at e1 KF
      generalize fs[k].cs.length = fl at e2 KF HI
      obtain ⟨W1, hW1⟩ : ∃ W, W = wr.alloc (.cells #[.int .i64 fk, .slice q fl c] 35) := ⟨_, rfl⟩
      have N1 : W1.heap[wr.heap.size]? = some (.cells #[.int .i64 fk, .slice q fl c] 35 (0, 0)) := by rw [hW1]; exact heap_alloc_new _ _
      have b1 : Below wr.heap.size wr W1 := by rw [hW1]; exact (Below.refl _ _).alloc (Nat.le_refl _) _
      have B1 := Lib.hid b1
      have q0 := cell_two0 N1
      have q1 := cell_two1 N1
      clear hp hin ht N1 b1
      cases t with
      | false =>
        have HF := Lib.hid (all_no hlt HT.out)
        go_wp2_with fail
        rw [← hW1]
        clear hW1
        go_wp2_with fail
        refine (KF.out _ (HI.out.later B1.out)).mono ?_
        rintro e w1 ⟨rfl, hb⟩
        have HB1 := Lib.hid (HB.out.trans ((B1.out.trans (hb.mono B1.out.size)).mono HB.out.size))
        clear hb
        go_wp2_with fail
        go_ret
        exact ⟨ret_bool HF.out.symm, HB1.out⟩
      | true =>
        have HG : Hid (∀ j, (h : j < fs.length) → j < k + 1 → formB fs[j] n = true) := Lib.hid (fun j h hj => by
          rcases Nat.lt_or_eq_of_le (Nat.le_of_lt_succ hj) with h1 | h1
          · exact HK.out j h h1
          · subst h1; exact HT.out)
        go_wp2_with fail
        rw [← hW1]
        clear hW1
        go_wp2_with fail
        refine (KF.out _ (HI.out.later B1.out)).mono ?_
        rintro e w1 ⟨rfl, hb⟩
        have HB1 := Lib.hid (HB.out.trans ((B1.out.trans (hb.mono B1.out.size)).mono HB.out.size))
        clear hb
        go_wp2_with fail
        go_roundw
        case rel => exact ⟨k + 1, by omega, by go_num, HB1.out, HG.out⟩
        case measure => simp [intOf]; omega
    · obtain rfl : k = fs.length := by omega
      have HF := Lib.hid (all_yes (fun i hi => HK.out i hi hi))
      go_wp2_with fail
      go_ret
      exact ⟨ret_bool HF.out.symm, HB.out⟩
end Go.Proofs.YtepoaobjcpgilaaDoor
namespace Go.Proofs.YtepoaobjcpgilaaDoor
open Go.RowKit
open WM RM
set_option linter.unusedVariables false
set_option linter.unusedSimpArgs false

/-- A word of one module in a new block. -/
theorem mods_new (w : World) (m : Md) (v : Value) (hv : Ints w v m.a) (hn : NilOr v) : Mods (w.alloc (.cells #[.int .u8 m.c.toNat, v] 25)) (.slice (some ⟨w.heap.size, 0, none⟩) 1 1) [m] := by
  have N0 := heap_alloc_new w (.cells #[.int .u8 m.c.toNat, v] 25)
  refine .some w.heap.size 0 1 [m] (by simp) (lt_of_block N0) fun i hi => ?_
  have h0 : i = 0 := by simpa using hi
  subst h0
  exact ⟨cell_two0 N0, v, cell_two1 N0, hv.later ((Below.refl _ _).alloc (Nat.le_refl _) _), hn⟩
set_option maxHeartbeats 800000 in
theorem pletter_any (c : UInt8) (w : World) : Calls Tryd.prog 72 #[.int .u8 c.toNat] w fun e w' => e = .returned (.bool (letB c && !(braB c))) ∧ Below w.heap.size w w' := by
  obtain ⟨W0, hW0⟩ : ∃ W, W = w.alloc (.cells #[.int .u8 c.toNat, .slice none 0 0] 25) := ⟨_, rfl⟩
  have B0 : Below w.heap.size w W0 := by rw [hW0]; exact (Below.refl _ _).alloc (Nat.le_refl _) _
  have HB := Lib.hid B0
  have hm : Mods W0 (.slice (some ⟨w.heap.size, 0, none⟩) 1 1) [⟨c, []⟩] := by rw [hW0]; exact mods_new w ⟨c, []⟩ (.slice none 0 0) (.none _ _) (.inl rfl)
  have K := Lib.hid (pcheck_any (.slice (some ⟨w.heap.size, 0, none⟩) 1 1) [⟨c, []⟩] (by simp) (by simp) W0 hm)
  have hc := chk_let c
  obtain ⟨x, hx⟩ : ∃ x, chk [⟨c, []⟩] = x := ⟨_, rfl⟩
  rw [hx] at K hc
  have HR : Hid ((x == 0) = (letB c && !(braB c))) := Lib.hid (by rw [← hc, Bool.eq_iff_iff, beq_iff_eq, decide_eq_true_iff])
  clear hm hc hx B0
  obtain ⟨cn, hcn⟩ : ∃ cn : Nat, c.toNat = cn := ⟨_, rfl⟩
  rw [hcn] at hW0 ⊢
  clear hcn
  go_enter Tryd.func72, Tryd.ntmps72
  go_wp2_with fail
  rw [← hW0]
  clear hW0
  refine K.out.mono ?_
  rintro e w1 ⟨rfl, hb⟩
  have B1 := Lib.hid (HB.out.trans (hb.mono HB.out.size))
  clear hb
  go_wp2_with fail
  go_ret
  exact ⟨ret_bool HR.out, B1.out⟩
/-- Where blank stands. -/
structure BlAt (w : World) (out : List Sh) (k : Nat) (v : Value) (wr : World) : Prop where
  hi : k ≤ out.length
  below : Below w.heap.size w wr
  own : ∃ vs, ModFr wr w.heap.size v ((out.take k).map blM) vs
theorem blAt_start (w : World) (out : List Sh) : BlAt w out 0 (.slice none 0 0) w := ⟨Nat.zero_le _, Below.refl _ _, [], by simpa using modFr_nil w w.heap.size⟩
theorem blAt_step {w wo X X4 : World} {out : List Sh} {k n0 : Nat} {v v2 u : Value} {vs : List Value} (hlt : k < out.length) (hT : BlAt w out k v wo) (hO : ModFr wo w.heap.size v ((out.take k).map blM) vs) (e : Below wo.heap.size wo X)
    (hz : X.ownsRow wo.heap.size 3 1 u n0 (valsL (List.replicate n0 0))) (hb : blM out[k] = zerM out[k].c n0) (ho : X4.ownsRow w.heap.size 25 2 v2 (k + 1) (modC ((out.take k).map blM) vs ++ [.int .u8 out[k].c.toNat, u]))
    (hg : X.grownBy X4 v.ownBlock) (h4 : v2.ownBlock = v.ownBlock ∨ v2.ownBlock = some X.heap.size) : BlAt w out (k + 1) v2 X4 := by
  have hl : ((out.take k).map blM).length = k := by rw [List.length_map, List.length_take]; omega
  have hsz := hT.below.size
  have z := e.size
  refine ⟨hlt, (hT.below.trans (e.mono hsz)).grown hg (by omega) (fun j ej => (owns_lt hO.row j ej).1), vs ++ [u], ?_⟩
  have em : (out.take (k + 1)).map blM = (out.take k).map blM ++ [zerM out[k].c n0] := by
    rw [List.take_succ_eq_append_getElem hlt, List.map_append, List.map_cons, List.map_nil, hb]
  rw [em]
  exact modFr_snoc (m := zerM out[k].c n0) hO hsz e (by simpa [zerM] using hz) (by rw [hl]; exact ho) hg h4
theorem zer_own (w : World) (n base : Nat) (hn : n ≤ 1000) (hb : base ≤ w.heap.size) : (w.alloc (.cells (zeros n) 3)).ownsRow base 3 1 (.slice (some ⟨w.heap.size, 0, none⟩) n n) n (valsL (List.replicate n 0)) := by
  have h := World.ownsRow_lit (base := base) (e := 3) (size := 1) w (zeros n) n hb (by have : maxLen = 9223372036854775807 := rfl; omega) (by rw [zeros_size, Nat.mul_one])
  have e : (zeros n).toList = valsL (List.replicate n 0) := by
    apply List.ext_getElem
    · simp [zeros_size, valsL]
    · intro i h1 h2
      have h3 : i < n := by simpa [zeros_size] using h1
      have := zeros_at h3
      rw [Array.getElem?_eq_some_iff] at this
      obtain ⟨_, h4⟩ := this
      simp [valsL, h4]
  rw [e] at h; exact h
set_option maxRecDepth 100000 in
set_option maxHeartbeats 1600000 in
theorem blank_any (out : List Sh) (v : Value) (hm : out.length ≤ 2000) (ha : ∀ s ∈ out, s.a.length ≤ 9223372036854775807) (w : World) (hv : Shs w v out) :
    Calls Tryd.prog 74 #[v] w fun e w' => ∃ v' vs, e = .returned v' ∧ Below w.heap.size w w' ∧ ModFr w' w.heap.size v' (out.map blM) vs := by
  obtain ⟨p, cap, rfl⟩ := hv.slice
  have HV := Lib.hid hv
  have HA := Lib.hid ha
  obtain ⟨j0, hj, hy0, hy1, hy2⟩ := info_parts info_mod
  have HM : Hid (maxLen = 9223372036854775807) := Lib.hid rfl
  have S0 := Lib.hid (blAt_start w out)
  clear hv ha
  go_enter Tryd.func74, Tryd.ntmps74
  go_wp2_with fail
  go_loopw [3, 9] (fun v i wr => ∃ k : Nat, i = .int .i64 k ∧ BlAt w out k v wr) (fun _ i _ => out.length - (intOf i).toNat)
  case atStart => exact ⟨0, rfl, S0.out⟩
  case round =>
    rename World => wo
    obtain ⟨k, rfl, hT⟩ := hrel
    have HT := Lib.hid hT
    have n1 := hT.hi
    have hsz := hT.below.size
    obtain ⟨vs, hO⟩ := hT.own
    have HO := Lib.hid hO
    clear hT hO
    by_cases hlt : k < out.length
    · obtain ⟨b, off, cap', q, c, hp, e1, e2, hin, lb⟩ := (HV.out.later (HT.out.below.mono (Nat.le_refl _))).at hlt
      obtain rfl : p = some ⟨b, off, none⟩ := by cases hp; rfl
      have k1 : (k : Int) < (out.length : Int) := by omega
      have hlk : ((out.take k).map blM).length = k := by rw [List.length_map, List.length_take]; omega
      have hal := HA.out _ (List.getElem_mem hlt)
      have HB1 : Hid (blM out[k] = zerM out[k].c (min out[k].a.length 5)) := Lib.hid rfl
      obtain ⟨W1, hW1⟩ : ∃ W, W = wo.alloc (.cells #[.int .u8 out[k].c.toNat, .slice q out[k].a.length c] 33) := ⟨_, rfl⟩
      have N1 : W1.heap[wo.heap.size]? = some (.cells #[.int .u8 out[k].c.toNat, .slice q out[k].a.length c] 33 (0, 0)) := by rw [hW1]; exact heap_alloc_new _ _
      have b1 : Below wo.heap.size wo W1 := by rw [hW1]; exact (Below.refl _ _).alloc (Nat.le_refl _) _
      have B1 := Lib.hid b1
      have q0 := cell_two0 N1
      have q1 := cell_two1 N1
      have l1 := lt_of_block N1
      have hrow := HO.out.row
      rw [hlk] at hrow
      have HR := Lib.hid (l_own_later hrow b1)
      have hvl := owns_lt hrow
      have HVl := Lib.hid hvl
      obtain ⟨cn, hcn⟩ : ∃ cn : Nat, out[k].c.toNat = cn := ⟨_, rfl⟩
      have HCn := Lib.hid hcn
      obtain ⟨al, hal2⟩ : ∃ al, out[k].a.length = al := ⟨_, rfl⟩
      rw [hcn] at e1 q0 hW1
      rw [hal2] at e2 q1 hW1 HB1 hal
      obtain ⟨n0, hn0⟩ : ∃ n0, min al 5 = n0 := ⟨_, rfl⟩
      have hmin : min (al : Int) 5 = (n0 : Int) := by omega
      rw [hn0] at HB1
      have hn5 : n0 ≤ 5 := by omega
      have hmk := made_run n0 (by omega)
      clear hp hin N1 b1 hcn hal2 hrow hvl hn0
      go_wp2_with fail
      rw [← hW1]
      clear hW1
      go_wp2_with fail
      obtain ⟨M, hM⟩ : ∃ M : Obj, M = .cells #[.int .u8 cn, .slice (some ⟨W1.heap.size, 0, none⟩) n0 n0] 25 := ⟨_, rfl⟩
      have P1 : Hid (((W1.alloc (.cells (zeros n0) 3)).alloc M).drew.ownsRow w.heap.size 25 2 u3 k (modC ((out.take k).map blM) vs)) := Lib.hid ((HR.out.alloc _).alloc _)
      have P2 : Hid (((W1.alloc (.cells (zeros n0) 3)).alloc M).drew.ownsRow wo.heap.size 3 1 (.slice (some ⟨W1.heap.size, 0, none⟩) n0 n0) n0 (valsL (List.replicate n0 0))) := Lib.hid ((zer_own W1 n0 wo.heap.size (by omega) B1.out.size).alloc M)
      have P3 : Hid (Below wo.heap.size wo ((W1.alloc (.cells (zeros n0) 3)).alloc M).drew) := Lib.hid ((B1.out.alloc B1.out.size _).alloc (by have := B1.out.size; simp; omega) _).drew
      rw [hM] at P1 P2 P3
      have hz := B1.out.size
      clear hM
      go_region_law? (first
          | (refine step_append_own _ rfl (.tmp 17) (.tmp 23) 41 rfl w.heap.size 25 j0 (.agg #[.int .u8 0, .slice none 0 0]) 2 32 Tryd.underlying41 hj hy0 hy1 hy2 rfl (by decide) u3 k (modC ((out.take k).map blM) vs) rfl P1.out ⟨W1.heap.size + 1, 0, none⟩ 1 1 [.int .u8 cn, .slice (some ⟨W1.heap.size, 0, none⟩) n0 n0] rfl rfl (fun j u h => by have h9 := two_new (W1.alloc (.cells (zeros n0) 3)) _ _ 25 j u h; simpa using h9) (by simp [Value.oneCell']) (by rw [HM.out]; omega) (by omega) (by simp; omega) ?_
             intro v2 w2 ho2 hg2 hn2 hb2))
      all_goals
        have T1 := Lib.hid (blAt_step hlt HT.out HO.out P3.out P2.out HB1.out (by rw [HCn.out]; exact ho2) hg2 hb2)
        clear ho2 hg2 hn2 hb2
        go_wp2_with fail
        go_roundw
        case rel => exact ⟨k + 1, by go_num, T1.out⟩
        case measure => simp [intOf]; omega
    · have hk : k = out.length := by omega
      have HX := Lib.hid hk
      have hm : ¬ (k : Int) < (out.length : Int) := by omega
      clear hk hlt
      go_wp2_with fail
      go_ret
      exact ⟨_, rfl, HT.out.below, vs, by have h9 := HO.out; rw [HX.out, List.take_length] at h9; exact h9⟩
end Go.Proofs.YtepoaobjcpgilaaDoor
