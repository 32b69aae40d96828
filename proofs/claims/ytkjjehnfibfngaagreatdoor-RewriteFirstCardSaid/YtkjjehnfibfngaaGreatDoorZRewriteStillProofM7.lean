/-
  Texts of the proof, merged: ZRewPrA, ZRewRefE, ZRewPrD, ZRewPrF, ZRewPrB.
-/
import Derived.Test.YtkjjehnfibfngaaGreatDoorZRewriteStillProofM6
import Derived.Test.YtkjjehnfibfngaaGreatDoorZRewriteStillProofM3
import Derived.Test.YtkjjehnfibfngaaGreatDoorZRewriteStillProofM4
namespace Go.Proofs.YtkjjehnfibfngaaGreatDoor
open Go.RowKit
open WM RM
set_option linter.unusedVariables false
set_option linter.unusedSimpArgs false

set_option maxHeartbeats 800000 in
theorem within_any (n m : Int) (hm : 0 ≤ m ∧ m ≤ 1000000000) (w : World) :
    Calls Tryz.prog 30 #[.int .i64 n, .int .i64 m] w fun e w' => e = .returned (.bool (decide (-m ≤ n) && decide (n ≤ m))) ∧ w = w' := by
  have hw : wrap64 (-m) = -m := by unfold wrap64; omega
  by_cases h1 : -m ≤ n
  · by_cases h2 : n ≤ m
    · go_enter Tryz.func30, Tryz.ntmps30
      go_wp2_with fail
      go_ret
      exact ⟨ret_bool (by simp [h1, h2]), rfl⟩
    · go_enter Tryz.func30, Tryz.ntmps30
      go_wp2_with fail
      go_ret
      exact ⟨ret_bool (by simp [h1, h2]), rfl⟩
  · go_enter Tryz.func30, Tryz.ntmps30
    go_wp2_with fail
    go_ret
    exact ⟨ret_bool (by simp; omega), rfl⟩
theorem within_coef (n : Int) (w : World) : Calls Tryz.prog 30 #[.int .i64 n, .int .i64 1000000] w fun e w' => e = .returned (.bool (coefB n)) ∧ w = w' := within_any n 1000000 (by decide) w
theorem within_arg (n : Int) (w : World) : Calls Tryz.prog 30 #[.int .i64 n, .int .i64 1000000000] w fun e w' => e = .returned (.bool (decide (-1000000000 ≤ n) && decide (n ≤ 1000000000))) ∧ w = w' := within_any n 1000000000 (by decide) w
set_option maxRecDepth 100000 in
set_option maxHeartbeats 1600000 in
theorem formed_any (f : Fm) (v : Value) (n : Int) (hm : f.cs.length ≤ 9223372036854775807) (w : World) (hv : Ints w v f.cs) :
    Calls Tryz.prog 29 #[.agg #[.int .i64 f.k, v], .int .i64 n] w fun e w' => e = .returned (.bool (formB f n)) ∧ Below w.heap.size w w' := by
  obtain ⟨p, cap, rfl⟩ := hv.slice
  obtain ⟨W0, hW0⟩ : ∃ W, W = w.alloc (.cells #[.int .i64 f.k, .slice p f.cs.length cap] 48) := ⟨_, rfl⟩
  have N0 : W0.heap[w.heap.size]? = some (.cells #[.int .i64 f.k, .slice p f.cs.length cap] 48 (0, 0)) := by rw [hW0]; exact heap_alloc_new _ _
  have B0 : Below w.heap.size w W0 := by rw [hW0]; exact (Below.refl _ _).alloc (Nat.le_refl _) _
  have HB := Lib.hid B0
  have HV0 := Lib.hid (hv.later B0)
  have q0 := cell_two0 N0
  have q1 := cell_two1 N0
  have l1 := lt_of_block N0
  have KW := Lib.hid within_coef
  clear N0 B0 hv
  by_cases h3 : (f.cs.length : Int) = n
  · have t3 : ((f.cs.length : Int) != n) = false := by rw [h3]; simp
    have HN := Lib.hid h3
    cases hk : coefB f.k with
    | false =>
      have HF := Lib.hid (form_k (n := n) hk)
      have K1 := Lib.hid (KW.out f.k)
      rw [hk] at K1
      clear h3 hk
      go_enter Tryz.func29, Tryz.ntmps29
      go_wp2_with fail
      rw [← hW0]
      clear hW0
      go_wp2_with fail
      refine (K1.out _).mono ?_
      rintro e w1 ⟨rfl, rfl⟩
      go_wp2_with fail
      go_ret
      exact ⟨ret_bool HF.out.symm, HB.out⟩
    | true =>
      have HK := Lib.hid hk
      have K1 := Lib.hid (KW.out f.k)
      rw [hk] at K1
      clear h3 hk
      go_enter Tryz.func29, Tryz.ntmps29
      go_wp2_with fail
      rw [← hW0]
      clear hW0
      go_wp2_with fail
      refine (K1.out _).mono ?_
      rintro e w1 ⟨rfl, rfl⟩
      go_wp2_with fail
      go_loopw [21] (fun i wr => ∃ k : Nat, k ≤ f.cs.length ∧ i = .int .i64 k ∧ wr = W0 ∧ ∀ j, (h : j < f.cs.length) → j < k → coefB f.cs[j] = true) (fun i _ => f.cs.length - (intOf i).toNat)
      case atStart => exact ⟨0, Nat.zero_le _, rfl, rfl, fun j _ h => by omega⟩
      case round =>
        obtain ⟨k, hk, rfl, rfl, hok⟩ := hrel
        have HO := Lib.hid hok
        clear hok
        by_cases hlt : k < f.cs.length
        · obtain ⟨b, off, cap', hp, e1, lb⟩ := HV0.out.at hlt
          obtain rfl : p = some ⟨b, off, none⟩ := by cases hp; rfl
          have k1 : (k : Int) < (f.cs.length : Int) := by omega
          have K2 := Lib.hid (KW.out f.cs[k])
          obtain ⟨t, ht⟩ : ∃ t, coefB f.cs[k] = t := ⟨_, rfl⟩
          have HT := Lib.hid ht
          rw [ht] at K2
          clear hp ht
          generalize f.cs[k] = x at e1 K2
          cases t with
          | false =>
            have HF := Lib.hid (form_bad (n := n) hlt HT.out)
            go_wp2_with fail
            refine (K2.out _).mono ?_
            rintro e w1 ⟨rfl, rfl⟩
            go_wp2_with fail
            go_ret
            exact ⟨ret_bool HF.out.symm, HB.out⟩
          | true =>
            have HG : Hid (∀ j, (h : j < f.cs.length) → j < k + 1 → coefB f.cs[j] = true) := Lib.hid (fun j h hj => by
              rcases Nat.lt_or_eq_of_le (Nat.le_of_lt_succ hj) with h6 | h6
              · exact HO.out j h h6
              · subst h6; exact HT.out)
            go_wp2_with fail
            refine (K2.out _).mono ?_
            rintro e w1 ⟨rfl, rfl⟩
            go_wp2_with fail
            go_roundw
            case rel => exact ⟨k + 1, by omega, by go_num, (by first | trivial | rfl), HG.out⟩
            case measure => simp [intOf]; omega
        · obtain rfl : k = f.cs.length := by omega
          have HF := Lib.hid (form_ok HK.out HN.out (fun i hi => HO.out i hi hi))
          go_wp2_with fail
          go_ret
          exact ⟨ret_bool HF.out.symm, HB.out⟩
  · have HF := Lib.hid (form_len h3)
    have t3 : ((f.cs.length : Int) != n) = true := by rw [bne_iff_ne]; exact h3
    go_enter Tryz.func29, Tryz.ntmps29
    go_wp2_with fail
    rw [← hW0]
    clear hW0
    go_wp2_with fail
    go_ret
    exact ⟨ret_bool HF.out.symm, HB.out⟩
/-- Of a form that is valid for the args, which are in range. -/
theorem total_any (f : Fm) (x : List Int) (v u : Value) (hf : formB f (x.length : Int) = true) (hl : x.length ≤ 4) (hx : ∀ y ∈ x, -1000000000 ≤ y ∧ y ≤ 1000000000) (w : World) (hv : Ints w v f.cs) (hu : Ints w u x) :
    Calls Tryz.prog 31 #[.agg #[.int .i64 f.k, v], u] w fun e w' => e = .returned (.int .i64 (worth f x)) ∧ Below w.heap.size w w' := by
  obtain ⟨f1, f2, f3⟩ := form_iff hf
  have hlen : f.cs.length = x.length := by omega
  obtain ⟨p, cap, rfl⟩ := hv.slice
  obtain ⟨p2, cap2, rfl⟩ := hu.slice
  obtain ⟨W0, hW0⟩ : ∃ W, W = w.alloc (.cells #[.int .i64 f.k, .slice p f.cs.length cap] 48) := ⟨_, rfl⟩
  have N0 : W0.heap[w.heap.size]? = some (.cells #[.int .i64 f.k, .slice p f.cs.length cap] 48 (0, 0)) := by rw [hW0]; exact heap_alloc_new _ _
  have B0 : Below w.heap.size w W0 := by rw [hW0]; exact (Below.refl _ _).alloc (Nat.le_refl _) _
  have HB := Lib.hid B0
  have HV0 := Lib.hid (hv.later B0)
  have HU0 := Lib.hid (hu.later B0)
  have q0 := cell_two0 N0
  have q1 := cell_two1 N0
  have l1 := lt_of_block N0
  have HR := Lib.hid (wor_rng hlen f1 f3 hx)
  have HS : Hid (∀ k, (h : k < x.length) → wor f.k (f.cs.take (k + 1)) (x.take (k + 1)) = wor f.k (f.cs.take k) (x.take k) + f.cs[k]'(hlen.symm ▸ h) * x[k]) := Lib.hid (fun k h => wor_take hlen h)
  have HM : Hid (∀ k, (h : k < x.length) → -1000000000000000 ≤ f.cs[k]'(hlen.symm ▸ h) * x[k] ∧ f.cs[k]'(hlen.symm ▸ h) * x[k] ≤ 1000000000000000) := Lib.hid (fun k h => mul_rng (coefB_iff.1 (List.all_eq_true.1 f3 _ (List.getElem_mem (show k < f.cs.length by omega)))) (hx _ (List.getElem_mem h)))
  have HE : Hid (wor f.k (f.cs.take x.length) (x.take x.length) = worth f x) := Lib.hid (by rw [← hlen, List.take_length, hlen, List.take_length]; rfl)
  have H0 : Hid (wor f.k (f.cs.take 0) (x.take 0) = f.k) := Lib.hid (by simp [wor])
  rw [hlen] at q1
  rw [hlen] at hW0
  rw [hlen]
  clear N0 B0 hv hu hf hx f1 f2 f3
  go_enter Tryz.func31, Tryz.ntmps31
  go_wp2_with fail
  rw [← hW0]
  clear hW0
  go_wp2_with fail
  go_loopw [5, 13] (fun m i wr => ∃ k : Nat, k ≤ x.length ∧ i = .int .i64 k ∧ m = .int .i64 (wor f.k (f.cs.take k) (x.take k)) ∧ wr = W0) (fun _ i _ => x.length - (intOf i).toNat)
  case atStart => exact ⟨0, Nat.zero_le _, rfl, by rw [H0.out], rfl⟩
  case round =>
    obtain ⟨k, hk, rfl, rfl, rfl⟩ := hrel
    have hr := HR.out k hk
    by_cases hlt : k < x.length
    · obtain ⟨b, off, cap', hp, e1, lb⟩ := HV0.out.at (k := k) (by omega)
      obtain rfl : p = some ⟨b, off, none⟩ := by cases hp; rfl
      obtain ⟨b2, off2, cap3, hp2, e2, lb2⟩ := HU0.out.at hlt
      obtain rfl : p2 = some ⟨b2, off2, none⟩ := by cases hp2; rfl
      have k1 : (k : Int) < (x.length : Int) := by omega
      have HS1 := Lib.hid (HS.out k hlt)
      have hm := HM.out k hlt
      clear hp hp2
      obtain ⟨m, hmm⟩ : ∃ m, wor f.k (f.cs.take k) (x.take k) = m := ⟨_, rfl⟩
      rw [hmm] at HS1 hr ⊢
      obtain ⟨c, hc⟩ : ∃ c, f.cs[k]'(hlen.symm ▸ hlt) = c := ⟨_, rfl⟩
      rw [hc] at HS1 hm e1
      obtain ⟨y, hy⟩ : ∃ y, x[k] = y := ⟨_, rfl⟩
      rw [hy] at HS1 hm e2
      obtain ⟨z, hz⟩ : ∃ z, c * y = z := ⟨_, rfl⟩
      have hz1 : -1000000000000000 ≤ z ∧ z ≤ 1000000000000000 := by rw [← hz]; exact hm
      rw [hz] at HS1
      have hrr : -5000000001000000 ≤ m ∧ m ≤ 5000000001000000 := by
        have : (k : Int) ≤ 4 := by omega
        omega
      clear hmm hc hy hm hr
      go_wp2_with fail
      go_roundw
      case rel => exact ⟨k + 1, by omega, by go_num, by rw [HS1.out], (by first | trivial | rfl)⟩
      case measure => simp [intOf]; omega
    · obtain rfl : k = x.length := by omega
      rw [HE.out]
      go_wp2_with fail
      go_ret
      exact ⟨rfl, HB.out⟩
theorem all_no {fs : List Fm} {n : Int} {k : Nat} (hk : k < fs.length) (h : formB fs[k] n = false) : fs.all (formB · n) = false := by
  rw [List.all_eq_false]; exact ⟨_, List.getElem_mem hk, by rw [h]; simp⟩
theorem all_yes {fs : List Fm} {n : Int} (h : ∀ k, (hk : k < fs.length) → formB fs[k] n = true) : fs.all (formB · n) = true := by
  rw [List.all_eq_true]
  intro x hx
  obtain ⟨j, hj, rfl⟩ := List.mem_iff_getElem.1 hx
  exact h j hj
set_option maxRecDepth 100000 in
set_option maxHeartbeats 1600000 in
theorem allformed_any (fs : List Fm) (v : Value) (n : Int) (hm : fs.length ≤ 9223372036854775807) (hms : ∀ f ∈ fs, f.cs.length ≤ 9223372036854775807) (w : World) (hv : Fms w v fs) :
    Calls Tryz.prog 55 #[v, .int .i64 n] w fun e w' => e = .returned (.bool (fs.all (formB · n))) ∧ Below w.heap.size w w' := by
  obtain ⟨p, cap, rfl⟩ := hv.slice
  have HV := Lib.hid hv
  have HA := Lib.hid hms
  clear hv hms
  go_enter Tryz.func55, Tryz.ntmps55
  go_wp2_with fail
  go_loopw [9] (fun i wr => ∃ k : Nat, k ≤ fs.length ∧ i = .int .i64 k ∧ Below w.heap.size w wr ∧ ∀ j, (h : j < fs.length) → j < k → formB fs[j] n = true) (fun i _ => fs.length - (intOf i).toNat)
  case atStart => exact ⟨0, Nat.zero_le _, rfl, Below.refl _ _, fun j _ h => by omega⟩
  case round =>
    obtain ⟨k, hk, rfl, hb, hok⟩ := hrel
    have HK := Lib.hid hok
    have HB := Lib.hid hb
    clear hok hb
    by_cases hlt : k < fs.length
    · obtain ⟨b, off, cap', q, c, hp, e1, e2, hin, lb⟩ := (HV.out.later (HB.out.mono (Nat.le_refl _))).at hlt
      obtain rfl : p = some ⟨b, off, none⟩ := by cases hp; rfl
      have k1 : (k : Int) < (fs.length : Int) := by omega
      have HI := Lib.hid hin
      have KF := Lib.hid (fun (w : World) (h : Ints w (.slice q fs[k].cs.length c) fs[k].cs) => formed_any fs[k] (.slice q fs[k].cs.length c) n (HA.out _ (List.getElem_mem hlt)) w h)
      obtain ⟨t, ht⟩ : ∃ t, formB fs[k] n = t := ⟨_, rfl⟩
      have HT := Lib.hid ht
      rw [ht] at KF
      generalize fs[k].k = fk at e1 KF
      generalize fs[k].cs.length = fl at e2 KF HI
      obtain ⟨W1, hW1⟩ : ∃ W, W = wr.alloc (.cells #[.int .i64 fk, .slice q fl c] 48) := ⟨_, rfl⟩
      have N1 : W1.heap[wr.heap.size]? = some (.cells #[.int .i64 fk, .slice q fl c] 48 (0, 0)) := by rw [hW1]; exact heap_alloc_new _ _
      have b1 : Below wr.heap.size wr W1 := by rw [hW1]; exact (Below.refl _ _).alloc (Nat.le_refl _) _
      have B1 := Lib.hid b1
      have q0 := cell_two0 N1
      have q1 := cell_two1 N1
      clear hp hin ht N1 b1
      cases t with
      | false =>
        have HF := Lib.hid (all_no hlt HT.out)
        go_wp2_with fail
        rw [← hW1]
        clear hW1
        go_wp2_with fail
        refine (KF.out _ (HI.out.later B1.out)).mono ?_
        rintro e w1 ⟨rfl, hb⟩
        have HB1 := Lib.hid (HB.out.trans ((B1.out.trans (hb.mono B1.out.size)).mono HB.out.size))
        clear hb
        go_wp2_with fail
        go_ret
        exact ⟨ret_bool HF.out.symm, HB1.out⟩
      | true =>
        have HG : Hid (∀ j, (h : j < fs.length) → j < k + 1 → formB fs[j] n = true) := Lib.hid (fun j h hj => by
          rcases Nat.lt_or_eq_of_le (Nat.le_of_lt_succ hj) with h1 | h1
          · exact HK.out j h h1
          · subst h1; exact HT.out)
        go_wp2_with fail
        rw [← hW1]
        clear hW1
        go_wp2_with fail
        refine (KF.out _ (HI.out.later B1.out)).mono ?_
        rintro e w1 ⟨rfl, hb⟩
        have HB1 := Lib.hid (HB.out.trans ((B1.out.trans (hb.mono B1.out.size)).mono HB.out.size))
        clear hb
        go_wp2_with fail
        go_roundw
        case rel => exact ⟨k + 1, by omega, by go_num, HB1.out, HG.out⟩
        case measure => simp [intOf]; omega
    · obtain rfl : k = fs.length := by omega
      have HF := Lib.hid (all_yes (fun i hi => HK.out i hi hi))
      go_wp2_with fail
      go_ret
      exact ⟨ret_bool HF.out.symm, HB.out⟩
end Go.Proofs.YtkjjehnfibfngaaGreatDoor
namespace Go.Proofs.YtkjjehnfibfngaaGreatDoor
open Go.RowKit
open WM RM
set_option linter.unusedVariables false
set_option linter.unusedSimpArgs false

/-- Rules that are no greater than the statements look at. -/
def RwSm (r : Rw) : Prop := r.gs.length ≤ 10 ∧ r.out.length ≤ 30 ∧ (∀ f ∈ r.gs, f.cs.length ≤ 10) ∧ ∀ s ∈ r.out, s.a.length ≤ 10 ∧ ∀ f ∈ s.a, f.cs.length ≤ 10
/-- What rules' Fine is to hand back. -/
def FineR : Prop := ∀ (r : Rw) (gv ov : Value) (w : World), RwSm r → Fms w gv r.gs → Shs w ov r.out →
  Calls Tryz.prog 33 #[rwV r gv ov] w fun e w' => e = .returned (.bool (ruleB r)) ∧ Below w.heap.size w w'
theorem rchk_many {l : List Rw} (h : manyB l = true) : rchk l = 4 := by unfold rchk; rw [if_pos h]
theorem rchk_bad {l : List Rw} (h : manyB l = false) {k : Nat} (hk : k < l.length) (h2 : ruleB l[k] = false ∨ plainB l[k] = false) : rchk l = 8 := by
  have : (l.all fun r => ruleB r && plainB r) = false := by
    rw [List.all_eq_false]
    refine ⟨_, List.getElem_mem hk, ?_⟩
    rcases h2 with h | h <;> simp [h]
  unfold rchk; rw [if_neg (by rw [h]; decide), if_neg (by rw [this]; decide)]
theorem rchk_ok {l : List Rw} (h : manyB l = false) (h2 : ∀ k, (hk : k < l.length) → ruleB l[k] = true ∧ plainB l[k] = true) : rchk l = 0 := by
  have : (l.all fun r => ruleB r && plainB r) = true := by
    rw [List.all_eq_true]
    intro x hx
    obtain ⟨j, hj, rfl⟩ := List.mem_iff_getElem.1 hx
    obtain ⟨h3, h4⟩ := h2 j hj
    simp [h3, h4]
  unfold rchk; rw [if_neg (by rw [h]; decide), if_pos this]
theorem rchk_zero {l : List Rw} (h : rchk l = 0) : manyB l = false ∧ ∀ r ∈ l, ruleB r = true ∧ plainB r = true := by
  unfold rchk at h
  split at h
  · omega
  · rename_i h1
    split at h
    · rename_i h2
      refine ⟨by simpa using h1, fun r hr => ?_⟩
      have := List.all_eq_true.1 h2 r hr
      simpa using this
    · omega
theorem rule_guards {r : Rw} (h : ruleB r = true) : r.gs.all (formB · r.ar) = true := by
  unfold ruleB at h
  simp only [Bool.and_eq_true] at h
  exact h.1.1.2
theorem plain_l {r : Rw} (h : r.l ≠ 0) : plainB r = false := by simp [plainB, h]
theorem plain_r {r : Rw} (h : r.r ≠ 0) : plainB r = false := by simp [plainB, h]
theorem plain_w {r : Rw} (h : r.wt ≠ 0) : plainB r = false := by simp [plainB, h]
theorem plain_ok {r : Rw} (h1 : r.l = 0) (h2 : r.r = 0) (h3 : r.wt = 0) : plainB r = true := by simp [plainB, h1, h2, h3]
theorem u8_nz {c : UInt8} (h : c ≠ 0) : ((c.toNat : Int) != 0) = true := by
  rw [bne_iff_ne]; intro e
  exact h (UInt8.toNat_inj.1 (by show c.toNat = 0; omega))
set_option maxRecDepth 100000 in
set_option maxHeartbeats 3200000 in
theorem refcheck_any (KF : FineR) (v : Value) (l : List Rw) (hmax : l.length ≤ 9223372036854775807) (hs : ∀ r ∈ l, RwSm r) (w : World) (hv : Rws w v l) :
    Calls Tryz.prog 18 #[v] w fun e w' => e = .returned (.int .i64 (rchk l)) ∧ Below w.heap.size w w' := by
  have KM := Lib.hid (refmany_any v l hmax w hv)
  obtain ⟨p, cap, rfl⟩ := hv.slice
  have HV := Lib.hid hv
  have HS := Lib.hid hs
  have HKF := Lib.hid KF
  clear hv hs KF
  cases hm : manyB l with
  | true =>
    have HF := Lib.hid (rchk_many hm)
    rw [hm] at KM
    clear hm
    go_enter Tryz.func18, Tryz.ntmps18
    go_wp2_with fail
    refine KM.out.mono ?_
    rintro e wx ⟨rfl, rfl⟩
    go_wp2_with fail
    go_ret
    exact ⟨ret_int HF.out.symm, Below.refl _ _⟩
  | false =>
    have HM := Lib.hid hm
    rw [hm] at KM
    clear hm
    go_enter Tryz.func18, Tryz.ntmps18
    go_wp2_with fail
    refine KM.out.mono ?_
    rintro e wx ⟨rfl, rfl⟩
    go_wp2_with fail
    go_loopw [3] (fun i wr => ∃ k : Nat, k ≤ l.length ∧ i = .int .i64 k ∧ Below w.heap.size w wr ∧ ∀ j, (hj : j < l.length) → j < k → ruleB l[j] = true ∧ plainB l[j] = true) (fun i _ => l.length - (intOf i).toNat)
    case atStart => exact ⟨0, Nat.zero_le _, rfl, Below.refl _ _, fun j _ h => by omega⟩
    case round =>
      obtain ⟨k, hk, rfl, hb, hok⟩ := hrel
      have HK := Lib.hid hok
      have HB := Lib.hid hb
      clear hok hb
      by_cases hlt : k < l.length
      · obtain ⟨b, off, cap', g, gc, o, oc, hp, lb, hat⟩ := (HV.out.later HB.out).at hlt
        obtain rfl : p = some ⟨b, off, none⟩ := by cases hp; rfl
        have k1 : (k : Int) < (l.length : Int) := by omega
        have HCw : Hid (Calls Tryz.prog 33 #[.agg #[.int .u8 l[k].c.toNat, .int .i64 l[k].ar, .int .u8 l[k].l.toNat, .int .u8 l[k].r.toNat, .slice g l[k].gs.length gc, .int .i64 l[k].wt, .slice o l[k].out.length oc]] wr fun e w' => e = .returned (.bool (ruleB l[k])) ∧ Below wr.heap.size wr w') :=
          Lib.hid (HKF.out l[k] _ _ wr (HS.out _ (List.getElem_mem hlt)) hat.gs hat.out)
        obtain ⟨t, ht⟩ : ∃ t, ruleB l[k] = t := ⟨_, rfl⟩
        have HT := Lib.hid ht
        rw [ht] at HCw
        obtain ⟨e0, e1, e2, e3, e4, e5, e6, _, _⟩ := hat
        clear hp ht
        cases t with
        | false =>
          have HF := Lib.hid (rchk_bad HM.out hlt (.inl HT.out))
          generalize l[k].c.toNat = x0 at e0 HCw
          generalize l[k].ar = x1 at e1 HCw
          generalize l[k].l.toNat = x2 at e2 HCw
          generalize l[k].r.toNat = x3 at e3 HCw
          generalize l[k].gs.length = x4 at e4 HCw
          generalize l[k].wt = x5 at e5 HCw
          generalize l[k].out.length = x6 at e6 HCw
          go_wp2_with fail
          refine HCw.out.mono ?_
          rintro e w1 ⟨rfl, hb⟩
          have B1 := Lib.hid (HB.out.trans (hb.mono HB.out.size))
          clear hb
          go_wp2_with fail
          go_ret
          exact ⟨ret_int HF.out.symm, B1.out⟩
        | true =>
          by_cases hl : l[k].l = 0
          · have t2 : ((l[k].l.toNat : Int) != 0) = false := by rw [hl]; rfl
            by_cases hr : l[k].r = 0
            · have t3 : ((l[k].r.toNat : Int) != 0) = false := by rw [hr]; rfl
              by_cases hw : l[k].wt = 0
              · have t5 : (l[k].wt != 0) = false := by rw [hw]; rfl
                have HG : Hid (∀ j, (hj : j < l.length) → j < k + 1 → ruleB l[j] = true ∧ plainB l[j] = true) := Lib.hid (fun j hj h => by
                  rcases Nat.lt_or_eq_of_le (Nat.le_of_lt_succ h) with h1 | h1
                  · exact HK.out j hj h1
                  · subst h1; exact ⟨HT.out, plain_ok hl hr hw⟩)
                generalize l[k].c.toNat = x0 at e0 HCw
                generalize l[k].ar = x1 at e1 HCw
                generalize l[k].gs.length = x4 at e4 HCw
                generalize l[k].out.length = x6 at e6 HCw
                rw [hl] at e2 HCw
                rw [hr] at e3 HCw
                rw [hw] at e5 HCw
                clear hl hr hw t2 t3 t5
                go_wp2_with fail
                refine HCw.out.mono ?_
                rintro e w1 ⟨rfl, hb⟩
                have B1 := Lib.hid (HB.out.trans (hb.mono HB.out.size))
                have y2 := (hb.cell (p := ⟨b, off + k * 7 + 2, none⟩) lb).trans e2
                have y3 := (hb.cell (p := ⟨b, off + k * 7 + 3, none⟩) lb).trans e3
                have y5 := (hb.cell (p := ⟨b, off + k * 7 + 5, none⟩) lb).trans e5
                clear hb
                go_wp2_with fail
                go_roundw
                case rel => exact ⟨k + 1, by omega, by go_num, B1.out, HG.out⟩
                case measure => simp [intOf]; omega
              · have t5 : (l[k].wt != 0) = true := by rw [bne_iff_ne]; exact hw
                have HF := Lib.hid (rchk_bad HM.out hlt (.inr (plain_w hw)))
                generalize l[k].c.toNat = x0 at e0 HCw
                generalize l[k].ar = x1 at e1 HCw
                generalize l[k].gs.length = x4 at e4 HCw
                generalize l[k].out.length = x6 at e6 HCw
                generalize l[k].wt = x5 at e5 HCw t5 hw
                rw [hl] at e2 HCw
                rw [hr] at e3 HCw
                clear hl hr t2 t3
                go_wp2_with fail
                refine HCw.out.mono ?_
                rintro e w1 ⟨rfl, hb⟩
                have B1 := Lib.hid (HB.out.trans (hb.mono HB.out.size))
                have y2 := (hb.cell (p := ⟨b, off + k * 7 + 2, none⟩) lb).trans e2
                have y3 := (hb.cell (p := ⟨b, off + k * 7 + 3, none⟩) lb).trans e3
                have y5 := (hb.cell (p := ⟨b, off + k * 7 + 5, none⟩) lb).trans e5
                clear hb
                go_wp2_with fail
                go_ret
                exact ⟨ret_int HF.out.symm, B1.out⟩
            · have t3 := u8_nz hr
              have HF := Lib.hid (rchk_bad HM.out hlt (.inr (plain_r hr)))
              generalize l[k].c.toNat = x0 at e0 HCw
              generalize l[k].ar = x1 at e1 HCw
              generalize l[k].gs.length = x4 at e4 HCw
              generalize l[k].wt = x5 at e5 HCw
              generalize l[k].out.length = x6 at e6 HCw
              generalize l[k].r.toNat = x3 at e3 HCw t3
              rw [hl] at e2 HCw
              clear hl t2 hr
              go_wp2_with fail
              refine HCw.out.mono ?_
              rintro e w1 ⟨rfl, hb⟩
              have B1 := Lib.hid (HB.out.trans (hb.mono HB.out.size))
              have y2 := (hb.cell (p := ⟨b, off + k * 7 + 2, none⟩) lb).trans e2
              have y3 := (hb.cell (p := ⟨b, off + k * 7 + 3, none⟩) lb).trans e3
              clear hb
              go_wp2_with fail
              go_ret
              exact ⟨ret_int HF.out.symm, B1.out⟩
          · have t2 := u8_nz hl
            have HF := Lib.hid (rchk_bad HM.out hlt (.inr (plain_l hl)))
            generalize l[k].c.toNat = x0 at e0 HCw
            generalize l[k].ar = x1 at e1 HCw
            generalize l[k].r.toNat = x3 at e3 HCw
            generalize l[k].gs.length = x4 at e4 HCw
            generalize l[k].wt = x5 at e5 HCw
            generalize l[k].out.length = x6 at e6 HCw
            generalize l[k].l.toNat = x2 at e2 HCw t2
            clear hl
            go_wp2_with fail
            refine HCw.out.mono ?_
            rintro e w1 ⟨rfl, hb⟩
            have B1 := Lib.hid (HB.out.trans (hb.mono HB.out.size))
            have y2 := (hb.cell (p := ⟨b, off + k * 7 + 2, none⟩) lb).trans e2
            clear hb
            go_wp2_with fail
            go_ret
            exact ⟨ret_int HF.out.symm, B1.out⟩
      · obtain rfl : k = l.length := by omega
        have HF := Lib.hid (rchk_ok HM.out (fun i hi => HK.out i hi hi))
        go_wp2_with fail
        go_ret
        exact ⟨ret_int HF.out.symm, HB.out⟩
/-! ### Find -/
theorem fin_rules {l : List Rw} {m : Md} (h : rchk l ≠ 0) : finC l m = rchk l ∧ finV l m = 0 := by
  have e : finC l m = rchk l := by unfold finC; rw [if_pos h]
  exact ⟨e, by unfold finV; rw [e, if_neg h]⟩
theorem fin_bad {l : List Rw} {m : Md} (h : rchk l = 0) (h2 : fineB m = false) : finC l m = 8 ∧ finV l m = 0 := by
  have e : finC l m = 8 := by unfold finC; rw [if_neg (by simp [h]), if_neg (by rw [h2]; decide)]
  exact ⟨e, by unfold finV; rw [e, if_neg (by decide)]⟩
theorem fin_ok {l : List Rw} {m : Md} (h : rchk l = 0) (h2 : fineB m = true) : finC l m = 0 ∧ finV l m = first l m := by
  have e : finC l m = 0 := by unfold finC; rw [if_neg (by simp [h]), if_pos h2]
  exact ⟨e, by unfold finV; rw [if_pos e]⟩
end Go.Proofs.YtkjjehnfibfngaaGreatDoor
namespace Go.Proofs.YtkjjehnfibfngaaGreatDoor
open Go.RowKit
open WM RM
set_option linter.unusedVariables false
set_option linter.unusedSimpArgs false

theorem rng_in (x : Int) : (decide (-1000000000 ≤ x) && decide (x ≤ 1000000000)) = argB x := rfl
theorem fine70_no {x : List Int} {k : Nat} (hk : k < x.length) (h : argB x[k] = false) : fineB ⟨70, x⟩ = false := by
  have : rngB x = false := by
    unfold rngB
    rw [List.all_eq_false]
    exact ⟨_, List.getElem_mem hk, by rw [rng_in, h]; simp⟩
  simp [fineB, this]
theorem fine70_ok {x : List Int} (h4 : ¬ 4 < x.length) (h : ∀ k, (hk : k < x.length) → argB x[k] = true) : fineB ⟨70, x⟩ = true := by
  have : rngB x = true := by
    unfold rngB
    rw [List.all_eq_true]
    intro y hy
    obtain ⟨j, hj, rfl⟩ := List.mem_iff_getElem.1 hy
    exact h j hj
  unfold fineB
  rw [this, decide_eq_true (by show x.length ≤ 4; omega)]
  simp [letB, braB]
theorem within_argB (n : Int) (w : World) : Calls Tryz.prog 30 #[.int .i64 n, .int .i64 1000000000] w fun e w' => e = .returned (.bool (argB n)) ∧ w = w' := within_arg n w
theorem argB_iff {x : Int} : argB x = true ↔ -1000000000 ≤ x ∧ x ≤ 1000000000 := by simp [argB]
set_option maxRecDepth 100000 in
set_option maxHeartbeats 3200000 in
theorem prvalue_any (f : Fm) (x : List Int) (v u : Value) (hm : f.cs.length ≤ 9223372036854775807) (hx : x.length ≤ 9223372036854775807) (w : World) (h1 : Ints w v f.cs) (h2 : Ints w u x) :
    Calls Tryz.prog 15 #[.agg #[.int .i64 f.k, v], u] w fun e w' => e = .returned (.tuple #[.int .i64 (vaV f x), .int .i64 (vaC f x)]) ∧ Below w.heap.size w w' := by
  obtain ⟨p, cap, rfl⟩ := h1.slice
  obtain ⟨p2, cap2, rfl⟩ := h2.slice
  obtain ⟨W0, hW0⟩ : ∃ W, W = w.alloc (.cells #[.int .i64 f.k, .slice p f.cs.length cap] 48) := ⟨_, rfl⟩
  have N0 : W0.heap[w.heap.size]? = some (.cells #[.int .i64 f.k, .slice p f.cs.length cap] 48 (0, 0)) := by rw [hW0]; exact heap_alloc_new _ _
  have B0 : Below w.heap.size w W0 := by rw [hW0]; exact (Below.refl _ _).alloc (Nat.le_refl _) _
  have HB := Lib.hid B0
  have H1 := Lib.hid (h1.later B0)
  have H2 := Lib.hid (h2.later B0)
  have q0 := cell_two0 N0
  have q1 := cell_two1 N0
  have l1 := lt_of_block N0
  have KF := Lib.hid (fun w h => formed_any f (.slice p f.cs.length cap) (x.length : Int) hm w h)
  have KI := Lib.hid within_argB
  have HFm := Lib.hid hm
  clear N0 B0 h1 h2
  by_cases c4 : 4 < x.length
  · have HV := Lib.hid (va_bad (f := f) (.inl c4))
    have c4' : (4 : Int) < (x.length : Int) := by omega
    go_enter Tryz.func15, Tryz.ntmps15
    go_wp2_with fail
    rw [← hW0]
    clear hW0
    go_wp2_with fail
    go_ret2
    exact ⟨rret_two HV.out.2.symm HV.out.1.symm, HB.out⟩
  have c4' : ¬ (4 : Int) < (x.length : Int) := by omega
  cases hf : formB f (x.length : Int) with
  | false =>
    have HV := Lib.hid (va_bad (f := f) (.inr (.inl hf)))
    rw [hf] at KF
    clear hf
    go_enter Tryz.func15, Tryz.ntmps15
    go_wp2_with fail
    rw [← hW0]
    clear hW0
    go_wp2_with fail
    refine (KF.out _ H1.out).mono ?_
    rintro e w1 ⟨rfl, hb⟩
    have B1 := Lib.hid (HB.out.trans (hb.mono HB.out.size))
    clear hb
    go_wp2_with fail
    go_ret2
    exact ⟨rret_two HV.out.2.symm HV.out.1.symm, B1.out⟩
  | true =>
    have HFo := Lib.hid hf
    rw [hf] at KF
    clear hf
    go_enter Tryz.func15, Tryz.ntmps15
    go_wp2_with fail
    rw [← hW0]
    clear hW0
    go_wp2_with fail
    refine (KF.out _ H1.out).mono ?_
    rintro e w1 ⟨rfl, hb⟩
    have D1 := Lib.hid hb
    have y0 := (hb.cell (p := ⟨w.heap.size, 0, none⟩) l1).trans q0
    have y1 := (hb.cell (p := ⟨w.heap.size, 1, none⟩) l1).trans q1
    have H1' := Lib.hid (H1.out.later hb)
    have H2' := Lib.hid (H2.out.later hb)
    have B1 := Lib.hid (HB.out.trans (hb.mono HB.out.size))
    clear hb
    go_wp2_with fail
    go_loopw [21] (fun i wr => ∃ k : Nat, k ≤ x.length ∧ i = .int .i64 k ∧ wr = w1 ∧ ∀ j, (h : j < x.length) → j < k → argB x[j] = true) (fun i _ => x.length - (intOf i).toNat)
    case atStart => exact ⟨0, Nat.zero_le _, rfl, rfl, fun j _ h => by omega⟩
    case round =>
      obtain ⟨k, hk, rfl, rfl, hok⟩ := hrel
      have HO := Lib.hid hok
      clear hok
      by_cases hlt : k < x.length
      · obtain ⟨b, off, cap', hp, e1, lb⟩ := H2'.out.at hlt
        obtain rfl : p2 = some ⟨b, off, none⟩ := by cases hp; rfl
        have k1 : (k : Int) < (x.length : Int) := by omega
        have K2 := Lib.hid (KI.out x[k])
        obtain ⟨t, ht⟩ : ∃ t, argB x[k] = t := ⟨_, rfl⟩
        have HT := Lib.hid ht
        rw [ht] at K2
        clear hp ht
        generalize x[k] = y at e1 K2
        cases t with
        | false =>
          have HV := Lib.hid (va_bad (f := f) (.inr (.inr (fine70_no hlt HT.out))))
          go_wp2_with fail
          refine (K2.out _).mono ?_
          rintro e w2 ⟨rfl, rfl⟩
          go_wp2_with fail
          go_ret2
          exact ⟨rret_two HV.out.2.symm HV.out.1.symm, B1.out⟩
        | true =>
          have HG : Hid (∀ j, (h : j < x.length) → j < k + 1 → argB x[j] = true) := Lib.hid (fun j h hj => by
            rcases Nat.lt_or_eq_of_le (Nat.le_of_lt_succ hj) with h6 | h6
            · exact HO.out j h h6
            · subst h6; exact HT.out)
          go_wp2_with fail
          refine (K2.out _).mono ?_
          rintro e w2 ⟨rfl, rfl⟩
          go_wp2_with fail
          go_roundw
          case rel => exact ⟨k + 1, by omega, by go_num, (by first | trivial | rfl), HG.out⟩
          case measure => simp [intOf]; omega
      · obtain rfl : k = x.length := by omega
        have hi := fine70_ok c4 (fun i hi => HO.out i hi hi)
        have HV := Lib.hid (va_good c4 HFo.out hi)
        have KW := Lib.hid (fun w h h' => total_any f x (.slice p f.cs.length cap) (.slice p2 x.length cap2) HFo.out (by omega) (fine_args4 hi).2 w h h')
        obtain ⟨z, hz⟩ : ∃ z, worth f x = z := ⟨_, rfl⟩
        have K3 := Lib.hid (KI.out z)
        rw [hz] at KW HV
        clear hz hi
        have HZ : Hid ((-1000000000 ≤ z ∧ z ≤ 1000000000) ↔ argB z = true) := Lib.hid argB_iff.symm
        cases ht : argB z with
        | false =>
          have HV := Lib.hid (HV.out.1 (by rw [HZ.out, ht]; decide))
          rw [ht] at K3
          clear ht HZ
          go_wp2_with fail
          refine (KW.out _ H1'.out H2'.out).mono ?_
          rintro e w2 ⟨rfl, hb⟩
          have B2 := Lib.hid (B1.out.trans (hb.mono B1.out.size))
          clear hb
          go_wp2_with fail
          refine (K3.out _).mono ?_
          rintro e w3 ⟨rfl, rfl⟩
          go_wp2_with fail
          go_ret2
          exact ⟨rret_two HV.out.2.symm HV.out.1.symm, B2.out⟩
        | true =>
          have HV := Lib.hid (HV.out.2 (by rw [HZ.out, ht]))
          rw [ht] at K3
          clear ht HZ
          go_wp2_with fail
          refine (KW.out _ H1'.out H2'.out).mono ?_
          rintro e w2 ⟨rfl, hb⟩
          have B2 := Lib.hid (B1.out.trans (hb.mono B1.out.size))
          clear hb
          go_wp2_with fail
          refine (K3.out _).mono ?_
          rintro e w3 ⟨rfl, rfl⟩
          go_wp2_with fail
          go_ret2
          exact ⟨rret_two HV.out.2.symm HV.out.1.symm, B2.out⟩
end Go.Proofs.YtkjjehnfibfngaaGreatDoor
namespace Go.Proofs.YtkjjehnfibfngaaGreatDoor
open Go.RowKit
open WM RM
set_option linter.unusedVariables false
set_option linter.unusedSimpArgs false

set_option maxRecDepth 100000 in
set_option maxHeartbeats 3200000 in
theorem prfirst_any (v : Value) (l : List Rw) (m : Md) (mv : Value) (hmax : l.length ≤ 9223372036854775807) (hg : ∀ r ∈ l, r.gs.all (formB · r.ar) = true ∧ r.gs.length ≤ 9223372036854775807) (hm : fineB m = true) (w : World) (hv : Rws w v l) (hmv : Ints w mv m.a) :
    Calls Tryz.prog 28 #[v, .agg #[.int .u8 m.c.toNat, mv]] w fun e w' => e = .returned (.int .i64 (first l m)) ∧ Below w.heap.size w w' := by
  obtain ⟨p, cap, rfl⟩ := hv.slice
  obtain ⟨p2, cap2, rfl⟩ := hmv.slice
  obtain ⟨m4, mr⟩ := fine_args4 hm
  have HMR := Lib.hid mr
  obtain ⟨W0, hW0⟩ : ∃ W, W = w.alloc (.cells #[.int .u8 m.c.toNat, .slice p2 m.a.length cap2] 43) := ⟨_, rfl⟩
  have N0 : W0.heap[w.heap.size]? = some (.cells #[.int .u8 m.c.toNat, .slice p2 m.a.length cap2] 43 (0, 0)) := by rw [hW0]; exact heap_alloc_new _ _
  have B0 : Below w.heap.size w W0 := by rw [hW0]; exact (Below.refl _ _).alloc (Nat.le_refl _) _
  have HB := Lib.hid B0
  have HV := Lib.hid (hv.later B0)
  have HM := Lib.hid (hmv.later B0)
  have q0 := cell_two0 N0
  have q1 := cell_two1 N0
  have l1 := lt_of_block N0
  have HG := Lib.hid hg
  clear N0 B0 hv hmv hg hm mr
  go_enter Tryz.func28, Tryz.ntmps28
  go_wp2_with fail
  rw [← hW0]
  clear hW0
  go_step3
  go_wp2_with fail
  go_step3
  go_wp2_with fail
  go_loopw [11] (fun i wr => ∃ k : Nat, k ≤ l.length ∧ i = .int .i64 k ∧ Below W0.heap.size W0 wr ∧ FAt l m k) (fun i _ => l.length - (intOf i).toNat)
  case atStart => exact ⟨0, Nat.zero_le _, rfl, Below.refl _ _, fAt_start l m⟩
  case round =>
    rename World => wo
    obtain ⟨k, hk, rfl, hb, hok⟩ := hrel
    have HK := Lib.hid hok
    have HBr := Lib.hid hb
    have hbz := hb.size
    have y0 := (hb.cell (p := ⟨w.heap.size, 0, none⟩) l1).trans q0
    have y1 := (hb.cell (p := ⟨w.heap.size, 1, none⟩) l1).trans q1
    have lo : w.heap.size < wo.heap.size := Nat.lt_of_lt_of_le l1 hbz
    clear hok hb
    by_cases hlt : k < l.length
    · obtain ⟨b, off, cap', g, gc, o, oc, hp, lb, hat⟩ := (HV.out.later HBr.out).at hlt
      obtain rfl : p = some ⟨b, off, none⟩ := by cases hp; rfl
      have k1 : (k : Int) < (l.length : Int) := by omega
      obtain ⟨g1, g2⟩ := HG.out _ (List.getElem_mem hlt)
      have HG1 := Lib.hid g1
      have HX := Lib.hid (HM.out.later HBr.out)
      have HGs := Lib.hid hat.gs
      obtain ⟨e0, e1, e2, e3, e4, e5, e6, _, _⟩ := hat
      obtain ⟨r, hr⟩ : ∃ r, l[k] = r := ⟨_, rfl⟩
      have HR := Lib.hid hr
      rw [hr] at e0 e1 e2 e3 e4 e5 e6 HGs HG1 g2
      obtain ⟨W1, hW1⟩ : ∃ W, W = wo.alloc (.cells #[.int .u8 r.c.toNat, .int .i64 r.ar, .int .u8 r.l.toNat, .int .u8 r.r.toNat, .slice g r.gs.length gc, .int .i64 r.wt, .slice o r.out.length oc] 38) := ⟨_, rfl⟩
      have N1 : W1.heap[wo.heap.size]? = some (.cells #[.int .u8 r.c.toNat, .int .i64 r.ar, .int .u8 r.l.toNat, .int .u8 r.r.toNat, .slice g r.gs.length gc, .int .i64 r.wt, .slice o r.out.length oc] 38 (0, 0)) := by rw [hW1]; exact heap_alloc_new _ _
      have b1 : Below wo.heap.size wo W1 := by rw [hW1]; exact (Below.refl _ _).alloc (Nat.le_refl _) _
      have E1 := Lib.hid b1
      have B1 := Lib.hid (HBr.out.trans (b1.mono hbz))
      have r0 : W1.cell? ⟨wo.heap.size, 0, none⟩ = some (.int .u8 r.c.toNat) := by simp [World.cell?, N1]
      have r1 : W1.cell? ⟨wo.heap.size, 1, none⟩ = some (.int .i64 r.ar) := by simp [World.cell?, N1]
      have r4 : W1.cell? ⟨wo.heap.size, 4, none⟩ = some (.slice g r.gs.length gc) := by simp [World.cell?, N1]
      have s0 := (B1.out.cell (p := ⟨w.heap.size, 0, none⟩) l1).trans q0
      have s1 := (B1.out.cell (p := ⟨w.heap.size, 1, none⟩) l1).trans q1
      have HGs1 := Lib.hid (HGs.out.later E1.out)
      have HNo : Hid (fitB r m = false → FAt l m (k + 1)) := Lib.hid (fun h => fAt_no hlt HK.out (by rw [HR.out]; exact h))
      have HYes : Hid (fitB r m = true → first l m = (k : Int)) := Lib.hid (fun h => fAt_yes hlt HK.out (by rw [HR.out]; exact h))
      clear hp hr N1 b1 g1
      generalize r.l.toNat = x2 at e2 hW1
      generalize r.r.toNat = x3 at e3 hW1
      generalize r.wt = x5 at e5 hW1
      generalize r.out.length = x6 at e6 hW1
      by_cases hc : r.c = m.c
      · have HC := Lib.hid hc
        have t1 : ((r.c.toNat : Int) != (m.c.toNat : Int)) = false := by rw [hc]; simp
        by_cases ha : r.ar = (m.a.length : Int)
        · have HA := Lib.hid ha
          have HA0 := Lib.hid ha
          have t2 : (r.ar != (m.a.length : Int)) = false := by rw [ha]; simp
          clear hc ha
          generalize r.c.toNat = ca at e0 r0 t1 hW1
          generalize m.c.toNat = cb at y0 s0 q0 t1
          generalize r.ar = ra at e1 r1 t2 hW1 HG1 HA
          obtain ⟨x4, hx4⟩ : ∃ x4, r.gs.length = x4 := ⟨_, rfl⟩
          have HX4 := Lib.hid hx4
          rw [hx4] at e4 r4 hW1
          go_wp2_with fail
          rw [← hW1]
          clear hW1
          go_wp2_with fail
          have l1w : w.heap.size < W1.heap.size := Nat.lt_of_lt_of_le l1 B1.out.size
          go_loopw [32] (fun i wr => ∃ j : Nat, j ≤ x4 ∧ i = .int .i64 j ∧ Below W1.heap.size W1 wr ∧ ∀ j', (hj : j' < r.gs.length) → j' < j → 0 ≤ worth r.gs[j'] m.a) (fun i _ => x4 - (intOf i).toNat)
          case atStart => exact ⟨0, Nat.zero_le _, rfl, Below.refl _ _, fun j _ h => by omega⟩
          case round =>
            rename World => wi
            obtain ⟨j, hj, rfl, hb, hok⟩ := hrel
            have HJ := Lib.hid hok
            have HBi := Lib.hid hb
            have hbi := hb.size
            have u1 := (hb.cell (p := ⟨w.heap.size, 1, none⟩) l1w).trans s1
            have li : w.heap.size < wi.heap.size := Nat.lt_of_lt_of_le l1w hbi
            have HBw : Hid (Below W0.heap.size W0 wi) := Lib.hid (B1.out.trans (hb.mono B1.out.size))
            clear hok hb
            by_cases hjl : j < r.gs.length
            · obtain ⟨bg, og, cg, q, d, hp, f0, f1, hin, lg⟩ := (HGs1.out.later HBi.out).at hjl
              obtain rfl : g = some ⟨bg, og, none⟩ := by cases hp; rfl
              have j1 : (j : Int) < (x4 : Int) := by omega
              have hf := List.all_eq_true.1 HG1.out _ (List.getElem_mem hjl)
              rw [HA.out] at hf
              obtain ⟨W2, hW2⟩ : ∃ W, W = wi.alloc (.cells #[.int .i64 r.gs[j].k, .slice q r.gs[j].cs.length d] 48) := ⟨_, rfl⟩
              have b2 : Below wi.heap.size wi W2 := by rw [hW2]; exact (Below.refl _ _).alloc (Nat.le_refl _) _
              have E2 := Lib.hid b2
              have KT := Lib.hid (total_any r.gs[j] m.a _ _ hf m4 HMR.out W2 (hin.later b2) (HM.out.later (HBw.out.trans (b2.mono HBw.out.size))))
              obtain ⟨z, hz⟩ : ∃ z, worth r.gs[j] m.a = z := ⟨_, rfl⟩
              have HZ := Lib.hid hz
              rw [hz] at KT
              generalize r.gs[j].k = fk at f0 hW2 KT
              generalize r.gs[j].cs.length = fl at f1 hW2 KT
              clear hp hin hf hz b2
              by_cases h0 : z < 0
              · have HN := Lib.hid (HNo.out (fit_neg hjl (by rw [HZ.out]; exact h0)))
                go_wp2_with fail
                rw [← hW2]
                clear hW2
                refine KT.out.mono ?_
                rintro e w5 ⟨rfl, hb⟩
                have HB5 := Lib.hid (HBw.out.trans ((E2.out.trans (hb.mono E2.out.size)).mono HBw.out.size))
                clear hb
                go_wp2_with fail
                go_roundw
                case rel => exact ⟨k + 1, by omega, by go_num, HB5.out, HN.out⟩
                case measure => simp [intOf]; omega
              · have HJ2 : Hid (∀ j', (hj : j' < r.gs.length) → j' < j + 1 → 0 ≤ worth r.gs[j'] m.a) := Lib.hid (fun j' hj h => by
                  rcases Nat.lt_or_eq_of_le (Nat.le_of_lt_succ h) with h1 | h1
                  · exact HJ.out j' hj h1
                  · subst h1; rw [HZ.out]; omega)
                go_wp2_with fail
                rw [← hW2]
                clear hW2
                refine KT.out.mono ?_
                rintro e w5 ⟨rfl, hb⟩
                have HB5 := Lib.hid (HBi.out.trans ((E2.out.trans (hb.mono E2.out.size)).mono HBi.out.size))
                clear hb
                go_wp2_with fail
                go_roundw
                case rel => exact ⟨j + 1, by omega, by go_num, HB5.out, HJ2.out⟩
                case measure => simp [intOf]; omega
            · have hje : j = x4 := by omega
              have j1 : ¬ (j : Int) < (x4 : Int) := by omega
              have HF := Lib.hid (HYes.out (fit_ok HC.out HA0.out (fun i hi => HJ.out i hi (by omega))))
              clear hje
              go_wp2_with fail
              try rw [Exit.noGoto_ret]
              go_ret
              exact ⟨ret_int HF.out.symm, HB.out.trans (HBw.out.mono HB.out.size)⟩
        · have t2 : (r.ar != (m.a.length : Int)) = true := by rw [bne_iff_ne]; exact ha
          have HN := Lib.hid (HNo.out (fit_len ha))
          clear hc ha
          generalize r.c.toNat = ca at e0 r0 t1 hW1
          generalize m.c.toNat = cb at y0 s0 q0 t1
          generalize r.ar = ra at e1 r1 t2 hW1
          generalize r.gs.length = x4 at e4 r4 hW1
          go_wp2_with fail
          rw [← hW1]
          clear hW1
          go_roundw
          case rel => exact ⟨k + 1, by omega, by go_num, B1.out, HN.out⟩
          case measure => simp [intOf]; omega
      · have t1 : ((r.c.toNat : Int) != (m.c.toNat : Int)) = true := by
          rw [bne_iff_ne]; intro h
          exact hc (UInt8.toNat_inj.1 (by omega))
        have HN := Lib.hid (HNo.out (fit_name hc))
        clear hc
        generalize r.c.toNat = ca at e0 r0 t1 hW1
        generalize m.c.toNat = cb at y0 s0 q0 t1
        generalize r.gs.length = x4 at e4 r4 hW1
        generalize r.ar = ra at e1 r1 hW1
        go_wp2_with fail
        rw [← hW1]
        clear hW1
        go_roundw
        case rel => exact ⟨k + 1, by omega, by go_num, B1.out, HN.out⟩
        case measure => simp [intOf]; omega
    · obtain rfl : k = l.length := by omega
      have HF := Lib.hid (fAt_end HK.out)
      go_wp2_with fail
      try rw [Exit.noGoto_ret]
      go_ret
      exact ⟨ret_int HF.out.symm, HB.out.trans (HBr.out.mono HB.out.size)⟩
end Go.Proofs.YtkjjehnfibfngaaGreatDoor
namespace Go.Proofs.YtkjjehnfibfngaaGreatDoor
open Go.RowKit
open WM RM
set_option linter.unusedVariables false
set_option linter.unusedSimpArgs false

/-- A word of one module in a new block. -/
theorem mods_new (w : World) (m : Md) (v : Value) (hv : Ints w v m.a) (hn : NilOr v) : Mods (w.alloc (.cells #[.int .u8 m.c.toNat, v] 43)) (.slice (some ⟨w.heap.size, 0, none⟩) 1 1) [m] := by
  have N0 := heap_alloc_new w (.cells #[.int .u8 m.c.toNat, v] 43)
  refine .some w.heap.size 0 1 [m] (by simp) (lt_of_block N0) fun i hi => ?_
  have h0 : i = 0 := by simpa using hi
  subst h0
  exact ⟨cell_two0 N0, v, cell_two1 N0, hv.later ((Below.refl _ _).alloc (Nat.le_refl _) _), hn⟩
set_option maxHeartbeats 800000 in
theorem pletter_any (c : UInt8) (w : World) : Calls Tryz.prog 54 #[.int .u8 c.toNat] w fun e w' => e = .returned (.bool (letB c && !(braB c))) ∧ Below w.heap.size w w' := by
  obtain ⟨W0, hW0⟩ : ∃ W, W = w.alloc (.cells #[.int .u8 c.toNat, .slice none 0 0] 43) := ⟨_, rfl⟩
  have B0 : Below w.heap.size w W0 := by rw [hW0]; exact (Below.refl _ _).alloc (Nat.le_refl _) _
  have HB := Lib.hid B0
  have hm : Mods W0 (.slice (some ⟨w.heap.size, 0, none⟩) 1 1) [⟨c, []⟩] := by rw [hW0]; exact mods_new w ⟨c, []⟩ (.slice none 0 0) (.none _ _) (.inl rfl)
  have K := Lib.hid (pcheck_any (.slice (some ⟨w.heap.size, 0, none⟩) 1 1) [⟨c, []⟩] (by simp) (by simp) W0 hm)
  have hc := chk_let c
  obtain ⟨x, hx⟩ : ∃ x, chk [⟨c, []⟩] = x := ⟨_, rfl⟩
  rw [hx] at K hc
  have HR : Hid ((x == 0) = (letB c && !(braB c))) := Lib.hid (by rw [← hc, Bool.eq_iff_iff, beq_iff_eq, decide_eq_true_iff])
  clear hm hc hx B0
  obtain ⟨cn, hcn⟩ : ∃ cn : Nat, c.toNat = cn := ⟨_, rfl⟩
  rw [hcn] at hW0 ⊢
  clear hcn
  go_enter Tryz.func54, Tryz.ntmps54
  go_wp2_with fail
  rw [← hW0]
  clear hW0
  refine K.out.mono ?_
  rintro e w1 ⟨rfl, hb⟩
  have B1 := Lib.hid (HB.out.trans (hb.mono HB.out.size))
  clear hb
  go_wp2_with fail
  go_ret
  exact ⟨ret_bool HR.out, B1.out⟩
/-- Where blank stands. -/
structure BlAt (w : World) (out : List Sh) (k : Nat) (v : Value) (wr : World) : Prop where
  hi : k ≤ out.length
  below : Below w.heap.size w wr
  own : ∃ vs, ModFr wr w.heap.size v ((out.take k).map blM) vs
theorem blAt_start (w : World) (out : List Sh) : BlAt w out 0 (.slice none 0 0) w := ⟨Nat.zero_le _, Below.refl _ _, [], by simpa using modFr_nil w w.heap.size⟩
theorem blAt_step {w wo X X4 : World} {out : List Sh} {k n0 : Nat} {v v2 u : Value} {vs : List Value} (hlt : k < out.length) (hT : BlAt w out k v wo) (hO : ModFr wo w.heap.size v ((out.take k).map blM) vs) (e : Below wo.heap.size wo X)
    (hz : X.ownsRow wo.heap.size 3 1 u n0 (valsL (List.replicate n0 0))) (hb : blM out[k] = zerM out[k].c n0) (ho : X4.ownsRow w.heap.size 43 2 v2 (k + 1) (modC ((out.take k).map blM) vs ++ [.int .u8 out[k].c.toNat, u]))
    (hg : X.grownBy X4 v.ownBlock) (h4 : v2.ownBlock = v.ownBlock ∨ v2.ownBlock = some X.heap.size) : BlAt w out (k + 1) v2 X4 := by
  have hl : ((out.take k).map blM).length = k := by rw [List.length_map, List.length_take]; omega
  have hsz := hT.below.size
  have z := e.size
  refine ⟨hlt, (hT.below.trans (e.mono hsz)).grown hg (by omega) (fun j ej => (owns_lt hO.row j ej).1), vs ++ [u], ?_⟩
  have em : (out.take (k + 1)).map blM = (out.take k).map blM ++ [zerM out[k].c n0] := by
    rw [List.take_succ_eq_append_getElem hlt, List.map_append, List.map_cons, List.map_nil, hb]
  rw [em]
  exact modFr_snoc (m := zerM out[k].c n0) hO hsz e (by simpa [zerM] using hz) (by rw [hl]; exact ho) hg h4
theorem zer_own (w : World) (n base : Nat) (hn : n ≤ 1000) (hb : base ≤ w.heap.size) : (w.alloc (.cells (zeros n) 3)).ownsRow base 3 1 (.slice (some ⟨w.heap.size, 0, none⟩) n n) n (valsL (List.replicate n 0)) := by
  have h := World.ownsRow_lit (base := base) (e := 3) (size := 1) w (zeros n) n hb (by have : maxLen = 9223372036854775807 := rfl; omega) (by rw [zeros_size, Nat.mul_one])
  have e : (zeros n).toList = valsL (List.replicate n 0) := by
    apply List.ext_getElem
    · simp [zeros_size, valsL]
    · intro i h1 h2
      have h3 : i < n := by simpa [zeros_size] using h1
      have := zeros_at h3
      rw [Array.getElem?_eq_some_iff] at this
      obtain ⟨_, h4⟩ := this
      simp [valsL, h4]
  rw [e] at h; exact h
set_option maxRecDepth 100000 in
set_option maxHeartbeats 1600000 in
theorem blank_any (out : List Sh) (v : Value) (hm : out.length ≤ 2000) (ha : ∀ s ∈ out, s.a.length ≤ 9223372036854775807) (w : World) (hv : Shs w v out) :
    Calls Tryz.prog 56 #[v] w fun e w' => ∃ v' vs, e = .returned v' ∧ Below w.heap.size w w' ∧ ModFr w' w.heap.size v' (out.map blM) vs := by
  obtain ⟨p, cap, rfl⟩ := hv.slice
  have HV := Lib.hid hv
  have HA := Lib.hid ha
  obtain ⟨j0, hj, hy0, hy1, hy2⟩ := info_parts info_mod
  have HM : Hid (maxLen = 9223372036854775807) := Lib.hid rfl
  have S0 := Lib.hid (blAt_start w out)
  clear hv ha
  go_enter Tryz.func56, Tryz.ntmps56
  go_wp2_with fail
  go_loopw [3, 9] (fun v i wr => ∃ k : Nat, i = .int .i64 k ∧ BlAt w out k v wr) (fun _ i _ => out.length - (intOf i).toNat)
  case atStart => exact ⟨0, rfl, S0.out⟩
  case round =>
    rename World => wo
    obtain ⟨k, rfl, hT⟩ := hrel
    have HT := Lib.hid hT
    have n1 := hT.hi
    have hsz := hT.below.size
    obtain ⟨vs, hO⟩ := hT.own
    have HO := Lib.hid hO
    clear hT hO
    by_cases hlt : k < out.length
    · obtain ⟨b, off, cap', q, c, hp, e1, e2, hin, lb⟩ := (HV.out.later (HT.out.below.mono (Nat.le_refl _))).at hlt
      obtain rfl : p = some ⟨b, off, none⟩ := by cases hp; rfl
      have k1 : (k : Int) < (out.length : Int) := by omega
      have hlk : ((out.take k).map blM).length = k := by rw [List.length_map, List.length_take]; omega
      have hal := HA.out _ (List.getElem_mem hlt)
      have HB1 : Hid (blM out[k] = zerM out[k].c (min out[k].a.length 5)) := Lib.hid rfl
      obtain ⟨W1, hW1⟩ : ∃ W, W = wo.alloc (.cells #[.int .u8 out[k].c.toNat, .slice q out[k].a.length c] 45) := ⟨_, rfl⟩
      have N1 : W1.heap[wo.heap.size]? = some (.cells #[.int .u8 out[k].c.toNat, .slice q out[k].a.length c] 45 (0, 0)) := by rw [hW1]; exact heap_alloc_new _ _
      have b1 : Below wo.heap.size wo W1 := by rw [hW1]; exact (Below.refl _ _).alloc (Nat.le_refl _) _
      have B1 := Lib.hid b1
      have q0 := cell_two0 N1
      have q1 := cell_two1 N1
      have l1 := lt_of_block N1
      have hrow := HO.out.row
      rw [hlk] at hrow
      have HR := Lib.hid (l_own_later hrow b1)
      have hvl := owns_lt hrow
      have HVl := Lib.hid hvl
      obtain ⟨cn, hcn⟩ : ∃ cn : Nat, out[k].c.toNat = cn := ⟨_, rfl⟩
      have HCn := Lib.hid hcn
      obtain ⟨al, hal2⟩ : ∃ al, out[k].a.length = al := ⟨_, rfl⟩
      rw [hcn] at e1 q0 hW1
      rw [hal2] at e2 q1 hW1 HB1 hal
      obtain ⟨n0, hn0⟩ : ∃ n0, min al 5 = n0 := ⟨_, rfl⟩
      have hmin : min (al : Int) 5 = (n0 : Int) := by omega
      rw [hn0] at HB1
      have hn5 : n0 ≤ 5 := by omega
      have hmk := made_run n0 (by omega)
      clear hp hin N1 b1 hcn hal2 hrow hvl hn0
      go_wp2_with fail
      rw [← hW1]
      clear hW1
      go_wp2_with fail
      obtain ⟨M, hM⟩ : ∃ M : Obj, M = .cells #[.int .u8 cn, .slice (some ⟨W1.heap.size, 0, none⟩) n0 n0] 43 := ⟨_, rfl⟩
      have P1 : Hid (((W1.alloc (.cells (zeros n0) 3)).alloc M).drew.ownsRow w.heap.size 43 2 u3 k (modC ((out.take k).map blM) vs)) := Lib.hid ((HR.out.alloc _).alloc _)
      have P2 : Hid (((W1.alloc (.cells (zeros n0) 3)).alloc M).drew.ownsRow wo.heap.size 3 1 (.slice (some ⟨W1.heap.size, 0, none⟩) n0 n0) n0 (valsL (List.replicate n0 0))) := Lib.hid ((zer_own W1 n0 wo.heap.size (by omega) B1.out.size).alloc M)
      have P3 : Hid (Below wo.heap.size wo ((W1.alloc (.cells (zeros n0) 3)).alloc M).drew) := Lib.hid ((B1.out.alloc B1.out.size _).alloc (by have := B1.out.size; simp; omega) _).drew
      rw [hM] at P1 P2 P3
      have hz := B1.out.size
      clear hM
      go_region_law? (first
          | (refine step_append_own _ rfl (.tmp 17) (.tmp 23) 23 rfl w.heap.size 43 j0 (.agg #[.int .u8 0, .slice none 0 0]) 2 32 Tryz.underlying23 hj hy0 hy1 hy2 rfl (by decide) u3 k (modC ((out.take k).map blM) vs) rfl P1.out ⟨W1.heap.size + 1, 0, none⟩ 1 1 [.int .u8 cn, .slice (some ⟨W1.heap.size, 0, none⟩) n0 n0] rfl rfl (fun j u h => by have h9 := two_new (W1.alloc (.cells (zeros n0) 3)) _ _ 43 j u h; simpa using h9) (by simp [Value.oneCell']) (by rw [HM.out]; omega) (by omega) (by simp; omega) ?_
             intro v2 w2 ho2 hg2 hn2 hb2))
      all_goals
        have T1 := Lib.hid (blAt_step hlt HT.out HO.out P3.out P2.out HB1.out (by rw [HCn.out]; exact ho2) hg2 hb2)
        clear ho2 hg2 hn2 hb2
        go_wp2_with fail
        go_roundw
        case rel => exact ⟨k + 1, by go_num, T1.out⟩
        case measure => simp [intOf]; omega
    · have hk : k = out.length := by omega
      have HX := Lib.hid hk
      have hm : ¬ (k : Int) < (out.length : Int) := by omega
      clear hk hlt
      go_wp2_with fail
      go_ret
      exact ⟨_, rfl, HT.out.below, vs, by have h9 := HO.out; rw [HX.out, List.take_length] at h9; exact h9⟩
end Go.Proofs.YtkjjehnfibfngaaGreatDoor
