/-
  What the reference's SameModules, Same and Count hand back.
-/
import Derived.Test.YtkjjehnfibfngaaWordRefB
import Derived.Lib.QuietBelow
namespace Go.Proofs.Ytkjjehnfibfngaa
open Go.RowKit
open WM
set_option linter.unusedVariables false
set_option linter.unusedSimpArgs false

theorem md_ext {a b : Md} (h1 : a.c = b.c) (h2 : a.a = b.a) : a = b := by cases a; cases b; simp_all
theorem u8_ne {x y : UInt8} : ((x.toNat : Int) != (y.toNat : Int)) = !(x == y) := by rw [← u8_eq]; rfl
set_option maxHeartbeats 1600000 in
theorem samemod_any (a b : Md) (v1 v2 : Value) (h1 : a.a.length ≤ 9223372036854775807) (h2 : b.a.length ≤ 9223372036854775807) (w : World) (i1 : Ints w v1 a.a) (i2 : Ints w v2 b.a) :
    Calls Try.prog 36 #[.agg #[.int .u8 a.c.toNat, v1], .agg #[.int .u8 b.c.toNat, v2]] w fun e w' => e = .returned (.bool (decide (a = b))) ∧ Below w.heap.size w w' := by
  obtain ⟨p1, cap1, rfl⟩ := i1.slice
  obtain ⟨p2, cap2, rfl⟩ := i2.slice
  obtain ⟨W0, hW0⟩ : ∃ W, W = (w.alloc (.cells #[.int .u8 a.c.toNat, .slice p1 a.a.length cap1] 27)).alloc (.cells #[.int .u8 b.c.toNat, .slice p2 b.a.length cap2] 27) := ⟨_, rfl⟩
  have N1 : W0.heap[w.heap.size]? = some (.cells #[.int .u8 a.c.toNat, .slice p1 a.a.length cap1] 27 (0, 0)) := by rw [hW0]; exact heap_alloc_old (heap_alloc_new _ _) _
  have N2 : W0.heap[w.heap.size + 1]? = some (.cells #[.int .u8 b.c.toNat, .slice p2 b.a.length cap2] 27 (0, 0)) := by
    have := heap_alloc_new (w.alloc (.cells #[.int .u8 a.c.toNat, .slice p1 a.a.length cap1] 27)) (.cells #[.int .u8 b.c.toNat, .slice p2 b.a.length cap2] 27)
    rw [hW0]; simpa using this
  have B0 : Below w.heap.size w W0 := by rw [hW0]; exact ((Below.refl _ _).alloc (Nat.le_refl _) _).alloc (by simp) _
  have HB := Lib.hid B0
  have HI1 := Lib.hid (i1.later B0)
  have HI2 := Lib.hid (i2.later B0)
  have q0 := cell_two0 N1
  have q1 := cell_two1 N1
  have q2 := cell_two0 N2
  have q3 := cell_two1 N2
  have l1 := lt_of_block N1
  have l2 := lt_of_block N2
  clear N1 N2 B0 i1 i2
  by_cases hc : a.c = b.c
  · have t1 : ((a.c.toNat : Int) != (b.c.toNat : Int)) = false := by rw [hc]; simp
    by_cases hl : a.a.length = b.a.length
    · have HC := Lib.hid hc
      obtain ⟨n, hn⟩ : ∃ n, a.a.length = n := ⟨_, rfl⟩
      have hn2 : b.a.length = n := by omega
      have HN1 := Lib.hid hn
      have HN2 := Lib.hid hn2
      rw [hn] at q1 HI1 hW0 h1 ⊢
      rw [hn2] at q3 HI2 hW0 ⊢
      clear hn hn2 hl hc h2
      generalize a.c.toNat = ca at q0 t1 hW0 ⊢
      generalize b.c.toNat = cb at q2 t1 hW0 ⊢
      go_enter Try.func36, Try.ntmps36
      go_wp2_with fail
      rw [← hW0]
      clear hW0
      go_wp2_with fail
      go_loopw [5] (fun i wr => ∃ k q : Nat, k ≤ n ∧ i = .int .i64 k ∧ wr = W0.drewN q ∧ ∀ j, (hj : j < a.a.length) → (hj2 : j < b.a.length) → j < k → a.a[j] = b.a[j]) (fun i _ => n - (intOf i).toNat)
      case atStart => exact ⟨0, 0, Nat.zero_le _, rfl, rfl, fun j _ _ h => by omega⟩
      case round =>
        obtain ⟨k, q, hk, rfl, rfl, hok⟩ := hrel
        have HK := Lib.hid hok
        clear hok
        by_cases hlt : k < n
        · have ha : k < a.a.length := by rw [HN1.out]; exact hlt
          have hb : k < b.a.length := by rw [HN2.out]; exact hlt
          obtain ⟨b1, o1, c1, hp1, e1, lb1⟩ := HI1.out.at ha
          obtain ⟨b2, o2, c2, hp2, e2, lb2⟩ := HI2.out.at hb
          rw [HN1.out] at hp1
          rw [HN2.out] at hp2
          obtain rfl : p1 = some ⟨b1, o1, none⟩ := by cases hp1; rfl
          obtain rfl : p2 = some ⟨b2, o2, none⟩ := by cases hp2; rfl
          obtain ⟨x, hx⟩ : ∃ x, a.a[k] = x := ⟨_, rfl⟩
          obtain ⟨y, hy⟩ : ∃ y, b.a[k] = y := ⟨_, rfl⟩
          have HX := Lib.hid hx
          have HY := Lib.hid hy
          rw [hx] at e1
          rw [hy] at e2
          have k1 : (k : Int) < (n : Int) := by omega
          clear hx hy hp1 hp2
          by_cases hxy : x = y
          · have HG : Hid (∀ j, (hj : j < a.a.length) → (hj2 : j < b.a.length) → j < k + 1 → a.a[j] = b.a[j]) := Lib.hid (fun j hj hj2 h => by
              rcases Nat.lt_or_eq_of_le (Nat.le_of_lt_succ h) with h1 | h1
              · exact HK.out j hj hj2 h1
              · subst h1; rw [HX.out, HY.out]; exact hxy)
            subst hxy
            go_wp2_with fail
            go_quiet (fail)
            go_wp2_with fail
            go_roundw
            case rel => exact ⟨k + 1, _, by omega, by go_num, rfl, HG.out⟩
            case measure => simp [intOf]; omega
          · have t2 : (x != y) = true := by rw [bne_iff_ne]; exact hxy
            have HF : Hid (decide (a = b) = false) := Lib.hid (decide_eq_false (fun e => by
              have e3 := HX.out
              subst e
              exact hxy (e3.symm.trans HY.out)))
            go_wp2_with fail
            go_quiet (fail)
            go_wp2_with fail
            go_ret
            exact ⟨ret_bool HF.out.symm, below_drewN (below_drewN HB.out _) _⟩
        · obtain rfl : k = n := by omega
          have HF : Hid (decide (a = b) = true) := Lib.hid (decide_eq_true (md_ext HC.out (by
            apply List.ext_getElem (by rw [HN1.out, HN2.out])
            intro j h1 h2; exact HK.out j h1 h2 (by rw [HN1.out] at h1; exact h1))))
          go_wp2_with fail
          go_ret
          exact ⟨ret_bool HF.out.symm, below_drewN HB.out _⟩
    · have t2 : ((a.a.length : Int) != (b.a.length : Int)) = true := by rw [bne_iff_ne]; omega
      have HF : Hid (decide (a = b) = false) := Lib.hid (decide_eq_false (fun e => hl (by rw [e])))
      clear hc hl
      go_enter Try.func36, Try.ntmps36
      go_wp2_with fail
      rw [← hW0]
      clear hW0
      go_wp2_with fail
      go_ret
      exact ⟨ret_bool HF.out.symm, HB.out⟩
  · have t1 : ((a.c.toNat : Int) != (b.c.toNat : Int)) = true := by rw [u8_ne]; simp [hc]
    have HF : Hid (decide (a = b) = false) := Lib.hid (decide_eq_false (fun e => hc (by rw [e])))
    clear hc
    go_enter Try.func36, Try.ntmps36
    go_wp2_with fail
    rw [← hW0]
    clear hW0
    go_wp2_with fail
    go_ret
    exact ⟨ret_bool HF.out.symm, HB.out⟩

theorem same_at {a b : List Md} {k : Nat} (h1 : k < a.length) (h2 : k < b.length) (h : a[k] ≠ b[k]) : decide (a = b) = false := decide_eq_false (fun e => by subst e; exact h rfl)
set_option maxHeartbeats 1600000 in
theorem same_any (v1 v2 : Value) (a b : List Md) (h1 : a.length ≤ 9223372036854775807) (h2 : b.length ≤ 9223372036854775807) (g1 : ∀ m ∈ a, m.a.length ≤ 9223372036854775807) (g2 : ∀ m ∈ b, m.a.length ≤ 9223372036854775807)
    (w : World) (i1 : Mods w v1 a) (i2 : Mods w v2 b) :
    Calls Try.prog 18 #[v1, v2] w fun e w' => e = .returned (.bool (decide (a = b))) ∧ Below w.heap.size w w' := by
  obtain ⟨p1, cap1, rfl⟩ := i1.slice
  obtain ⟨p2, cap2, rfl⟩ := i2.slice
  have HI1 := Lib.hid i1
  have HI2 := Lib.hid i2
  have HG1 := Lib.hid g1
  have HG2 := Lib.hid g2
  clear i1 i2 g1 g2
  by_cases hl : a.length = b.length
  · obtain ⟨n, hn⟩ : ∃ n, a.length = n := ⟨_, rfl⟩
    have hn2 : b.length = n := by omega
    have HN1 := Lib.hid hn
    have HN2 := Lib.hid hn2
    rw [hn] at HI1 h1 ⊢
    rw [hn2] at HI2 ⊢
    clear hn hn2 hl h2
    go_enter Try.func18, Try.ntmps18
    go_wp2_with fail
    go_loopw [5] (fun i wr => ∃ k : Nat, k ≤ n ∧ i = .int .i64 k ∧ Below w.heap.size w wr ∧ ∀ j, (hj : j < a.length) → (hj2 : j < b.length) → j < k → a[j] = b[j]) (fun i _ => n - (intOf i).toNat)
    case atStart => exact ⟨0, Nat.zero_le _, rfl, Below.refl _ _, fun j _ _ h => by omega⟩
    case round =>
      obtain ⟨k, hk, rfl, hb, hok⟩ := hrel
      have HK := Lib.hid hok
      have HB := Lib.hid hb
      clear hok hb
      by_cases hlt : k < n
      · have ha : k < a.length := by rw [HN1.out]; exact hlt
        have hb : k < b.length := by rw [HN2.out]; exact hlt
        obtain ⟨b1, o1, c1, q1, d1, hp1, e1, f1, j1, lb1⟩ := (HI1.out.later (HB.out.mono (Nat.le_refl _))).at ha
        obtain ⟨b2, o2, c2, q2, d2, hp2, e2, f2, j2, lb2⟩ := (HI2.out.later (HB.out.mono (Nat.le_refl _))).at hb
        rw [HN1.out] at hp1
        rw [HN2.out] at hp2
        obtain rfl : p1 = some ⟨b1, o1, none⟩ := by cases hp1; rfl
        obtain rfl : p2 = some ⟨b2, o2, none⟩ := by cases hp2; rfl
        have k1 : (k : Int) < (n : Int) := by omega
        have hx1 := HG1.out _ (List.getElem_mem ha)
        have hx2 := HG2.out _ (List.getElem_mem hb)
        have HC : Hid (∀ (d : Nat) (os : Array Obj), Calls Try.prog 36 #[.agg #[.int .u8 a[k].c.toNat, .slice q1 a[k].a.length d1], .agg #[.int .u8 b[k].c.toNat, .slice q2 b[k].a.length d2]] («Sort».grow (redrawn wr d) os) fun e w' =>
            e = .returned (.bool (decide (a[k] = b[k]))) ∧ Below («Sort».grow (redrawn wr d) os).heap.size («Sort».grow (redrawn wr d) os) w') :=
          Lib.hid (fun d os => samemod_any a[k] b[k] _ _ hx1 hx2 _ (j1.later (below_regrown wr d os)) (j2.later (below_regrown wr d os)))
        obtain ⟨t, ht⟩ : ∃ t, decide (a[k] = b[k]) = t := ⟨_, rfl⟩
        have HT := Lib.hid ht
        rw [ht] at HC
        clear hp1 hp2 j1 j2 ht hx1 hx2
        generalize a[k].c.toNat = ca at e1 HC
        generalize b[k].c.toNat = cb at e2 HC
        generalize a[k].a.length = la at f1 HC
        generalize b[k].a.length = lb at f2 HC
        have r1 := fun d os => cell_regrown e1 d os
        have r2 := fun d os => cell_regrown f1 d os
        have r3 := fun d os => cell_regrown e2 d os
        have r4 := fun d os => cell_regrown f2 d os
        go_wp2_with fail
        refine wp_region_quiet_below (by kernel_rfl) (by kernel_rfl) ?_
        repeat (any_goals (first | go_big_quiet_step ((go_at_call 36; exact Calls.regrown_of (HC.out _ _))) | quiet_step ((go_at_call 36; exact Calls.regrown_of (HC.out _ _)))))
        refine wpQuiet_nil ?_
        intro _ hw'
        obtain ⟨⟨dq, osq⟩, hw''⟩ := hw'
        subst hw''
        have HB2 : Hid (Below w.heap.size w («Sort».grow (redrawn wr dq) osq)) := Lib.hid (HB.out.trans ((below_regrown wr dq osq).mono HB.out.size))
        cases t with
        | true =>
          have HG : Hid (∀ j, (hj : j < a.length) → (hj2 : j < b.length) → j < k + 1 → a[j] = b[j]) := Lib.hid (fun j hj hj2 h => by
            rcases Nat.lt_or_eq_of_le (Nat.le_of_lt_succ h) with h1 | h1
            · exact HK.out j hj hj2 h1
            · subst h1; exact of_decide_eq_true HT.out)
          go_wp2_with fail
          go_roundw
          case rel => exact ⟨k + 1, by omega, by go_num, HB2.out, HG.out⟩
          case measure => simp [intOf]; omega
        | false =>
          have HF := Lib.hid (same_at ha hb (of_decide_eq_false HT.out))
          go_wp2_with fail
          go_ret
          exact ⟨ret_bool HF.out.symm, HB2.out⟩
      · obtain rfl : k = n := by omega
        have HF : Hid (decide (a = b) = true) := Lib.hid (decide_eq_true (by
          apply List.ext_getElem (by rw [HN1.out, HN2.out])
          intro j h1 h2; exact HK.out j h1 h2 (by rw [HN1.out] at h1; exact h1)))
        go_wp2_with fail
        go_ret
        exact ⟨ret_bool HF.out.symm, HB.out⟩
  · have t2 : ((a.length : Int) != (b.length : Int)) = true := by rw [bne_iff_ne]; omega
    have HF : Hid (decide (a = b) = false) := Lib.hid (decide_eq_false (fun e => hl (by rw [e])))
    clear hl
    go_enter Try.func18, Try.ntmps18
    go_wp2_with fail
    go_ret
    exact ⟨ret_bool HF.out.symm, Below.refl _ _⟩
end Go.Proofs.Ytkjjehnfibfngaa
