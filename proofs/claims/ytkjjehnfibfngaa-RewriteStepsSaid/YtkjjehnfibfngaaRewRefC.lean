/-
  What the reference's Value, First and Many hand back.
-/
import Derived.Test.YtkjjehnfibfngaaRewRefB
namespace Go.Proofs.Ytkjjehnfibfngaa
open Go.RowKit
open WM RM
set_option linter.unusedVariables false
set_option linter.unusedSimpArgs false

theorem va_bad {f : Fm} {x : List Int} (h : 4 < x.length ∨ formB f (x.length : Int) = false ∨ fineB ⟨70, x⟩ = false) : vaC f x = 8 ∧ vaV f x = 0 := by
  have e : vaC f x = 8 := by unfold vaC; rw [if_pos h]
  exact ⟨e, by unfold vaV; rw [e]; rfl⟩
theorem va_good {f : Fm} {x : List Int} (h1 : ¬ 4 < x.length) (h2 : formB f (x.length : Int) = true) (h3 : fineB ⟨70, x⟩ = true) :
    (¬ (-1000000000 ≤ worth f x ∧ worth f x ≤ 1000000000) → vaC f x = 16 ∧ vaV f x = 0) ∧ ((-1000000000 ≤ worth f x ∧ worth f x ≤ 1000000000) → vaC f x = 0 ∧ vaV f x = worth f x) := by
  have e : vaC f x = if -1000000000 ≤ worth f x ∧ worth f x ≤ 1000000000 then 0 else 16 := by
    unfold vaC; rw [if_neg (by rw [h2, h3]; simp [h1])]
  constructor
  · intro h
    rw [if_neg h] at e
    exact ⟨e, by unfold vaV; rw [e]; rfl⟩
  · intro h
    rw [if_pos h] at e
    exact ⟨e, by unfold vaV; rw [e]; rfl⟩
theorem rret_two {a b c d : Int} (h1 : a = c) (h2 : b = d) : Ending.returned (.tuple #[.int .i64 a, .int .i64 b]) = .returned (.tuple #[.int .i64 c, .int .i64 d]) := by rw [h1, h2]
set_option maxRecDepth 100000 in
set_option maxHeartbeats 3200000 in
theorem refvalue_any (f : Fm) (x : List Int) (v u : Value) (hm : f.cs.length ≤ 9223372036854775807) (hx : x.length ≤ 9223372036854775807) (w : World) (h1 : Ints w v f.cs) (h2 : Ints w u x) :
    Calls Try.prog 7 #[.agg #[.int .i64 f.k, v], u] w fun e w' => e = .returned (.tuple #[.int .i64 (vaV f x), .int .i64 (vaC f x)]) ∧ Below w.heap.size w w' := by
  obtain ⟨p, cap, rfl⟩ := h1.slice
  obtain ⟨p2, cap2, rfl⟩ := h2.slice
  obtain ⟨W0, hW0⟩ : ∃ W, W = w.alloc (.cells #[.int .i64 f.k, .slice p f.cs.length cap] 25) := ⟨_, rfl⟩
  have N0 : W0.heap[w.heap.size]? = some (.cells #[.int .i64 f.k, .slice p f.cs.length cap] 25 (0, 0)) := by rw [hW0]; exact heap_alloc_new _ _
  have B0 : Below w.heap.size w W0 := by rw [hW0]; exact (Below.refl _ _).alloc (Nat.le_refl _) _
  have HB := Lib.hid B0
  have H1 := Lib.hid (h1.later B0)
  have H2 := Lib.hid (h2.later B0)
  have q0 := cell_two0 N0
  have q1 := cell_two1 N0
  have l1 := lt_of_block N0
  have KF := Lib.hid (fun w h => refform_any f (.slice p f.cs.length cap) (x.length : Int) hm w h)
  have KI : Hid (∀ w, Ints w (.slice p2 x.length cap2) x → Calls Try.prog 24 #[.agg #[.int .u8 70, .slice p2 x.length cap2]] w fun e w' => e = .returned (.bool (fineB ⟨70, x⟩)) ∧ Below w.heap.size w w') := Lib.hid (fun w h => fine_any ⟨70, x⟩ _ hx w h)
  clear N0 B0 h1 h2
  by_cases c4 : 4 < x.length
  · have HV := Lib.hid (va_bad (f := f) (.inl c4))
    have c4' : (4 : Int) < (x.length : Int) := by omega
    go_enter Try.func7, Try.ntmps7
    go_wp2_with fail
    rw [← hW0]
    clear hW0
    go_wp2_with fail
    go_ret2
    exact ⟨rret_two HV.out.2.symm HV.out.1.symm, HB.out⟩
  have c4' : ¬ (4 : Int) < (x.length : Int) := by omega
  cases hf : formB f (x.length : Int) with
  | false =>
    have HV := Lib.hid (va_bad (f := f) (.inr (.inl hf)))
    rw [hf] at KF
    clear hf
    go_enter Try.func7, Try.ntmps7
    go_wp2_with fail
    rw [← hW0]
    clear hW0
    go_wp2_with fail
    refine (KF.out _ H1.out).mono ?_
    rintro e w1 ⟨rfl, hb⟩
    have B1 := Lib.hid (HB.out.trans (hb.mono HB.out.size))
    clear hb
    go_wp2_with fail
    go_ret2
    exact ⟨rret_two HV.out.2.symm HV.out.1.symm, B1.out⟩
  | true =>
    cases hi : fineB ⟨70, x⟩ with
    | false =>
      have HV := Lib.hid (va_bad (f := f) (.inr (.inr hi)))
      rw [hf] at KF
      rw [hi] at KI
      clear hf hi
      go_enter Try.func7, Try.ntmps7
      go_wp2_with fail
      rw [← hW0]
      clear hW0
      go_wp2_with fail
      refine (KF.out _ H1.out).mono ?_
      rintro e w1 ⟨rfl, hb⟩
      have B1 := Lib.hid (HB.out.trans (hb.mono HB.out.size))
      have H3 := Lib.hid (H2.out.later hb)
      clear hb
      go_wp2_with fail
      refine (KI.out _ H3.out).mono ?_
      rintro e w2 ⟨rfl, hb⟩
      have B2 := Lib.hid (B1.out.trans (hb.mono B1.out.size))
      clear hb
      go_wp2_with fail
      go_ret2
      exact ⟨rret_two HV.out.2.symm HV.out.1.symm, B2.out⟩
    | true =>
      have HV := Lib.hid (va_good c4 hf hi)
      have KW := Lib.hid (fun w h h' => refworth_any f x (.slice p f.cs.length cap) (.slice p2 x.length cap2) hf (by omega) (fine_args4 hi).2 w h h')
      rw [hf] at KF
      rw [hi] at KI
      clear hf hi
      obtain ⟨z, hz⟩ : ∃ z, worth f x = z := ⟨_, rfl⟩
      rw [hz] at KW HV
      clear hz
      go_enter Try.func7, Try.ntmps7
      go_wp2_with fail
      rw [← hW0]
      clear hW0
      go_wp2_with fail
      refine (KF.out _ H1.out).mono ?_
      rintro e w1 ⟨rfl, hb⟩
      have D1 := Lib.hid hb
      clear hb
      go_wp2_with fail
      refine (KI.out _ (H2.out.later D1.out)).mono ?_
      rintro e w2 ⟨rfl, hb⟩
      have D2 := Lib.hid (D1.out.trans (hb.mono D1.out.size))
      have y0 := (D2.out.cell (p := ⟨w.heap.size, 0, none⟩) l1).trans q0
      have y1 := (D2.out.cell (p := ⟨w.heap.size, 1, none⟩) l1).trans q1
      clear hb
      go_wp2_with fail
      refine (KW.out _ (H1.out.later D2.out) (H2.out.later D2.out)).mono ?_
      rintro e w3 ⟨rfl, hb⟩
      have B3 := Lib.hid (HB.out.trans ((D2.out.trans (hb.mono D2.out.size)).mono HB.out.size))
      clear hb
      by_cases z1 : z < -1000000000
      · have HV := Lib.hid (HV.out.1 (by omega))
        go_wp2_with fail
        go_ret2
        exact ⟨rret_two HV.out.2.symm HV.out.1.symm, B3.out⟩
      · by_cases z2 : 1000000000 < z
        · have HV := Lib.hid (HV.out.1 (by omega))
          go_wp2_with fail
          go_ret2
          exact ⟨rret_two HV.out.2.symm HV.out.1.symm, B3.out⟩
        · have HV := Lib.hid (HV.out.2 (by omega))
          go_wp2_with fail
          go_ret2
          exact ⟨rret_two HV.out.2.symm HV.out.1.symm, B3.out⟩
/-! ### Many -/
theorem many_len {l : List Rw} (h : 40 < l.length) : manyB l = true := by simp [manyB, h]
theorem many_at {l : List Rw} {k : Nat} (hk : k < l.length) (h : 4 < l[k].gs.length ∨ 20 < l[k].out.length) : manyB l = true := by
  have : (l.any fun r => decide (4 < r.gs.length) || decide (20 < r.out.length)) = true := by
    rw [List.any_eq_true]
    exact ⟨_, List.getElem_mem hk, by simpa using h⟩
  unfold manyB
  rw [this]; simp
theorem many_not {l : List Rw} (h1 : ¬ 40 < l.length) (h : ∀ k, (hk : k < l.length) → ¬ 4 < l[k].gs.length ∧ ¬ 20 < l[k].out.length) : manyB l = false := by
  have : (l.any fun r => decide (4 < r.gs.length) || decide (20 < r.out.length)) = false := by
    rw [List.any_eq_false]
    intro x hx
    obtain ⟨j, hj, rfl⟩ := List.mem_iff_getElem.1 hx
    have := h j hj
    simp; omega
  unfold manyB
  rw [this]; simpa using h1
theorem many_no {l : List Rw} (h : manyB l = false) : l.length ≤ 40 ∧ ∀ r ∈ l, r.gs.length ≤ 4 ∧ r.out.length ≤ 20 := by
  unfold manyB at h
  rw [Bool.or_eq_false_iff] at h
  refine ⟨by simpa using h.1, fun r hr => ?_⟩
  have := List.any_eq_false.1 h.2 r hr
  simpa using this
set_option maxRecDepth 100000 in
set_option maxHeartbeats 1600000 in
theorem refmany_any (v : Value) (l : List Rw) (hmax : l.length ≤ 9223372036854775807) (w : World) (hv : Rws w v l) :
    Calls Try.prog 30 #[v] w fun e w' => e = .returned (.bool (manyB l)) ∧ w = w' := by
  obtain ⟨p, cap, rfl⟩ := hv.slice
  have HV := Lib.hid hv
  clear hv
  by_cases h40 : 40 < l.length
  · have HF := Lib.hid (many_len h40)
    have c1 : (40 : Int) < (l.length : Int) := by omega
    go_enter Try.func30, Try.ntmps30
    go_wp2_with fail
    go_ret
    exact ⟨ret_bool HF.out.symm, rfl⟩
  · have c1 : ¬ (40 : Int) < (l.length : Int) := by omega
    go_enter Try.func30, Try.ntmps30
    go_wp2_with fail
    go_loop [3] (fun i => ∃ k : Nat, k ≤ l.length ∧ i = .int .i64 k ∧ ∀ j, (hj : j < l.length) → j < k → ¬ 4 < l[j].gs.length ∧ ¬ 20 < l[j].out.length) (fun i => l.length - (intOf i).toNat)
    case atStart => exact ⟨0, Nat.zero_le _, rfl, fun j _ h => by omega⟩
    case round =>
      obtain ⟨k, hk, rfl, hok⟩ := hrel
      have HK := Lib.hid hok
      clear hok
      by_cases hlt : k < l.length
      · obtain ⟨b, off, cap', g, gc, o, oc, hp, lb, hat⟩ := HV.out.at hlt
        obtain rfl : p = some ⟨b, off, none⟩ := by cases hp; rfl
        have e4 := hat.c4
        have e6 := hat.c6
        have k1 : (k : Int) < (l.length : Int) := by omega
        clear hp hat
        by_cases h4 : 4 < l[k].gs.length
        · have HF := Lib.hid (many_at hlt (.inl h4))
          have c4 : (4 : Int) < (l[k].gs.length : Int) := by omega
          obtain ⟨n, hn⟩ : ∃ n, l[k].gs.length = n := ⟨_, rfl⟩
          rw [hn] at e4 c4
          clear hn h4
          go_wp2_with fail
          go_ret
          exact ⟨ret_bool HF.out.symm, rfl⟩
        · have c4 : ¬ (4 : Int) < (l[k].gs.length : Int) := by omega
          by_cases h20 : 20 < l[k].out.length
          · have HF := Lib.hid (many_at hlt (.inr h20))
            have c5 : (20 : Int) < (l[k].out.length : Int) := by omega
            obtain ⟨n, hn⟩ : ∃ n, l[k].gs.length = n := ⟨_, rfl⟩
            rw [hn] at e4 c4
            obtain ⟨m, hm⟩ : ∃ m, l[k].out.length = m := ⟨_, rfl⟩
            rw [hm] at e6 c5
            clear hn hm h4 h20
            go_wp2_with fail
            go_ret
            exact ⟨ret_bool HF.out.symm, rfl⟩
          · have c5 : ¬ (20 : Int) < (l[k].out.length : Int) := by omega
            have HG : Hid (∀ j, (hj : j < l.length) → j < k + 1 → ¬ 4 < l[j].gs.length ∧ ¬ 20 < l[j].out.length) := Lib.hid (fun j hj h => by
              rcases Nat.lt_or_eq_of_le (Nat.le_of_lt_succ h) with h1 | h1
              · exact HK.out j hj h1
              · subst h1; exact ⟨h4, h20⟩)
            obtain ⟨n, hn⟩ : ∃ n, l[k].gs.length = n := ⟨_, rfl⟩
            rw [hn] at e4 c4
            obtain ⟨m, hm⟩ : ∃ m, l[k].out.length = m := ⟨_, rfl⟩
            rw [hm] at e6 c5
            clear hn hm h4 h20
            go_wp2_with fail
            go_round
            case rel => exact ⟨k + 1, by omega, by go_num, HG.out⟩
            case measure => simp [intOf]; omega
      · obtain rfl : k = l.length := by omega
        have HF := Lib.hid (many_not h40 (fun i hi => HK.out i hi hi))
        go_wp2_with fail
        go_ret
        exact ⟨ret_bool HF.out.symm, rfl⟩
end Go.Proofs.Ytkjjehnfibfngaa
