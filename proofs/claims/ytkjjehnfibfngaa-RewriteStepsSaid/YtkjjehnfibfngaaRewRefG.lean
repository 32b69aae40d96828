/-
  What the reference's Great hands back.
-/
import Derived.Test.YtkjjehnfibfngaaRewRefE
namespace Go.Proofs.Ytkjjehnfibfngaa
open Go.RowKit
open WM RM
set_option linter.unusedVariables false
set_option linter.unusedSimpArgs false

/-- Is a shape, a rule too great? -/
def shG (s : Sh) : Bool := decide (10 < s.a.length) || s.a.any fun g => decide (10 < g.cs.length)
def rwG (r : Rw) : Bool := decide (10 < r.gs.length) || decide (30 < r.out.length) || r.gs.any (fun g => decide (10 < g.cs.length)) || r.out.any shG
theorem greatR_eq (l : List Rw) : greatR l = (decide (50 < l.length) || l.any rwG) := rfl
theorem greatR_len {l : List Rw} (h : 50 < l.length) : greatR l = true := by rw [greatR_eq]; simp [h]
theorem greatR_at {l : List Rw} {i : Nat} (hi : i < l.length) (h : rwG l[i] = true) : greatR l = true := by
  rw [greatR_eq, show l.any rwG = true from List.any_eq_true.2 ⟨_, List.getElem_mem hi, h⟩]; simp
theorem greatR_not {l : List Rw} (h1 : ¬ 50 < l.length) (h : ∀ i, (hi : i < l.length) → rwG l[i] = false) : greatR l = false := by
  have : l.any rwG = false := by
    rw [List.any_eq_false]
    intro x hx
    obtain ⟨j, hj, rfl⟩ := List.mem_iff_getElem.1 hx
    rw [h j hj]; decide
  rw [greatR_eq, this]; simpa using h1
theorem rwG_1 {r : Rw} (h : 10 < r.gs.length) : rwG r = true := by simp [rwG, h]
theorem rwG_2 {r : Rw} (h : 30 < r.out.length) : rwG r = true := by simp [rwG, h]
theorem rwG_3 {r : Rw} {k : Nat} (hk : k < r.gs.length) (h : 10 < r.gs[k].cs.length) : rwG r = true := by
  have : r.gs.any (fun g => decide (10 < g.cs.length)) = true := List.any_eq_true.2 ⟨_, List.getElem_mem hk, by simpa using h⟩
  unfold rwG; rw [this]; simp
theorem rwG_4 {r : Rw} {k : Nat} (hk : k < r.out.length) (h : shG r.out[k] = true) : rwG r = true := by
  have : r.out.any shG = true := List.any_eq_true.2 ⟨_, List.getElem_mem hk, h⟩
  unfold rwG; rw [this]; simp
theorem shG_1 {s : Sh} (h : 10 < s.a.length) : shG s = true := by simp [shG, h]
theorem shG_2 {s : Sh} {k : Nat} (hk : k < s.a.length) (h : 10 < s.a[k].cs.length) : shG s = true := by
  have : s.a.any (fun g => decide (10 < g.cs.length)) = true := List.any_eq_true.2 ⟨_, List.getElem_mem hk, by simpa using h⟩
  unfold shG; rw [this]; simp
theorem shG_no {s : Sh} (h1 : ¬ 10 < s.a.length) (h : ∀ k, (hk : k < s.a.length) → ¬ 10 < s.a[k].cs.length) : shG s = false := by
  have : s.a.any (fun g => decide (10 < g.cs.length)) = false := by
    rw [List.any_eq_false]
    intro x hx
    obtain ⟨j, hj, rfl⟩ := List.mem_iff_getElem.1 hx
    simpa using h j hj
  unfold shG; rw [this]; simpa using h1
theorem rwG_no {r : Rw} (h1 : ¬ 10 < r.gs.length) (h2 : ¬ 30 < r.out.length) (h3 : ∀ k, (hk : k < r.gs.length) → ¬ 10 < r.gs[k].cs.length) (h4 : ∀ k, (hk : k < r.out.length) → shG r.out[k] = false) : rwG r = false := by
  have a : r.gs.any (fun g => decide (10 < g.cs.length)) = false := by
    rw [List.any_eq_false]
    intro x hx
    obtain ⟨j, hj, rfl⟩ := List.mem_iff_getElem.1 hx
    simpa using h3 j hj
  have b : r.out.any shG = false := by
    rw [List.any_eq_false]
    intro x hx
    obtain ⟨j, hj, rfl⟩ := List.mem_iff_getElem.1 hx
    rw [h4 j hj]; decide
  unfold rwG; rw [a, b]; simp; omega
theorem upto_step {α : Prop} {n k : Nat} {P : Nat → Prop} (h : ∀ j, j < n → j < k → P j) (hk : P k) : ∀ j, j < n → j < k + 1 → P j := by
  intro j hj h2
  rcases Nat.lt_or_eq_of_le (Nat.le_of_lt_succ h2) with h3 | h3
  · exact h j hj h3
  · subst h3; exact hk
set_option maxRecDepth 100000 in
set_option maxHeartbeats 6400000 in
theorem refgreat_any (v : Value) (l : List Rw) (hmax : l.length ≤ 9223372036854775807) (w : World) (hv : Rws w v l) :
    Calls Try.prog 5 #[v] w fun e w' => e = .returned (.bool (greatR l)) ∧ w = w' := by
  obtain ⟨p, cap, rfl⟩ := hv.slice
  have HV := Lib.hid hv
  clear hv
  by_cases h50 : 50 < l.length
  · have HF := Lib.hid (greatR_len h50)
    have c1 : (50 : Int) < (l.length : Int) := by omega
    go_enter Try.func5, Try.ntmps5
    go_wp2_with fail
    go_ret
    exact ⟨ret_bool HF.out.symm, rfl⟩
  · have c1 : ¬ (50 : Int) < (l.length : Int) := by omega
    go_enter Try.func5, Try.ntmps5
    go_wp2_with fail
    go_loop [3] (fun i => ∃ k : Nat, k ≤ l.length ∧ i = .int .i64 k ∧ ∀ j, (hj : j < l.length) → j < k → rwG l[j] = false) (fun i => l.length - (intOf i).toNat)
    case atStart => exact ⟨0, Nat.zero_le _, rfl, fun j _ h => by omega⟩
    case round =>
      obtain ⟨i, hi, rfl, hok⟩ := hrel
      have HK := Lib.hid hok
      clear hok
      by_cases hlt : i < l.length
      · obtain ⟨b, off, cap', g, gc, o, oc, hp, lb, hat⟩ := HV.out.at hlt
        obtain rfl : p = some ⟨b, off, none⟩ := by cases hp; rfl
        have e4 := hat.c4
        have e6 := hat.c6
        have HGs := Lib.hid hat.gs
        have HOs := Lib.hid hat.out
        have k1 : (i : Int) < (l.length : Int) := by omega
        have HAt := Lib.hid (fun h => greatR_at hlt h)
        have HNx : Hid (rwG l[i] = false → ∀ j, (hj : j < l.length) → j < i + 1 → rwG l[j] = false) := Lib.hid (fun hn j hj h => by
          rcases Nat.lt_or_eq_of_le (Nat.le_of_lt_succ h) with h3 | h3
          · exact HK.out j hj h3
          · subst h3; exact hn)
        clear hp hat
        generalize l[i] = r at e4 e6 HGs HOs HAt HNx
        by_cases hg : 10 < r.gs.length
        · have HF := Lib.hid (HAt.out (rwG_1 hg))
          have c2 : (10 : Int) < (r.gs.length : Int) := by omega
          go_wp2_with fail
          go_ret
          exact ⟨ret_bool HF.out.symm, rfl⟩
        by_cases ho : 30 < r.out.length
        · have HF := Lib.hid (HAt.out (rwG_2 ho))
          have c2 : ¬ (10 : Int) < (r.gs.length : Int) := by omega
          have c3 : (30 : Int) < (r.out.length : Int) := by omega
          go_wp2_with fail
          go_ret
          exact ⟨ret_bool HF.out.symm, rfl⟩
        have c2 : ¬ (10 : Int) < (r.gs.length : Int) := by omega
        have c3 : ¬ (30 : Int) < (r.out.length : Int) := by omega
        go_wp2_with fail
        go_loop [4] (fun i' => ∃ k : Nat, k ≤ r.gs.length ∧ i' = .int .i64 k ∧ ∀ j, (hj : j < r.gs.length) → j < k → ¬ 10 < r.gs[j].cs.length) (fun i' => r.gs.length - (intOf i').toNat)
        case atStart => exact ⟨0, Nat.zero_le _, rfl, fun j _ h => by omega⟩
        case round =>
          obtain ⟨k, hk, rfl, hok⟩ := hrel
          have HGK := Lib.hid hok
          clear hok
          by_cases hkl : k < r.gs.length
          · obtain ⟨b2, off2, cap2, pf, cf, hp2, f0, f1, -, lb2⟩ := HGs.out.at hkl
            obtain rfl : g = some ⟨b2, off2, none⟩ := by cases hp2; rfl
            have k2 : (k : Int) < (r.gs.length : Int) := by omega
            clear hp2
            by_cases h10 : 10 < r.gs[k].cs.length
            · have HF := Lib.hid (HAt.out (rwG_3 hkl h10))
              have c4 : (10 : Int) < (r.gs[k].cs.length : Int) := by omega
              generalize r.gs[k].cs.length = n at f1 c4
              go_wp2_with fail
              go_ret
              exact ⟨ret_bool HF.out.symm, rfl⟩
            · have c4 : ¬ (10 : Int) < (r.gs[k].cs.length : Int) := by omega
              have HN : Hid (∀ j, (hj : j < r.gs.length) → j < k + 1 → ¬ 10 < r.gs[j].cs.length) := Lib.hid (fun j hj h => by
                rcases Nat.lt_or_eq_of_le (Nat.le_of_lt_succ h) with h3 | h3
                · exact HGK.out j hj h3
                · subst h3; exact h10)
              clear h10
              generalize r.gs[k].cs.length = n at f1 c4
              go_wp2_with fail
              go_round
              case rel => exact ⟨k + 1, by omega, by go_num, HN.out⟩
              case measure => simp [intOf]; omega
          · obtain rfl : k = r.gs.length := by omega
            have k2 : ¬ (r.gs.length : Int) < (r.gs.length : Int) := by omega
            go_wp2_with fail
            go_loop [5] (fun i' => ∃ k : Nat, k ≤ r.out.length ∧ i' = .int .i64 k ∧ ∀ j, (hj : j < r.out.length) → j < k → shG r.out[j] = false) (fun i' => r.out.length - (intOf i').toNat)
            case atStart => exact ⟨0, Nat.zero_le _, rfl, fun j _ h => by omega⟩
            case round =>
              obtain ⟨k, hk2, rfl, hok⟩ := hrel
              have HOK := Lib.hid hok
              clear hok
              by_cases hkl : k < r.out.length
              · obtain ⟨b2, off2, cap2, pf, cf, hp2, f0, f1, hin, lb2⟩ := HOs.out.at hkl
                obtain rfl : o = some ⟨b2, off2, none⟩ := by cases hp2; rfl
                have k3 : (k : Int) < (r.out.length : Int) := by omega
                have HFs := Lib.hid hin
                have HA2 := Lib.hid (fun h => HAt.out (rwG_4 hkl h))
                have HN2 : Hid (shG r.out[k] = false → ∀ j, (hj : j < r.out.length) → j < k + 1 → shG r.out[j] = false) := Lib.hid (fun hn j hj h => by
                  rcases Nat.lt_or_eq_of_le (Nat.le_of_lt_succ h) with h3 | h3
                  · exact HOK.out j hj h3
                  · subst h3; exact hn)
                clear hp2 hin
                generalize r.out[k] = s at f0 f1 HFs HA2 HN2
                by_cases h10 : 10 < s.a.length
                · have HF := Lib.hid (HA2.out (shG_1 h10))
                  have c4 : (10 : Int) < (s.a.length : Int) := by omega
                  go_wp2_with fail
                  go_ret
                  exact ⟨ret_bool HF.out.symm, rfl⟩
                · have c4 : ¬ (10 : Int) < (s.a.length : Int) := by omega
                  go_wp2_with fail
                  go_loop [6] (fun i' => ∃ n : Nat, n ≤ s.a.length ∧ i' = .int .i64 n ∧ ∀ j, (hj : j < s.a.length) → j < n → ¬ 10 < s.a[j].cs.length) (fun i' => s.a.length - (intOf i').toNat)
                  case atStart => exact ⟨0, Nat.zero_le _, rfl, fun j _ h => by omega⟩
                  case round =>
                    obtain ⟨n, hn, rfl, hok⟩ := hrel
                    have HSK := Lib.hid hok
                    clear hok
                    by_cases hnl : n < s.a.length
                    · obtain ⟨b3, off3, cap3, pg, cg, hp3, g0, g1, -, lb3⟩ := HFs.out.at hnl
                      obtain rfl : pf = some ⟨b3, off3, none⟩ := by cases hp3; rfl
                      have k4 : (n : Int) < (s.a.length : Int) := by omega
                      clear hp3
                      by_cases hx : 10 < s.a[n].cs.length
                      · have HF := Lib.hid (HA2.out (shG_2 hnl hx))
                        have c5 : (10 : Int) < (s.a[n].cs.length : Int) := by omega
                        generalize s.a[n].cs.length = z at g1 c5
                        go_wp2_with fail
                        go_ret
                        exact ⟨ret_bool HF.out.symm, rfl⟩
                      · have c5 : ¬ (10 : Int) < (s.a[n].cs.length : Int) := by omega
                        have HN : Hid (∀ j, (hj : j < s.a.length) → j < n + 1 → ¬ 10 < s.a[j].cs.length) := Lib.hid (fun j hj h => by
                          rcases Nat.lt_or_eq_of_le (Nat.le_of_lt_succ h) with h3 | h3
                          · exact HSK.out j hj h3
                          · subst h3; exact hx)
                        clear hx
                        generalize s.a[n].cs.length = z at g1 c5
                        go_wp2_with fail
                        go_round
                        case rel => exact ⟨n + 1, by omega, by go_num, HN.out⟩
                        case measure => simp [intOf]; omega
                    · obtain rfl : n = s.a.length := by omega
                      have k4 : ¬ (s.a.length : Int) < (s.a.length : Int) := by omega
                      have HN := Lib.hid (HN2.out (shG_no h10 (fun j hj => HSK.out j hj hj)))
                      go_wp2_with fail
                      go_round
                      case rel => exact ⟨k + 1, by omega, by go_num, HN.out⟩
                      case measure => simp [intOf]; omega
              · obtain rfl : k = r.out.length := by omega
                have k3 : ¬ (r.out.length : Int) < (r.out.length : Int) := by omega
                have HN := Lib.hid (HNx.out (rwG_no hg ho (fun j hj => HGK.out j hj hj) (fun j hj => HOK.out j hj hj)))
                go_wp2_with fail
                go_round
                case rel => exact ⟨i + 1, by omega, by go_num, HN.out⟩
                case measure => simp [intOf]; omega
      · obtain rfl : i = l.length := by omega
        have HF := Lib.hid (greatR_not h50 (fun i hi => HK.out i hi hi))
        go_wp2_with fail
        go_ret
        exact ⟨ret_bool HF.out.symm, rfl⟩
/-- Rules that are not great are small. -/
theorem greatR_sm {l : List Rw} (h : greatR l = false) : l.length ≤ 50 ∧ ∀ r ∈ l, RwSm r := by
  rw [greatR_eq, Bool.or_eq_false_iff] at h
  refine ⟨by simpa using h.1, fun r hr => ?_⟩
  have h2 := List.any_eq_false.1 h.2 r hr
  have h3 : rwG r = false := by simpa using h2
  unfold rwG at h3
  simp only [Bool.or_eq_false_iff, decide_eq_false_iff_not] at h3
  obtain ⟨⟨⟨a, b⟩, c⟩, d⟩ := h3
  refine ⟨by omega, by omega, fun f hf => ?_, fun s hs => ?_⟩
  · have := List.any_eq_false.1 c f hf
    simpa using this
  · have := List.any_eq_false.1 d s hs
    have h4 : shG s = false := by simpa using this
    unfold shG at h4
    simp only [Bool.or_eq_false_iff, decide_eq_false_iff_not] at h4
    refine ⟨by omega, fun f hf => ?_⟩
    have := List.any_eq_false.1 h4.2 f hf
    simpa using this
end Go.Proofs.Ytkjjehnfibfngaa
