/-
  Texts of the proof, merged: ZRewRefG, ZRewRefS, ZRewRefU, ZRewStM, ZRewPrK, ZRewGiven.
-/
import Derived.Test.YtkjjehnfibfngaaGreatDoorZRewriteStillProofM7
import Derived.Test.YtkjjehnfibfngaaGreatDoorZRewriteStillProofM8
import Derived.Deep.RegionHeld3
import Derived.Test.YtkjjehnfibfngaaGreatDoorZRewriteStillProofM6
import Derived.Test.YtkjjehnfibfngaaGreatDoorZRewriteStillProofM9
namespace Go.Proofs.YtkjjehnfibfngaaGreatDoor
open Go.RowKit
open WM RM
set_option linter.unusedVariables false
set_option linter.unusedSimpArgs false

/-- Is a shape, a rule too great? -/
def shG (s : Sh) : Bool := decide (10 < s.a.length) || s.a.any fun g => decide (10 < g.cs.length)
def rwG (r : Rw) : Bool := decide (10 < r.gs.length) || decide (30 < r.out.length) || r.gs.any (fun g => decide (10 < g.cs.length)) || r.out.any shG
theorem greatR_eq (l : List Rw) : greatR l = (decide (50 < l.length) || l.any rwG) := rfl
theorem greatR_len {l : List Rw} (h : 50 < l.length) : greatR l = true := by rw [greatR_eq]; simp [h]
theorem greatR_at {l : List Rw} {i : Nat} (hi : i < l.length) (h : rwG l[i] = true) : greatR l = true := by
  rw [greatR_eq, show l.any rwG = true from List.any_eq_true.2 ⟨_, List.getElem_mem hi, h⟩]; simp
theorem greatR_not {l : List Rw} (h1 : ¬ 50 < l.length) (h : ∀ i, (hi : i < l.length) → rwG l[i] = false) : greatR l = false := by
  have : l.any rwG = false := by
    rw [List.any_eq_false]
    intro x hx
    obtain ⟨j, hj, rfl⟩ := List.mem_iff_getElem.1 hx
    rw [h j hj]; decide
  rw [greatR_eq, this]; simpa using h1
theorem rwG_1 {r : Rw} (h : 10 < r.gs.length) : rwG r = true := by simp [rwG, h]
theorem rwG_2 {r : Rw} (h : 30 < r.out.length) : rwG r = true := by simp [rwG, h]
theorem rwG_3 {r : Rw} {k : Nat} (hk : k < r.gs.length) (h : 10 < r.gs[k].cs.length) : rwG r = true := by
  have : r.gs.any (fun g => decide (10 < g.cs.length)) = true := List.any_eq_true.2 ⟨_, List.getElem_mem hk, by simpa using h⟩
  unfold rwG; rw [this]; simp
theorem rwG_4 {r : Rw} {k : Nat} (hk : k < r.out.length) (h : shG r.out[k] = true) : rwG r = true := by
  have : r.out.any shG = true := List.any_eq_true.2 ⟨_, List.getElem_mem hk, h⟩
  unfold rwG; rw [this]; simp
theorem shG_1 {s : Sh} (h : 10 < s.a.length) : shG s = true := by simp [shG, h]
theorem shG_2 {s : Sh} {k : Nat} (hk : k < s.a.length) (h : 10 < s.a[k].cs.length) : shG s = true := by
  have : s.a.any (fun g => decide (10 < g.cs.length)) = true := List.any_eq_true.2 ⟨_, List.getElem_mem hk, by simpa using h⟩
  unfold shG; rw [this]; simp
theorem shG_no {s : Sh} (h1 : ¬ 10 < s.a.length) (h : ∀ k, (hk : k < s.a.length) → ¬ 10 < s.a[k].cs.length) : shG s = false := by
  have : s.a.any (fun g => decide (10 < g.cs.length)) = false := by
    rw [List.any_eq_false]
    intro x hx
    obtain ⟨j, hj, rfl⟩ := List.mem_iff_getElem.1 hx
    simpa using h j hj
  unfold shG; rw [this]; simpa using h1
theorem rwG_no {r : Rw} (h1 : ¬ 10 < r.gs.length) (h2 : ¬ 30 < r.out.length) (h3 : ∀ k, (hk : k < r.gs.length) → ¬ 10 < r.gs[k].cs.length) (h4 : ∀ k, (hk : k < r.out.length) → shG r.out[k] = false) : rwG r = false := by
  have a : r.gs.any (fun g => decide (10 < g.cs.length)) = false := by
    rw [List.any_eq_false]
    intro x hx
    obtain ⟨j, hj, rfl⟩ := List.mem_iff_getElem.1 hx
    simpa using h3 j hj
  have b : r.out.any shG = false := by
    rw [List.any_eq_false]
    intro x hx
    obtain ⟨j, hj, rfl⟩ := List.mem_iff_getElem.1 hx
    rw [h4 j hj]; decide
  unfold rwG; rw [a, b]; simp; omega
theorem upto_step {α : Prop} {n k : Nat} {P : Nat → Prop} (h : ∀ j, j < n → j < k → P j) (hk : P k) : ∀ j, j < n → j < k + 1 → P j := by
  intro j hj h2
  rcases Nat.lt_or_eq_of_le (Nat.le_of_lt_succ h2) with h3 | h3
  · exact h j hj h3
  · subst h3; exact hk
set_option maxRecDepth 100000 in
set_option maxHeartbeats 6400000 in
theorem refgreat_any (v : Value) (l : List Rw) (hmax : l.length ≤ 9223372036854775807) (w : World) (hv : Rws w v l) :
    Calls Tryz.prog 17 #[v] w fun e w' => e = .returned (.bool (greatR l)) ∧ w = w' := by
  obtain ⟨p, cap, rfl⟩ := hv.slice
  have HV := Lib.hid hv
  clear hv
  by_cases h50 : 50 < l.length
  · have HF := Lib.hid (greatR_len h50)
    have c1 : (50 : Int) < (l.length : Int) := by omega
    go_enter Tryz.func17, Tryz.ntmps17
    go_wp2_with fail
    go_ret
    exact ⟨ret_bool HF.out.symm, rfl⟩
  · have c1 : ¬ (50 : Int) < (l.length : Int) := by omega
    go_enter Tryz.func17, Tryz.ntmps17
    go_wp2_with fail
    go_loop [3] (fun i => ∃ k : Nat, k ≤ l.length ∧ i = .int .i64 k ∧ ∀ j, (hj : j < l.length) → j < k → rwG l[j] = false) (fun i => l.length - (intOf i).toNat)
    case atStart => exact ⟨0, Nat.zero_le _, rfl, fun j _ h => by omega⟩
    case round =>
      obtain ⟨i, hi, rfl, hok⟩ := hrel
      have HK := Lib.hid hok
      clear hok
      by_cases hlt : i < l.length
      · obtain ⟨b, off, cap', g, gc, o, oc, hp, lb, hat⟩ := HV.out.at hlt
        obtain rfl : p = some ⟨b, off, none⟩ := by cases hp; rfl
        have e4 := hat.c4
        have e6 := hat.c6
        have HGs := Lib.hid hat.gs
        have HOs := Lib.hid hat.out
        have k1 : (i : Int) < (l.length : Int) := by omega
        have HAt := Lib.hid (fun h => greatR_at hlt h)
        have HNx : Hid (rwG l[i] = false → ∀ j, (hj : j < l.length) → j < i + 1 → rwG l[j] = false) := Lib.hid (fun hn j hj h => by
          rcases Nat.lt_or_eq_of_le (Nat.le_of_lt_succ h) with h3 | h3
          · exact HK.out j hj h3
          · subst h3; exact hn)
        clear hp hat
        generalize l[i] = r at e4 e6 HGs HOs HAt HNx
        by_cases hg : 10 < r.gs.length
        · have HF := Lib.hid (HAt.out (rwG_1 hg))
          have c2 : (10 : Int) < (r.gs.length : Int) := by omega
          go_wp2_with fail
          go_ret
          exact ⟨ret_bool HF.out.symm, rfl⟩
        by_cases ho : 30 < r.out.length
        · have HF := Lib.hid (HAt.out (rwG_2 ho))
          have c2 : ¬ (10 : Int) < (r.gs.length : Int) := by omega
          have c3 : (30 : Int) < (r.out.length : Int) := by omega
          go_wp2_with fail
          go_ret
          exact ⟨ret_bool HF.out.symm, rfl⟩
        have c2 : ¬ (10 : Int) < (r.gs.length : Int) := by omega
        have c3 : ¬ (30 : Int) < (r.out.length : Int) := by omega
        go_wp2_with fail
        go_loop [4] (fun i' => ∃ k : Nat, k ≤ r.gs.length ∧ i' = .int .i64 k ∧ ∀ j, (hj : j < r.gs.length) → j < k → ¬ 10 < r.gs[j].cs.length) (fun i' => r.gs.length - (intOf i').toNat)
        case atStart => exact ⟨0, Nat.zero_le _, rfl, fun j _ h => by omega⟩
        case round =>
          obtain ⟨k, hk, rfl, hok⟩ := hrel
          have HGK := Lib.hid hok
          clear hok
          by_cases hkl : k < r.gs.length
          · obtain ⟨b2, off2, cap2, pf, cf, hp2, f0, f1, -, lb2⟩ := HGs.out.at hkl
            obtain rfl : g = some ⟨b2, off2, none⟩ := by cases hp2; rfl
            have k2 : (k : Int) < (r.gs.length : Int) := by omega
            clear hp2
            by_cases h10 : 10 < r.gs[k].cs.length
            · have HF := Lib.hid (HAt.out (rwG_3 hkl h10))
              have c4 : (10 : Int) < (r.gs[k].cs.length : Int) := by omega
              generalize r.gs[k].cs.length = n at f1 c4
              go_wp2_with fail
              go_ret
              exact ⟨ret_bool HF.out.symm, rfl⟩
            · have c4 : ¬ (10 : Int) < (r.gs[k].cs.length : Int) := by omega
              have HN : Hid (∀ j, (hj : j < r.gs.length) → j < k + 1 → ¬ 10 < r.gs[j].cs.length) := Lib.hid (fun j hj h => by
                rcases Nat.lt_or_eq_of_le (Nat.le_of_lt_succ h) with h3 | h3
                · exact HGK.out j hj h3
                · subst h3; exact h10)
              clear h10
              generalize r.gs[k].cs.length = n at f1 c4
              go_wp2_with fail
              go_round
              case rel => exact ⟨k + 1, by omega, by go_num, HN.out⟩
              case measure => simp [intOf]; omega
          · obtain rfl : k = r.gs.length := by omega
            have k2 : ¬ (r.gs.length : Int) < (r.gs.length : Int) := by omega
            go_wp2_with fail
            go_loop [5] (fun i' => ∃ k : Nat, k ≤ r.out.length ∧ i' = .int .i64 k ∧ ∀ j, (hj : j < r.out.length) → j < k → shG r.out[j] = false) (fun i' => r.out.length - (intOf i').toNat)
            case atStart => exact ⟨0, Nat.zero_le _, rfl, fun j _ h => by omega⟩
            case round =>
              obtain ⟨k, hk2, rfl, hok⟩ := hrel
              have HOK := Lib.hid hok
              clear hok
              by_cases hkl : k < r.out.length
              · obtain ⟨b2, off2, cap2, pf, cf, hp2, f0, f1, hin, lb2⟩ := HOs.out.at hkl
                obtain rfl : o = some ⟨b2, off2, none⟩ := by cases hp2; rfl
                have k3 : (k : Int) < (r.out.length : Int) := by omega
                have HFs := Lib.hid hin
                have HA2 := Lib.hid (fun h => HAt.out (rwG_4 hkl h))
                have HN2 : Hid (shG r.out[k] = false → ∀ j, (hj : j < r.out.length) → j < k + 1 → shG r.out[j] = false) := Lib.hid (fun hn j hj h => by
                  rcases Nat.lt_or_eq_of_le (Nat.le_of_lt_succ h) with h3 | h3
                  · exact HOK.out j hj h3
                  · subst h3; exact hn)
                clear hp2 hin
                generalize r.out[k] = s at f0 f1 HFs HA2 HN2
                by_cases h10 : 10 < s.a.length
                · have HF := Lib.hid (HA2.out (shG_1 h10))
                  have c4 : (10 : Int) < (s.a.length : Int) := by omega
                  go_wp2_with fail
                  go_ret
                  exact ⟨ret_bool HF.out.symm, rfl⟩
                · have c4 : ¬ (10 : Int) < (s.a.length : Int) := by omega
                  go_wp2_with fail
                  go_loop [6] (fun i' => ∃ n : Nat, n ≤ s.a.length ∧ i' = .int .i64 n ∧ ∀ j, (hj : j < s.a.length) → j < n → ¬ 10 < s.a[j].cs.length) (fun i' => s.a.length - (intOf i').toNat)
                  case atStart => exact ⟨0, Nat.zero_le _, rfl, fun j _ h => by omega⟩
                  case round =>
                    obtain ⟨n, hn, rfl, hok⟩ := hrel
                    have HSK := Lib.hid hok
                    clear hok
                    by_cases hnl : n < s.a.length
                    · obtain ⟨b3, off3, cap3, pg, cg, hp3, g0, g1, -, lb3⟩ := HFs.out.at hnl
                      obtain rfl : pf = some ⟨b3, off3, none⟩ := by cases hp3; rfl
                      have k4 : (n : Int) < (s.a.length : Int) := by omega
                      clear hp3
                      by_cases hx : 10 < s.a[n].cs.length
                      · have HF := Lib.hid (HA2.out (shG_2 hnl hx))
                        have c5 : (10 : Int) < (s.a[n].cs.length : Int) := by omega
                        generalize s.a[n].cs.length = z at g1 c5
                        go_wp2_with fail
                        go_ret
                        exact ⟨ret_bool HF.out.symm, rfl⟩
                      · have c5 : ¬ (10 : Int) < (s.a[n].cs.length : Int) := by omega
                        have HN : Hid (∀ j, (hj : j < s.a.length) → j < n + 1 → ¬ 10 < s.a[j].cs.length) := Lib.hid (fun j hj h => by
                          rcases Nat.lt_or_eq_of_le (Nat.le_of_lt_succ h) with h3 | h3
                          · exact HSK.out j hj h3
                          · subst h3; exact hx)
                        clear hx
                        generalize s.a[n].cs.length = z at g1 c5
                        go_wp2_with fail
                        go_round
                        case rel => exact ⟨n + 1, by omega, by go_num, HN.out⟩
                        case measure => simp [intOf]; omega
                    · obtain rfl : n = s.a.length := by omega
                      have k4 : ¬ (s.a.length : Int) < (s.a.length : Int) := by omega
                      have HN := Lib.hid (HN2.out (shG_no h10 (fun j hj => HSK.out j hj hj)))
                      go_wp2_with fail
                      go_round
                      case rel => exact ⟨k + 1, by omega, by go_num, HN.out⟩
                      case measure => simp [intOf]; omega
              · obtain rfl : k = r.out.length := by omega
                have k3 : ¬ (r.out.length : Int) < (r.out.length : Int) := by omega
                have HN := Lib.hid (HNx.out (rwG_no hg ho (fun j hj => HGK.out j hj hj) (fun j hj => HOK.out j hj hj)))
                go_wp2_with fail
                go_round
                case rel => exact ⟨i + 1, by omega, by go_num, HN.out⟩
                case measure => simp [intOf]; omega
      · obtain rfl : i = l.length := by omega
        have HF := Lib.hid (greatR_not h50 (fun i hi => HK.out i hi hi))
        go_wp2_with fail
        go_ret
        exact ⟨ret_bool HF.out.symm, rfl⟩
/-- Rules that are not great are small. -/
theorem greatR_sm {l : List Rw} (h : greatR l = false) : l.length ≤ 50 ∧ ∀ r ∈ l, RwSm r := by
  rw [greatR_eq, Bool.or_eq_false_iff] at h
  refine ⟨by simpa using h.1, fun r hr => ?_⟩
  have h2 := List.any_eq_false.1 h.2 r hr
  have h3 : rwG r = false := by simpa using h2
  unfold rwG at h3
  simp only [Bool.or_eq_false_iff, decide_eq_false_iff_not] at h3
  obtain ⟨⟨⟨a, b⟩, c⟩, d⟩ := h3
  refine ⟨by omega, by omega, fun f hf => ?_, fun s hs => ?_⟩
  · have := List.any_eq_false.1 c f hf
    simpa using this
  · have := List.any_eq_false.1 d s hs
    have h4 : shG s = false := by simpa using this
    unfold shG at h4
    simp only [Bool.or_eq_false_iff, decide_eq_false_iff_not] at h4
    refine ⟨by omega, fun f hf => ?_⟩
    have := List.any_eq_false.1 h4.2 f hf
    simpa using this
end Go.Proofs.YtkjjehnfibfngaaGreatDoor
namespace Go.Proofs.YtkjjehnfibfngaaGreatDoor
open Go.RowKit
open WM RM
set_option linter.unusedVariables false
set_option linter.unusedSimpArgs false

theorem st_chain {X Y Z : World} (h : Below X.heap.size X Y) (h2 : Below Y.heap.size Y Z) : Below X.heap.size X Z := h.trans (h2.mono h.size)
theorem st_keep2 {W w' : World} {b c : Nat} (h1 : b < W.heap.size) (h2 : c < W.heap.size) (hb : Below W.heap.size W w') : (∀ o, w'.cell? ⟨b, o, none⟩ = W.cell? ⟨b, o, none⟩) ∧ (∀ o, w'.cell? ⟨c, o, none⟩ = W.cell? ⟨c, o, none⟩) :=
  ⟨fun o => hb.cell (p := ⟨b, o, none⟩) h1, fun o => hb.cell (p := ⟨c, o, none⟩) h2⟩
theorem own_sl {w : World} {base n size : Nat} {e : TypeId} {v : Value} {xs : List Value} (h : w.ownsRow base e size v n xs) : ∃ p c, v = .slice p n c := by
  rcases h.2 with ⟨h1, h2⟩ | ⟨g, cap, cur, h1, _⟩
  · exact ⟨none, 0, by rw [h1, h2]⟩
  · exact ⟨_, _, h1⟩
theorem mods_at1 {w : World} {b off len cap c2 : Nat} {l : List Md} (h : Mods w (.slice (some ⟨b, off, none⟩) len cap) l) {k : Nat} (hk : k < l.length) : Mods w (.slice (some ⟨b, off + k * 2, none⟩) 1 c2) [l[k]] := by
  cases h with
  | none _ _ => simp at hk
  | some _ _ _ _ hpos hb hx =>
    refine .some b (off + k * 2) c2 [l[k]] (by simp) hb fun i hi => ?_
    have : i = 0 := by simp at hi; omega
    subst this
    obtain ⟨h1, v, h2, h3, h4⟩ := hx k hk
    exact ⟨by simpa using h1, v, by simpa using h2, h3, h4⟩
theorem modFr_of_own {w : World} {base : Nat} {v : Value} {l : List Md} {vs : List Value} (h : ModOwn w base v l vs) : ModFr w base v l vs :=
  ⟨h.len, h.row, fun k hk hk2 => ⟨(h.args k hk hk2).own, .inr (h.args k hk hk2).apart⟩⟩
theorem stepL_snoc {l : List Rw} {w : List Md} {k : Nat} (hk : k < w.length) {d : List Md} (h : stepL l (w.take k) = some d) : stepL l (w.take (k + 1)) = (succM l w[k]).map (d ++ ·) := by
  rw [List.take_succ_eq_append_getElem hk, stepL_app, h, stepL_one]
  cases succM l w[k] <;> rfl
theorem stepL_stop {l : List Rw} {w : List Md} {k : Nat} (hk : k < w.length) {d : List Md} (h : stepL l (w.take k) = some d) (hn : succM l w[k] = none) : stepL l w = none := by
  have h1 : stepL l (w.take (k + 1)) = none := by rw [stepL_snoc hk h, hn]; rfl
  have e : w = w.take (k + 1) ++ w.drop (k + 1) := (List.take_append_drop _ _).symm
  rw [e, stepL_app, h1]
theorem succ_self {l : List Rw} {m : Md} (h : first l m < 0) : succM l m = some [m] := by unfold succM; rw [dif_neg (by omega)]
theorem succ_made {l : List Rw} {m : Md} {k : Nat} (h : first l m = (k : Int)) (hk : k < l.length) : succM l m = made l[k] m := by
  unfold succM
  rw [dif_pos (by omega)]
  have : (first l m).toNat = k := by omega
  rw [this, List.getElem?_eq_getElem hk]
theorem first_fit {l : List Rw} {m : Md} : ∀ {k : Nat}, first l m = (k : Int) → ∃ hk : k < l.length, fitB l[k] m = true := by
  have key : ∀ (l : List Rw) (i : Int) (k : Nat), firstF l m i = i + k → 0 ≤ i → ∃ hk : k < l.length, fitB l[k] m = true := by
    intro l
    induction l with
    | nil => intro i k h h0; simp [firstF] at h; omega
    | cons r l ih =>
      intro i k h h0
      unfold firstF at h
      by_cases hf : fitB r m = true
      · rw [if_pos hf] at h
        obtain rfl : k = 0 := by omega
        exact ⟨by simp, hf⟩
      · rw [if_neg hf] at h
        cases k with
        | zero =>
          exfalso
          rcases firstF_rng l m (i + 1) with h2 | ⟨h2, _⟩
          · omega
          · omega
        | succ k =>
          obtain ⟨hk, h3⟩ := ih (i + 1) k (by omega) (by omega)
          exact ⟨by simp; omega, by simpa using h3⟩
  intro k h
  exact key l 0 k (by unfold first at h; omega) (by omega)
theorem fit_ar {r : Rw} {m : Md} (h : fitB r m = true) : r.ar = (m.a.length : Int) := by
  unfold fitB at h
  simp only [Bool.and_eq_true, decide_eq_true_eq] at h
  exact h.1.2
theorem rule_forms {r : Rw} (h : ruleB r = true) : ∀ s ∈ r.out, ∀ f ∈ s.a, formB f r.ar = true := by
  unfold ruleB at h
  simp only [Bool.and_eq_true] at h
  intro s hs f hf
  have h1 := List.all_eq_true.1 h.1.2 s hs
  unfold shB at h1
  simp only [Bool.and_eq_true] at h1
  exact List.all_eq_true.1 h1.2 f hf
theorem chk_fine1 {l : List Md} (h : chk l = 0) {k : Nat} (hk : k < l.length) : fineB l[k] = true := List.all_eq_true.1 (chk_zero.1 h).2.1 _ (List.getElem_mem hk)
theorem st_rules {l : List Rw} {w : List Md} (h : rchk l ≠ 0) : stC l w = rchk l ∧ stL l w = [] := by
  have e : stC l w = rchk l := by unfold stC; rw [if_pos h]
  exact ⟨e, by unfold stL; rw [e, if_neg h]⟩
theorem st_word {l : List Rw} {w : List Md} (h : rchk l = 0) (h2 : chk w ≠ 0) : stC l w = chk w ∧ stL l w = [] := by
  have e : stC l w = chk w := by unfold stC; rw [if_neg (by simp [h]), if_pos h2]
  exact ⟨e, by unfold stL; rw [e, if_neg h2]⟩
theorem st_none {l : List Rw} {w : List Md} (h : rchk l = 0) (h2 : chk w = 0) (h3 : stepL l w = none) : stC l w = 16 ∧ stL l w = [] := by
  have e : stC l w = 16 := by unfold stC; rw [if_neg (by simp [h]), if_neg (by simp [h2]), h3]
  exact ⟨e, by unfold stL; rw [e]; rfl⟩
theorem st_many {l : List Rw} {w d : List Md} (h : rchk l = 0) (h2 : chk w = 0) (h3 : stepL l w = some d) (h4 : 2000 < d.length) : stC l w = 4 ∧ stL l w = [] := by
  have e : stC l w = 4 := by unfold stC; rw [if_neg (by simp [h]), if_neg (by simp [h2]), h3]; simp [h4]
  exact ⟨e, by unfold stL; rw [e]; rfl⟩
theorem st_ok {l : List Rw} {w d : List Md} (h : rchk l = 0) (h2 : chk w = 0) (h3 : stepL l w = some d) (h4 : ¬ 2000 < d.length) : stC l w = 0 ∧ stL l w = d := by
  have e : stC l w = 0 := by unfold stC; rw [if_neg (by simp [h]), if_neg (by simp [h2]), h3]; simp; omega
  exact ⟨e, by unfold stL; rw [e, h3]; rfl⟩
/-- How Step ends. -/
def RsEnd (l : List Rw) (wd : List Md) (w : World) (e : Ending) (w' : World) : Prop := ∃ v vs, e = .returned (.tuple #[v, .int .i64 (stC l wd)]) ∧ Below w.heap.size w w' ∧ ModFr w' w.heap.size v (stL l wd) vs
/-- Where the loop stands. -/
structure SAt (w : World) (l : List Rw) (wd : List Md) (k : Nat) (v : Value) (wr : World) : Prop where
  hi : k ≤ wd.length
  below : Below w.heap.size w wr
  own : ∃ d vs, stepL l (wd.take k) = some d ∧ d.length ≤ 20 * k ∧ ModFr wr w.heap.size v d vs
theorem sAt_start (w : World) (l : List Rw) (wd : List Md) : SAt w l wd 0 (.slice none 0 0) w := ⟨Nat.zero_le _, Below.refl _ _, [], [], rfl, by simp, modFr_nil _ _⟩
end Go.Proofs.YtkjjehnfibfngaaGreatDoor
namespace Go.Proofs.YtkjjehnfibfngaaGreatDoor
open Go.RowKit
open WM RM
set_option linter.unusedVariables false
set_option linter.unusedSimpArgs false

theorem succ_args {l : List Rw} (hs : ∀ r ∈ l, RwSm r) {m : Md} (hm : m.a.length ≤ 10) {d : List Md} (h : succM l m = some d) : ∀ x ∈ d, x.a.length ≤ 10 := by
  unfold succM at h
  split at h
  · split at h
    · rename_i r hr
      unfold made at h
      split at h
      · have := Option.some.inj h
        subst this
        intro x hx
        rw [List.mem_map] at hx
        obtain ⟨s, hs2, rfl⟩ := hx
        have := ((hs r (List.mem_of_getElem? hr)).2.2.2 s hs2).1
        simpa [mkM] using this
      · simp at h
    · simp at h
  · have := Option.some.inj h
    subst this
    intro x hx
    rw [List.mem_singleton] at hx
    subst hx; exact hm
theorem stepL_args {l : List Rw} (hs : ∀ r ∈ l, RwSm r) : ∀ (w : List Md) (d : List Md), (∀ m ∈ w, m.a.length ≤ 10) → stepL l w = some d → ∀ x ∈ d, x.a.length ≤ 10
  | [], d, _, h => by simp [stepL] at h; subst h; simp
  | m :: w, d, hw, h => by
    simp only [stepL] at h
    cases h1 : succM l m with
    | none => rw [h1] at h; simp at h
    | some a =>
      cases h2 : stepL l w with
      | none => rw [h1, h2] at h; simp at h
      | some b =>
        rw [h1, h2] at h
        have := Option.some.inj h
        subst this
        intro x hx
        rcases List.mem_append.1 hx with h3 | h3
        · exact succ_args hs (hw m (by simp)) h1 x h3
        · exact stepL_args hs w b (fun y hy => hw y (by simp [hy])) h2 x h3
theorem stL_small {l : List Rw} (hs : ∀ r ∈ l, RwSm r) {w : List Md} (hw : ∀ m ∈ w, m.a.length ≤ 10) : (stL l w).length ≤ 2000 ∧ ∀ m ∈ stL l w, m.a.length ≤ 10 := by
  unfold stL
  by_cases h : stC l w = 0
  · rw [if_pos h]
    cases hd : stepL l w with
    | none => simp
    | some d =>
      refine ⟨?_, stepL_args hs w d hw hd⟩
      unfold stC at h
      rw [hd] at h
      by_cases h1 : rchk l = 0
      · by_cases h2 : chk w = 0
        · simp only [h1, h2, ne_eq, not_true_eq_false, if_false] at h
          show d.length ≤ 2000
          split at h
          · omega
          · omega
        · rw [if_neg (by simp [h1]), if_pos h2] at h; exact absurd h h2
      · rw [if_pos h1] at h; exact absurd h h1
  · rw [if_neg h]; simp
theorem ru_rules {l : List Rw} {w : List Md} {n : Int} (h : rchk l ≠ 0) : ruC l w n = rchk l ∧ ruL l w n = [] := by
  have e : ruC l w n = rchk l := by unfold ruC; rw [if_pos h]
  exact ⟨e, by unfold ruL; rw [e, if_neg h]⟩
theorem ru_word {l : List Rw} {w : List Md} {n : Int} (h : rchk l = 0) (h2 : chk w ≠ 0) : ruC l w n = chk w ∧ ruL l w n = [] := by
  have e : ruC l w n = chk w := by unfold ruC; rw [if_neg (by simp [h]), if_pos h2]
  exact ⟨e, by unfold ruL; rw [e, if_neg h2]⟩
theorem ru_arg {l : List Rw} {w : List Md} {n : Int} (h : rchk l = 0) (h2 : chk w = 0) (h3 : n < 0 ∨ 30 < n) : ruC l w n = 2 ∧ ruL l w n = [] := by
  have e : ruC l w n = 2 := by unfold ruC; rw [if_neg (by simp [h]), if_neg (by simp [h2]), if_pos h3]
  exact ⟨e, by unfold ruL; rw [e]; rfl⟩
theorem ru_run {l : List Rw} {w : List Md} {n : Int} (h : rchk l = 0) (h2 : chk w = 0) (h3 : ¬ (n < 0 ∨ 30 < n)) {c : Int} {u : List Md} (hr : runF l n.toNat w = (c, u)) : ruC l w n = c ∧ ruL l w n = if c = 0 then u else [] := by
  have e : ruC l w n = c := by unfold ruC; rw [if_neg (by simp [h]), if_neg (by simp [h2]), if_neg h3, hr]
  exact ⟨e, by unfold ruL; rw [e, hr]⟩
theorem run_ok {l : List Rw} {u : List Md} {n : Nat} (h : stC l u = 0) : runF l (n + 1) u = runF l n (stL l u) := by rw [runF, if_neg (by simp [h])]
theorem run_no {l : List Rw} {u : List Md} {n : Nat} (h : stC l u ≠ 0) : runF l (n + 1) u = (stC l u, []) := by rw [runF, if_pos h]
theorem own_sl3 {w : World} {base n size : Nat} {e : TypeId} {v : Value} {xs : List Value} (h : w.ownsRow base e size v n xs) : ∃ p c, v = .slice p n c ∧ n ≤ c := by
  rcases h.2 with ⟨h1, h2⟩ | ⟨g, cap, cur, h1, _, _, h3, _⟩
  · exact ⟨none, 0, by rw [h1, h2], by omega⟩
  · exact ⟨_, _, h1, h3⟩
/-- How Run ends. -/
def RuEnd (l : List Rw) (wd : List Md) (n : Int) (w : World) (e : Ending) (w' : World) : Prop := ∃ v vs, e = .returned (.tuple #[v, .int .i64 (ruC l wd n)]) ∧ Below w.heap.size w w' ∧ ModFr w' w.heap.size v (ruL l wd n) vs
/-- Where the loop stands. -/
structure RnAt (w : World) (l : List Rw) (wd : List Md) (n i : Nat) (u : List Md) (v : Value) (wr : World) : Prop where
  hi : i ≤ n
  below : Below w.heap.size w wr
  own : ∃ vs, ModFr wr w.heap.size v u vs
  len : u.length ≤ 2100
  args : ∀ m ∈ u, m.a.length ≤ 10
  eq : runF l n wd = runF l (n - i) u
end Go.Proofs.YtkjjehnfibfngaaGreatDoor
namespace Go.Proofs.YtkjjehnfibfngaaGreatDoor
open WM
set_option linter.unusedVariables false
set_option linter.unusedSimpArgs false
namespace RM
theorem rule_nob {r : Rw} (h : ruleB r = true) : braB r.c = false := by
  unfold ruleB at h
  simp only [Bool.and_eq_true] at h
  simpa using h.1.1.1.1.1.2
theorem rule_chk {r : Rw} (h : ruleB r = true) : chk (r.out.map shM) = 0 := by
  unfold ruleB at h
  simp only [Bool.and_eq_true, decide_eq_true_eq] at h
  exact h.2
theorem rule_shs {r : Rw} (h : ruleB r = true) : ∀ s ∈ r.out, fineB (shM s) = true := by
  unfold ruleB at h
  simp only [Bool.and_eq_true] at h
  intro s hs
  have h1 := List.all_eq_true.1 h.1.2 s hs
  unfold shB at h1
  simp only [Bool.and_eq_true] at h1
  exact h1.1
theorem mk_c (x : List Int) (s : Sh) : (mkM s x).c = (shM s).c := rfl
theorem mk_fine {s : Sh} {x : List Int} (h : fineB (shM s) = true) (hb : mkB s x = true) : fineB (mkM s x) = true := by
  have e : shM s = zerM s.c s.a.length := rfl
  rw [e, fine_zer] at h
  simp only [Bool.and_eq_true, decide_eq_true_eq] at h
  obtain ⟨⟨h1, h2⟩, h3⟩ := h
  have hr : rngB (mkM s x).a = true := by
    unfold rngB mkM
    rw [List.all_map]
    unfold mkB at hb
    rw [List.all_eq_true] at hb ⊢
    intro f hf
    exact hb f hf
  have hl : (mkM s x).a.length = s.a.length := by simp [mkM]
  unfold fineB
  rw [hr, hl]
  have hc : (mkM s x).c = s.c := rfl
  rw [hc, h1]
  simp only [h2, decide_true, Bool.true_and, Bool.and_true]
  exact h3
/-- What holds of a module's successor. -/
structure SucOk (m : Md) (a : List Md) : Prop where
  fine : ∀ x ∈ a, fineB x = true
  dp : dep a = dlt m
  pre : ∀ j, j ≤ a.length → dep (a.take j) = dlt m ∨ 0 ≤ dep (a.take j)
theorem pre_ok {l : List Md} (h : okB l l.length = true) (j : Nat) (hj : j ≤ l.length) : 0 ≤ dep (l.take j) := by
  cases j with
  | zero => simp [dep_nil]
  | succ j => exact okB_iff.1 h j (by omega)
theorem dlt_nob {m : Md} (h : braB m.c = false) : dlt m = 0 := by
  unfold braB at h
  rw [Bool.or_eq_false_iff] at h
  have h1 : m.c ≠ 91 := by simpa using h.1
  have h2 : m.c ≠ 93 := by simpa using h.2
  unfold dlt; rw [if_neg h1, if_neg h2]
theorem first_fits {l : List Rw} {m : Md} : ∀ {k : Nat}, first l m = (k : Int) → ∃ hk : k < l.length, fitB l[k] m = true := by
  have key : ∀ (l : List Rw) (i : Int) (k : Nat), firstF l m i = i + k → 0 ≤ i → ∃ hk : k < l.length, fitB l[k] m = true := by
    intro l
    induction l with
    | nil => intro i k h h0; simp [firstF] at h; omega
    | cons r l ih =>
      intro i k h h0
      unfold firstF at h
      by_cases hf : fitB r m = true
      · rw [if_pos hf] at h
        obtain rfl : k = 0 := by omega
        exact ⟨by simp, hf⟩
      · rw [if_neg hf] at h
        cases k with
        | zero =>
          exfalso
          rcases firstF_rng l m (i + 1) with h2 | ⟨h2, _⟩
          · omega
          · omega
        | succ k =>
          obtain ⟨hk, h3⟩ := ih (i + 1) k (by omega) (by omega)
          exact ⟨by simp; omega, by simpa using h3⟩
  intro k h
  exact key l 0 k (by unfold first at h; omega) (by omega)
theorem suc_ok {l : List Rw} (hl : ∀ r ∈ l, ruleB r = true) {m : Md} (hm : fineB m = true) {a : List Md} (h : succM l m = some a) : SucOk m a := by
  by_cases hz : 0 ≤ first l m
  · obtain ⟨k, hk⟩ : ∃ k : Nat, first l m = (k : Int) := ⟨(first l m).toNat, by omega⟩
    obtain ⟨hkl, hfit⟩ := first_fits hk
    have hs : succM l m = made l[k] m := by
      unfold succM
      rw [dif_pos hz]
      have : (first l m).toNat = k := by omega
      rw [this, List.getElem?_eq_getElem hkl]
    rw [hs] at h
    have hr := hl _ (List.getElem_mem hkl)
    generalize l[k] = r at h hr hfit
    unfold made at h
    split at h
    · rename_i hall
      have ha := (Option.some.inj h).symm
      subst ha
      have hc : braB m.c = false := by
        have : r.c = m.c := by
          unfold fitB at hfit
          simp only [Bool.and_eq_true] at hfit
          simpa using hfit.1.1
        rw [← this]; exact rule_nob hr
      have hd := dlt_nob hc
      obtain ⟨-, -, h3, h4⟩ := chk_zero.1 (rule_chk hr)
      rw [List.length_map] at h3
      have e1 : dep (r.out.map (mkM · m.a)) = 0 := by rw [dep_map (mkM · m.a) shM (fun s => rfl)]; exact h4
      refine ⟨?_, by rw [e1, hd], fun j hj => .inr ?_⟩
      · intro x hx
        obtain ⟨s, hs2, rfl⟩ := List.mem_map.1 hx
        exact mk_fine (rule_shs hr s hs2) (List.all_eq_true.1 hall s hs2)
      · refine pre_ok ?_ j hj
        rw [List.length_map, ok_map (mkM · m.a) shM (fun s => rfl)]
        exact h3
    · simp at h
  · have hs : succM l m = some [m] := by unfold succM; rw [dif_neg hz]
    rw [hs] at h
    have ha := (Option.some.inj h).symm
    subst ha
    refine ⟨by simpa using hm, dep_one m, fun j hj => ?_⟩
    match j, hj with
    | 0, _ => right; simp [dep_nil]
    | 1, _ => left; exact dep_one m
theorem step_fine {l : List Rw} (hl : ∀ r ∈ l, ruleB r = true) : ∀ (u d : List Md), (∀ m ∈ u, fineB m = true) → stepL l u = some d → (∀ x ∈ d, fineB x = true) ∧ dep d = dep u ∧ ∀ c : Int, (∀ j, j ≤ u.length → 0 ≤ c + dep (u.take j)) → ∀ j, j ≤ d.length → 0 ≤ c + dep (d.take j)
  | [], d, _, h => by
    simp only [stepL, Option.some.injEq] at h
    subst h
    exact ⟨by simp, rfl, fun c hc j hj => by simp at hj; subst hj; simpa using hc 0 (by simp)⟩
  | m :: u, d, hu, h => by
    simp only [stepL] at h
    cases h1 : succM l m with
    | none => rw [h1] at h; simp at h
    | some a =>
      cases h2 : stepL l u with
      | none => rw [h1, h2] at h; simp at h
      | some b =>
        rw [h1, h2] at h
        have hd := (Option.some.inj h).symm
        subst hd
        have A := suc_ok hl (hu m (by simp)) h1
        obtain ⟨B1, B2, B3⟩ := step_fine hl u b (fun x hx => hu x (by simp [hx])) h2
        refine ⟨fun x hx => ?_, by rw [dep_app, A.dp, B2, dep_cons], fun c hc j hj => ?_⟩
        · rcases List.mem_append.1 hx with h3 | h3
          · exact A.fine x h3
          · exact B1 x h3
        · have c0 := hc 0 (by simp)
          have c1 := hc 1 (by simp)
          simp only [List.take_zero, dep_nil, List.take_succ_cons, dep_cons] at c0 c1
          by_cases hja : j ≤ a.length
          · rw [List.take_append_of_le_length hja]
            rcases A.pre j hja with e | e <;> omega
          · have e : (a ++ b).take j = a ++ b.take (j - a.length) := by
              rw [List.take_append, List.take_of_length_le (by omega)]
            rw [e, dep_app, A.dp]
            have := B3 (c + dlt m) (fun i hi => by
              have := hc (i + 1) (by simp; omega)
              rw [List.take_succ_cons, dep_cons] at this
              omega) (j - a.length) (by rw [List.length_append] at hj; omega)
            omega
theorem step_chk {l : List Rw} (hl : ∀ r ∈ l, ruleB r = true) {u d : List Md} (hu : chk u = 0) (h : stepL l u = some d) (hd : d.length ≤ 2000) : chk d = 0 := by
  obtain ⟨_, h2, h3, h4⟩ := chk_zero.1 hu
  obtain ⟨a1, a2, a3⟩ := step_fine hl u d (fun m hm => List.all_eq_true.1 h2 m hm) h
  refine chk_zero.2 ⟨hd, List.all_eq_true.2 a1, okB_iff.2 fun i hi => ?_, by rw [a2, h4]⟩
  have := a3 0 (fun j hj => by have := pre_ok h3 j hj; omega) (i + 1) (by omega)
  omega
/-- step's error and word are Step's, of valid rules and a valid word. -/
theorem st_valid {l : List Rw} (hl : rchk l = 0) {u : List Md} (hu : chk u = 0) : stC l u = (match stepL l u with | none => 16 | some d => if 2000 < d.length then 4 else 0) ∧ stL l u = (match stepL l u with | none => [] | some d => if 2000 < d.length then [] else d) := by
  cases hs : stepL l u with
  | none => exact st_none hl hu hs
  | some d =>
    by_cases h : 2000 < d.length
    · have := st_many hl hu hs h
      simpa [h] using this
    · have := st_ok hl hu hs h
      simpa [h] using this
theorem stL_chk {l : List Rw} (hl : rchk l = 0) {u : List Md} (hu : chk u = 0) : chk (stL l u) = 0 := by
  have hr := (rchk_zero hl).2
  rw [(st_valid hl hu).2]
  cases hs : stepL l u with
  | none => decide
  | some d =>
    show chk (if 2000 < d.length then [] else d) = 0
    split
    · decide
    · exact step_chk (fun r h => (hr r h).1) hu hs (by omega)
end RM
end Go.Proofs.YtkjjehnfibfngaaGreatDoor
namespace Go.Proofs.YtkjjehnfibfngaaGreatDoor
open Go.RowKit
open WM RM
set_option linter.unusedVariables false
set_option linter.unusedSimpArgs false

theorem sp_st {l : List Rw} (hl : rchk l = 0) {u : List Md} (hu : chk u = 0) : spC l u = stC l u ∧ spL l u = stL l u := by
  obtain ⟨h1, h2⟩ := st_valid hl hu
  exact ⟨by rw [h1]; rfl, by rw [h2]; rfl⟩
theorem chk_args {u : List Md} (h : chk u = 0) : ∀ m ∈ u, m.a.length ≤ 10 := fun m hm => by
  have := (fine_args4 (List.all_eq_true.1 (chk_zero.1 h).2.1 m hm)).1
  omega
/-- How Run ends. -/
def PuEnd (l : List Rw) (wd : List Md) (n : Int) (w : World) (e : Ending) (w' : World) : Prop := ∃ v vs, e = .returned (.tuple #[v, .int .i64 (ruC l wd n)]) ∧ Below w.heap.size w w' ∧ ModFr w' w.heap.size v (ruL l wd n) vs
/-- Where the loop stands. -/
structure PnAt (w : World) (l : List Rw) (wd : List Md) (n i : Nat) (u : List Md) (v : Value) (wr : World) : Prop where
  hi : i ≤ n
  below : Below w.heap.size w wr
  own : ∃ vs, ModFr wr w.heap.size v u vs
  ok : chk u = 0
  eq : runF l n wd = runF l (n - i) u
set_option maxRecDepth 100000 in
set_option maxHeartbeats 6400000 in
theorem prun_any (v : Value) (l : List Rw) (hmax : l.length ≤ 9223372036854775807) (hs : ∀ r ∈ l, RwSm r) (wv : Value) (wd : List Md) (hwl : wd.length ≤ 9223372036854775807) (hwa : ∀ m ∈ wd, m.a.length ≤ 9223372036854775807) (n : Int) (w : World) (hv : Rws w v l) (hw : Mods w wv wd) (hnil : NilOr wv) :
    Calls Tryz.prog 12 #[v, wv, .int .i64 n] w (PuEnd l wd n w) := by
  obtain ⟨p, cap, rfl⟩ := hv.slice
  obtain ⟨p2, cap2, rfl⟩ := hw.slice
  have HV := Lib.hid hv
  have HW := Lib.hid hw
  have KC := Lib.hid (fun w h => prcheck_any (.slice p l.length cap) l hmax hs w h)
  have KW := Lib.hid (fun w h => pcheck_any (.slice p2 wd.length cap2) wd hwl hwa w h)
  clear hv hw hwa
  by_cases h0 : rchk l = 0
  · by_cases h1 : chk wd = 0
    · have H0 := Lib.hid h0
      have H1 := Lib.hid h1
      have hr0 := rchk_zero h0
      have hwd := chk_zero.1 h1
      have KT := Lib.hid (fun (w : World) (h : Mods w (.slice p2 wd.length cap2) wd) => ptwin_any (.slice p2 wd.length cap2) wd (by omega) (fun m hm => by have := chk_args h1 m hm; omega) w h hnil)
      have KS := Lib.hid (fun (wv : Value) (u : List Md) (us : List Value) (hu : chk u = 0) (b0 : Nat) (w : World) hb h1 h2 => pstep_any p cap l hmax hs (fun r hr => (hr0.2 r hr).1) (fun r hr => ((many_no hr0.1).2 r hr).2) wv u us (chk_zero.1 hu).1 (fun m hm => List.all_eq_true.1 (chk_zero.1 hu).2.1 m hm) b0 w hb h1 h2)
      rw [h0] at KC
      rw [h1] at KW
      clear h0 h1 hr0 hwd hs hnil
      by_cases h2 : n < 0
      · have HE : Hid (∀ w', Below w.heap.size w w' → PuEnd l wd n w (.returned (.tuple #[.slice none 0 0, .int .i64 2])) w') := Lib.hid (fun w' hb => by
          have h5 := ru_arg (n := n) H0.out H1.out (.inl h2)
          exact ⟨_, [], by rw [h5.1], hb, by rw [h5.2]; exact modFr_nil _ _⟩)
        go_enter Tryz.func12, Tryz.ntmps12
        go_wp2_with fail
        refine (KC.out _ HV.out).mono ?_
        rintro e w1 ⟨rfl, hb⟩
        have B1 := Lib.hid hb
        clear hb
        go_wp2_with fail
        refine (KW.out _ (HW.out.later B1.out)).mono ?_
        rintro e w2 ⟨rfl, hb⟩
        have B2 := Lib.hid (B1.out.trans (hb.mono B1.out.size))
        clear hb
        go_wp2_with fail
        go_ret2
        exact HE.out _ B2.out
      · by_cases h3 : 30 < n
        · have HE : Hid (∀ w', Below w.heap.size w w' → PuEnd l wd n w (.returned (.tuple #[.slice none 0 0, .int .i64 2])) w') := Lib.hid (fun w' hb => by
            have h5 := ru_arg (n := n) H0.out H1.out (.inr h3)
            exact ⟨_, [], by rw [h5.1], hb, by rw [h5.2]; exact modFr_nil _ _⟩)
          go_enter Tryz.func12, Tryz.ntmps12
          go_wp2_with fail
          refine (KC.out _ HV.out).mono ?_
          rintro e w1 ⟨rfl, hb⟩
          have B1 := Lib.hid hb
          clear hb
          go_wp2_with fail
          refine (KW.out _ (HW.out.later B1.out)).mono ?_
          rintro e w2 ⟨rfl, hb⟩
          have B2 := Lib.hid (B1.out.trans (hb.mono B1.out.size))
          clear hb
          go_wp2_with fail
          go_ret2
          exact HE.out _ B2.out
        · obtain ⟨N, hN⟩ : ∃ N : Nat, n = (N : Int) := ⟨n.toNat, by omega⟩
          subst hN
          have HR : Hid (∀ c u, runF l N wd = (c, u) → ruC l wd (N : Int) = c ∧ ruL l wd (N : Int) = if c = 0 then u else []) := Lib.hid (fun c u h => ru_run H0.out H1.out (by omega) h)
          go_enter Tryz.func12, Tryz.ntmps12
          go_wp2_with fail
          refine (KC.out _ HV.out).mono ?_
          rintro e w1 ⟨rfl, hb⟩
          have B1 := Lib.hid hb
          clear hb
          go_wp2_with fail
          refine (KW.out _ (HW.out.later B1.out)).mono ?_
          rintro e w2 ⟨rfl, hb⟩
          have B2 := Lib.hid (B1.out.trans (hb.mono B1.out.size))
          clear hb
          go_wp2_with fail
          refine (KT.out _ (HW.out.later B2.out)).mono ?_
          rintro e w3 ⟨v3, vs3, rfl, hb, hmo⟩
          have S3 : Hid (PnAt w l wd N 0 wd v3 w3) := Lib.hid ⟨Nat.zero_le _, B2.out.trans (hb.mono B2.out.size), ⟨vs3, hmo.mono B2.out.size⟩, H1.out, rfl⟩
          clear hb hmo
          go_wp2_with fail
          go_loopw [10, 32] (fun v i wr => ∃ (i' : Nat) (u : List Md), i = .int .i64 (i' : Nat) ∧ PnAt w l wd N i' u v wr) (fun _ i _ => N - (intOf i).toNat)
          case atStart => exact ⟨0, wd, rfl, S3.out⟩
          case round =>
            rename World => wo
            obtain ⟨i, u, rfl, hS⟩ := hrel
            have HSt := Lib.hid hS
            have hi := hS.hi
            have hsz := hS.below.size
            obtain ⟨vs, hm⟩ := hS.own
            obtain ⟨q, c, hq⟩ := fr_slice hm.row
            subst hq
            have HMF := Lib.hid hm
            have HOk := Lib.hid hS.ok
            clear hS hm
            by_cases hlt : i < N
            · have k1 : (i : Int) < (N : Int) := by omega
              have HEq : Hid (runF l N wd = runF l (N - (i + 1) + 1) u) := Lib.hid (by rw [HSt.out.eq]; congr 1; omega)
              have KS1 := Lib.hid (KS.out (.slice q u.length c) u vs HOk.out w.heap.size wo hsz (HV.out.later HSt.out.below) HMF.out)
              unfold SpEnd at KS1
              obtain ⟨hsp1, hsp2⟩ := sp_st H0.out HOk.out
              rw [hsp1, hsp2] at KS1
              clear hsp1 hsp2
              by_cases h5 : stC l u = 0
              · have HN : Hid (∀ w' v' vs', Below wo.heap.size wo w' → ModFr w' w.heap.size v' (stL l u) vs' → PnAt w l wd N (i + 1) (stL l u) v' w') := Lib.hid (fun w' v' vs' hb hm =>
                  ⟨hlt, HSt.out.below.trans (hb.mono hsz), ⟨vs', hm⟩, stL_chk H0.out HOk.out, by rw [HEq.out, run_ok h5]⟩)
                rw [h5] at KS1
                clear h5
                go_wp2_with fail
                refine KS1.out.mono ?_
                rintro e w4 ⟨v4, vs4, rfl, hb, hm⟩
                have HT := Lib.hid (HN.out _ _ _ hb hm)
                clear hb hm
                go_wp2_with fail
                go_roundw
                case rel => exact ⟨i + 1, _, by go_num, HT.out⟩
                case measure => simp [intOf]; omega
              · have HE : Hid (∀ w', Below wo.heap.size wo w' → PuEnd l wd (N : Int) w (.returned (.tuple #[.slice none 0 0, .int .i64 (stC l u)])) w') := Lib.hid (fun w' hb => by
                  have h6 := HR.out _ _ (HEq.out.trans (run_no h5))
                  rw [if_neg h5] at h6
                  exact ⟨_, [], by rw [h6.1], HSt.out.below.trans (hb.mono hsz), by rw [h6.2]; exact modFr_nil _ _⟩)
                obtain ⟨z, hz⟩ : ∃ z, stC l u = z := ⟨_, rfl⟩
                rw [hz] at KS1 HE h5
                have h6 : (z != 0) = true := by rw [bne_iff_ne]; exact h5
                clear h5 hz
                go_wp2_with fail
                refine KS1.out.mono ?_
                rintro e w4 ⟨v4, vs4, rfl, hb, hm⟩
                have B4 := Lib.hid hb
                clear hb hm
                go_wp2_with fail
                go_ret2
                exact HE.out _ B4.out
            · obtain rfl : i = N := by omega
              have k1 : ¬ (i : Int) < (i : Int) := by omega
              have HE : Hid (PuEnd l wd (i : Int) w (.returned (.tuple #[.slice q u.length c, .int .i64 0])) wo) := Lib.hid (by
                have h6 := HR.out 0 u (by rw [HSt.out.eq, Nat.sub_self]; rfl)
                rw [if_pos rfl] at h6
                exact ⟨_, vs, by rw [h6.1], HSt.out.below, by rw [h6.2]; exact HMF.out⟩)
              go_wp2_with fail
              go_ret2
              exact HE.out
    · have HE : Hid (∀ w', Below w.heap.size w w' → PuEnd l wd n w (.returned (.tuple #[.slice none 0 0, .int .i64 (chk wd)])) w') := Lib.hid (fun w' hb => ⟨_, [], by rw [(ru_word h0 h1).1], hb, by rw [(ru_word h0 h1).2]; exact modFr_nil _ _⟩)
      rw [h0] at KC
      obtain ⟨c, hc⟩ : ∃ c, chk wd = c := ⟨_, rfl⟩
      rw [hc] at KW HE h1
      have h2 : (c != 0) = true := by rw [bne_iff_ne]; exact h1
      clear h0 h1 hc
      go_enter Tryz.func12, Tryz.ntmps12
      go_wp2_with fail
      refine (KC.out _ HV.out).mono ?_
      rintro e w1 ⟨rfl, hb⟩
      have B1 := Lib.hid hb
      clear hb
      go_wp2_with fail
      refine (KW.out _ (HW.out.later B1.out)).mono ?_
      rintro e w2 ⟨rfl, hb⟩
      have B2 := Lib.hid (B1.out.trans (hb.mono B1.out.size))
      clear hb
      go_wp2_with fail
      go_ret2
      exact HE.out _ B2.out
  · have HE : Hid (∀ w', Below w.heap.size w w' → PuEnd l wd n w (.returned (.tuple #[.slice none 0 0, .int .i64 (rchk l)])) w') := Lib.hid (fun w' hb => ⟨_, [], by rw [(ru_rules h0).1], hb, by rw [(ru_rules h0).2]; exact modFr_nil _ _⟩)
    obtain ⟨c, hc⟩ : ∃ c, rchk l = c := ⟨_, rfl⟩
    rw [hc] at KC HE h0
    have h2 : (c != 0) = true := by rw [bne_iff_ne]; exact h0
    clear h0 hc
    go_enter Tryz.func12, Tryz.ntmps12
    go_wp2_with fail
    refine (KC.out _ HV.out).mono ?_
    rintro e w1 ⟨rfl, hb⟩
    have B1 := Lib.hid hb
    clear hb
    go_wp2_with fail
    go_ret2
    exact HE.out _ B1.out
theorem ru_one (l : List Rw) (wd : List Md) : ruC l wd 1 = stC l wd ∧ ruL l wd 1 = stL l wd := by
  have hr : runF l 1 wd = if stC l wd ≠ 0 then (stC l wd, []) else (0, stL l wd) := by
    rw [runF]
    split
    · rfl
    · rw [runF]
  have e : ruC l wd 1 = stC l wd := by
    unfold ruC
    by_cases h0 : rchk l = 0
    · by_cases h1 : chk wd = 0
      · rw [if_neg (by simp [h0]), if_neg (by simp [h1]), if_neg (by omega)]
        show (runF l 1 wd).1 = _
        rw [hr]
        split
        · rfl
        · rename_i h; simp at h; exact h.symm
      · rw [if_neg (by simp [h0]), if_pos h1, (st_word h0 h1).1]
    · rw [if_pos h0, (st_rules h0).1]
  refine ⟨e, ?_⟩
  unfold ruL
  rw [e]
  by_cases h : stC l wd = 0
  · rw [if_pos h]
    show (runF l 1 wd).2 = _
    rw [hr, if_neg (by simp [h])]
  · rw [if_neg h]
    unfold stL; rw [if_neg h]
/-- How Step ends. -/
def PtEnd (l : List Rw) (wd : List Md) (w : World) (e : Ending) (w' : World) : Prop := ∃ v vs, e = .returned (.tuple #[v, .int .i64 (stC l wd)]) ∧ Below w.heap.size w w' ∧ ModFr w' w.heap.size v (stL l wd) vs
set_option maxRecDepth 100000 in
set_option maxHeartbeats 1600000 in
theorem pstep1_any (v : Value) (l : List Rw) (hmax : l.length ≤ 9223372036854775807) (hs : ∀ r ∈ l, RwSm r) (wv : Value) (wd : List Md) (hwl : wd.length ≤ 9223372036854775807) (hwa : ∀ m ∈ wd, m.a.length ≤ 9223372036854775807) (w : World) (hv : Rws w v l) (hw : Mods w wv wd) (hnil : NilOr wv) :
    Calls Tryz.prog 10 #[v, wv] w (PtEnd l wd w) := by
  have K := Lib.hid (prun_any v l hmax hs wv wd hwl hwa 1 w hv hw hnil)
  obtain ⟨p, cap, rfl⟩ := hv.slice
  obtain ⟨p2, cap2, rfl⟩ := hw.slice
  unfold PuEnd at K
  rw [(ru_one l wd).1, (ru_one l wd).2] at K
  clear hv hw hs hwa hnil
  obtain ⟨c, hc⟩ : ∃ c, stC l wd = c := ⟨_, rfl⟩
  have HC := Lib.hid hc
  rw [hc] at K
  clear hc
  go_enter Tryz.func10, Tryz.ntmps10
  go_wp2_with fail
  refine K.out.mono ?_
  rintro e w1 ⟨v1, vs, rfl, hb, hm⟩
  have HE : Hid (PtEnd l wd w (.returned (.tuple #[v1, .int .i64 c])) w1) := Lib.hid ⟨_, vs, by rw [HC.out], hb, hm⟩
  clear hb hm
  go_wp2_with fail
  go_ret2
  exact HE.out
end Go.Proofs.YtkjjehnfibfngaaGreatDoor
namespace Go.Proofs.YtkjjehnfibfngaaGreatDoor
open Go.RowKit
open WM RM
set_option linter.unusedVariables false
set_option linter.unusedSimpArgs false

/-- How form ends. -/
def FoEnd (c x : Int) (w : World) (e : Ending) (w' : World) : Prop := ∃ b, e = .returned (.agg #[.int .i64 c, .slice (some ⟨b, 0, none⟩) 1 1]) ∧ Below w.heap.size w w' ∧ w'.heap[b]? = some (.cells #[.int .i64 x] 3 (0, 0)) ∧ w.heap.size ≤ b
theorem form_lit (c x : Int) (w : World) : Calls Tryz.prog 48 #[.int .i64 c, .int .i64 x] w (FoEnd c x w) := by
  have HF : Hid (FoEnd c x w (.returned (.agg #[.int .i64 c, .slice (some ⟨w.heap.size + 1, 0, none⟩) 1 1])) ((w.alloc (.cells #[.int .i64 c, .slice (some ⟨w.heap.size + 1, 0, none⟩) 1 1] 48)).alloc (.cells #[.int .i64 x] 3))) := Lib.hid (by
    refine ⟨_, rfl, ((Below.refl _ _).alloc (Nat.le_refl _) _).alloc (by simp) _, ?_, by omega⟩
    have h := heap_alloc_new (w.alloc (.cells #[.int .i64 c, .slice (some ⟨w.heap.size + 1, 0, none⟩) 1 1] 48)) (.cells #[.int .i64 x] 3)
    rw [World.size_alloc] at h
    exact h)
  have HC : Hid (∀ j u, #[Value.int .i64 c, .slice (some ⟨w.heap.size + 1, 0, none⟩) 1 1][j]? = some u → ((w.alloc (.cells #[.int .i64 c, .slice (some ⟨w.heap.size + 1, 0, none⟩) 1 1] 48)).alloc (.cells #[.int .i64 x] 3)).cell? ⟨w.heap.size, j, none⟩ = some u) := Lib.hid (fun j u h => by
    have N1 : ((w.alloc (.cells #[.int .i64 c, .slice (some ⟨w.heap.size + 1, 0, none⟩) 1 1] 48)).alloc (.cells #[.int .i64 x] 3)).heap[w.heap.size]? = some (.cells #[.int .i64 c, .slice (some ⟨w.heap.size + 1, 0, none⟩) 1 1] 48 (0, 0)) := heap_alloc_old (heap_alloc_new _ _) _
    simp only [World.cell?, N1]; exact h)
  go_enter Tryz.func48, Tryz.ntmps48
  go_wp2_with fail
  have c0 := HC.out 0 _ rfl
  have c1 := HC.out 1 _ rfl
  exact bodyPost_ret (v := .agg #[.int .i64 c, .slice (some ⟨w.heap.size + 1, 0, none⟩) 1 1]) (by simp [results, Tryz.results48, go_sem, c0, c1] <;> rfl) rfl HF.out
/-- The rules of the examples. -/
def givR : List Rw := [⟨65, 1, 0, 0, [⟨-1, [1]⟩], 0, [⟨70, [⟨0, [1]⟩]⟩, ⟨91, []⟩, ⟨43, []⟩, ⟨65, [⟨-1, [1]⟩]⟩, ⟨93, []⟩]⟩, ⟨65, 1, 0, 0, [], 0, [⟨70, [⟨0, [0]⟩]⟩]⟩]
def givC (g o1 o2 : Nat) : Array Value := #[.int .u8 65, .int .i64 1, .int .u8 0, .int .u8 0, .slice (some ⟨g, 0, none⟩) 1 1, .int .i64 0, .slice (some ⟨o1, 0, none⟩) 5 5, .int .u8 65, .int .i64 1, .int .u8 0, .int .u8 0, .slice none 0 0, .int .i64 0, .slice (some ⟨o2, 0, none⟩) 1 1]
/-- Where they lie. -/
structure GivAt (w : World) (lo r g o1 o2 p1 p2 p3 f1 f2 f3 f4 : Nat) : Prop where
  R : w.heap[r]? = some (.cells (givC g o1 o2) 38 (0, 0))
  G : w.heap[g]? = some (.cells #[.int .i64 (-1), .slice (some ⟨f1, 0, none⟩) 1 1] 48 (0, 0))
  O1 : w.heap[o1]? = some (.cells #[.int .u8 70, .slice (some ⟨p1, 0, none⟩) 1 1, .int .u8 91, .slice none 0 0, .int .u8 43, .slice none 0 0, .int .u8 65, .slice (some ⟨p2, 0, none⟩) 1 1, .int .u8 93, .slice none 0 0] 45 (0, 0))
  O2 : w.heap[o2]? = some (.cells #[.int .u8 70, .slice (some ⟨p3, 0, none⟩) 1 1] 45 (0, 0))
  P1 : w.heap[p1]? = some (.cells #[.int .i64 0, .slice (some ⟨f2, 0, none⟩) 1 1] 48 (0, 0))
  P2 : w.heap[p2]? = some (.cells #[.int .i64 (-1), .slice (some ⟨f3, 0, none⟩) 1 1] 48 (0, 0))
  P3 : w.heap[p3]? = some (.cells #[.int .i64 0, .slice (some ⟨f4, 0, none⟩) 1 1] 48 (0, 0))
  F1 : w.heap[f1]? = some (.cells #[.int .i64 1] 3 (0, 0))
  F2 : w.heap[f2]? = some (.cells #[.int .i64 1] 3 (0, 0))
  F3 : w.heap[f3]? = some (.cells #[.int .i64 1] 3 (0, 0))
  F4 : w.heap[f4]? = some (.cells #[.int .i64 0] 3 (0, 0))
  hr : lo ≤ r
  hg : lo ≤ g
theorem GivAt.later {w w1 : World} {lo r g o1 o2 p1 p2 p3 f1 f2 f3 f4 : Nat} (h : GivAt w lo r g o1 o2 p1 p2 p3 f1 f2 f3 f4) (hb : Below w.heap.size w w1) : GivAt w1 lo r g o1 o2 p1 p2 p3 f1 f2 f3 f4 := by
  have k : ∀ {b : Nat} {o : Obj}, w.heap[b]? = some o → w1.heap[b]? = some o := fun hk => (hb.block _ (lt_of_block hk)).trans hk
  exact ⟨k h.R, k h.G, k h.O1, k h.O2, k h.P1, k h.P2, k h.P3, k h.F1, k h.F2, k h.F3, k h.F4, h.hr, h.hg⟩
theorem ints_one {w : World} {b : Nat} {x : Int} (h : w.heap[b]? = some (.cells #[.int .i64 x] 3 (0, 0))) : Ints w (.slice (some ⟨b, 0, none⟩) 1 1) [x] := by
  refine .some b 0 1 [x] (by simp) (lt_of_block h) fun i hi => ?_
  obtain rfl : i = 0 := by simpa using hi
  simp [World.cell?, h]
theorem fms_one {w : World} {b f : Nat} {c x : Int} (h : w.heap[b]? = some (.cells #[.int .i64 c, .slice (some ⟨f, 0, none⟩) 1 1] 48 (0, 0))) (hf : w.heap[f]? = some (.cells #[.int .i64 x] 3 (0, 0))) : Fms w (.slice (some ⟨b, 0, none⟩) 1 1) [⟨c, [x]⟩] := by
  refine .some b 0 1 [⟨c, [x]⟩] (by simp) (lt_of_block h) fun i hi => ?_
  obtain rfl : i = 0 := by simpa using hi
  exact ⟨by simp [World.cell?, h], .slice (some ⟨f, 0, none⟩) 1 1, by simp [World.cell?, h], ints_one hf⟩
theorem GivAt.out1 {w : World} {lo r g o1 o2 p1 p2 p3 f1 f2 f3 f4 : Nat} (h : GivAt w lo r g o1 o2 p1 p2 p3 f1 f2 f3 f4) : Shs w (.slice (some ⟨o1, 0, none⟩) 5 5) [⟨70, [⟨0, [1]⟩]⟩, ⟨91, []⟩, ⟨43, []⟩, ⟨65, [⟨-1, [1]⟩]⟩, ⟨93, []⟩] := by
  have hO := h.O1
  refine .some o1 0 5 [⟨70, [⟨0, [1]⟩]⟩, ⟨91, []⟩, ⟨43, []⟩, ⟨65, [⟨-1, [1]⟩]⟩, ⟨93, []⟩] (by simp) (lt_of_block hO) fun i hi => ?_
  have : i = 0 ∨ i = 1 ∨ i = 2 ∨ i = 3 ∨ i = 4 := by simp at hi; omega
  rcases this with rfl | rfl | rfl | rfl | rfl
  · exact ⟨by simp [World.cell?, hO], .slice (some ⟨p1, 0, none⟩) 1 1, by simp [World.cell?, hO], fms_one h.P1 h.F2⟩
  · exact ⟨by simp [World.cell?, hO], .slice none 0 0, by simp [World.cell?, hO], .none _ _⟩
  · exact ⟨by simp [World.cell?, hO], .slice none 0 0, by simp [World.cell?, hO], .none _ _⟩
  · exact ⟨by simp [World.cell?, hO], .slice (some ⟨p2, 0, none⟩) 1 1, by simp [World.cell?, hO], fms_one h.P2 h.F3⟩
  · exact ⟨by simp [World.cell?, hO], .slice none 0 0, by simp [World.cell?, hO], .none _ _⟩
theorem GivAt.out2 {w : World} {lo r g o1 o2 p1 p2 p3 f1 f2 f3 f4 : Nat} (h : GivAt w lo r g o1 o2 p1 p2 p3 f1 f2 f3 f4) : Shs w (.slice (some ⟨o2, 0, none⟩) 1 1) [⟨70, [⟨0, [0]⟩]⟩] := by
  have hO := h.O2
  refine .some o2 0 1 [⟨70, [⟨0, [0]⟩]⟩] (by simp) (lt_of_block hO) fun i hi => ?_
  obtain rfl : i = 0 := by simpa using hi
  exact ⟨by simp [World.cell?, hO], .slice (some ⟨p3, 0, none⟩) 1 1, by simp [World.cell?, hO], fms_one h.P3 h.F4⟩
theorem GivAt.rws {w : World} {lo r g o1 o2 p1 p2 p3 f1 f2 f3 f4 : Nat} (h : GivAt w lo r g o1 o2 p1 p2 p3 f1 f2 f3 f4) : Rws w (.slice (some ⟨r, 0, none⟩) 2 2) givR := by
  have hR := h.R
  unfold givC at hR
  refine .some r 0 2 givR (by decide) (lt_of_block hR) fun i hi => ?_
  have : i = 0 ∨ i = 1 := by
    have : i < 2 := hi
    omega
  rcases this with rfl | rfl
  · exact ⟨by simp [World.cell?, hR, givR], by simp [World.cell?, hR, givR], by simp [World.cell?, hR, givR], by simp [World.cell?, hR, givR], by simp [World.cell?, hR, givR], ⟨.slice (some ⟨g, 0, none⟩) 1 1, by simp [World.cell?, hR], fms_one h.G h.F1⟩, ⟨.slice (some ⟨o1, 0, none⟩) 5 5, by simp [World.cell?, hR], h.out1⟩⟩
  · exact ⟨by simp [World.cell?, hR, givR], by simp [World.cell?, hR, givR], by simp [World.cell?, hR, givR], by simp [World.cell?, hR, givR], by simp [World.cell?, hR, givR], ⟨.slice none 0 0, by simp [World.cell?, hR], .none _ _⟩, ⟨.slice (some ⟨o2, 0, none⟩) 1 1, by simp [World.cell?, hR], h.out2⟩⟩
/-- How given ends. -/
def GnEnd (w : World) (e : Ending) (w' : World) : Prop := ∃ r g o1 o2 p1 p2 p3 f1 f2 f3 f4, e = .returned (.slice (some ⟨r, 0, none⟩) 2 2) ∧ Below w.heap.size w w' ∧ GivAt w' w.heap.size r g o1 o2 p1 p2 p3 f1 f2 f3 f4
theorem blk_k {w w' : World} {b : Nat} {o : Obj} (h : w.heap[b]? = some o) (hb : Below w.heap.size w w') : w'.heap[b]? = some o := (hb.block _ (lt_of_block h)).trans h
set_option maxRecDepth 100000 in
set_option maxHeartbeats 1600000 in
theorem givn_any (w : World) : Calls Tryz.prog 37 #[] w (GnEnd w) := by
  have K := Lib.hid form_lit
  go_enter Tryz.func37, Tryz.ntmps37
  go_wp2_with fail
  refine (K.out (-1) 1 _).mono ?_
  rintro e w1 ⟨f1, rfl, hb, hf, hl⟩
  have B1 := Lib.hid hb
  have F1 := Lib.hid hf
  clear hb hf hl
  go_wp2_with fail
  refine (K.out 0 1 _).mono ?_
  rintro e w2 ⟨f2, rfl, hb, hf, hl⟩
  have B2 := Lib.hid (B1.out.trans ((((Below.refl _ _).alloc (Nat.le_refl _) (.cells #[.int .i64 (-1), .slice (some ⟨f1, 0, none⟩) 1 1] 48)).trans (hb.mono (by simp))).mono B1.out.size))
  have F12 := Lib.hid (blk_k (heap_alloc_old F1.out (.cells #[.int .i64 (-1), .slice (some ⟨f1, 0, none⟩) 1 1] 48)) hb)
  have G2 := Lib.hid (blk_k (heap_alloc_new w1 (.cells #[.int .i64 (-1), .slice (some ⟨f1, 0, none⟩) 1 1] 48)) hb)
  have F2 := Lib.hid hf
  clear hb hf hl
  go_wp2_with fail
  refine (K.out (-1) 1 _).mono ?_
  rintro e w3 ⟨f3, rfl, hb, hf, hl⟩
  have B3 := Lib.hid (B2.out.trans ((((Below.refl _ _).alloc (Nat.le_refl _) (.cells #[.int .i64 0, .slice (some ⟨f2, 0, none⟩) 1 1] 48)).trans (hb.mono (by simp))).mono B2.out.size))
  have F13 := Lib.hid (blk_k (heap_alloc_old F12.out (.cells #[.int .i64 0, .slice (some ⟨f2, 0, none⟩) 1 1] 48)) hb)
  have G3 := Lib.hid (blk_k (heap_alloc_old G2.out (.cells #[.int .i64 0, .slice (some ⟨f2, 0, none⟩) 1 1] 48)) hb)
  have F23 := Lib.hid (blk_k (heap_alloc_old F2.out (.cells #[.int .i64 0, .slice (some ⟨f2, 0, none⟩) 1 1] 48)) hb)
  have P13 := Lib.hid (blk_k (heap_alloc_new w2 (.cells #[.int .i64 0, .slice (some ⟨f2, 0, none⟩) 1 1] 48)) hb)
  have F3 := Lib.hid hf
  clear hb hf hl
  go_wp2_with fail
  refine (K.out 0 0 _).mono ?_
  rintro e w4 ⟨f4, rfl, hb, hf, hl⟩
  have B4 := Lib.hid (B3.out.trans (((((Below.refl _ _).alloc (Nat.le_refl _) (.cells #[.int .i64 (-1), .slice (some ⟨f3, 0, none⟩) 1 1] 48)).alloc (by simp) (.cells #[.int .u8 70, .slice (some ⟨w2.heap.size, 0, none⟩) 1 1, .int .u8 91, .slice none 0 0, .int .u8 43, .slice none 0 0, .int .u8 65, .slice (some ⟨w3.heap.size, 0, none⟩) 1 1, .int .u8 93, .slice none 0 0] 45)).trans (hb.mono (by simp; omega))).mono B3.out.size))
  have old : ∀ {b : Nat} {o : Obj}, w3.heap[b]? = some o → w4.heap[b]? = some o := fun h => blk_k (heap_alloc_old (heap_alloc_old h (.cells #[.int .i64 (-1), .slice (some ⟨f3, 0, none⟩) 1 1] 48)) (.cells #[.int .u8 70, .slice (some ⟨w2.heap.size, 0, none⟩) 1 1, .int .u8 91, .slice none 0 0, .int .u8 43, .slice none 0 0, .int .u8 65, .slice (some ⟨w3.heap.size, 0, none⟩) 1 1, .int .u8 93, .slice none 0 0] 45)) hb
  have O1 := Lib.hid (blk_k (heap_alloc_new (w3.alloc (.cells #[.int .i64 (-1), .slice (some ⟨f3, 0, none⟩) 1 1] 48)) (.cells #[.int .u8 70, .slice (some ⟨w2.heap.size, 0, none⟩) 1 1, .int .u8 91, .slice none 0 0, .int .u8 43, .slice none 0 0, .int .u8 65, .slice (some ⟨w3.heap.size, 0, none⟩) 1 1, .int .u8 93, .slice none 0 0] 45)) hb)
  have P2 := Lib.hid (blk_k (heap_alloc_old (heap_alloc_new w3 (.cells #[.int .i64 (-1), .slice (some ⟨f3, 0, none⟩) 1 1] 48)) (.cells #[.int .u8 70, .slice (some ⟨w2.heap.size, 0, none⟩) 1 1, .int .u8 91, .slice none 0 0, .int .u8 43, .slice none 0 0, .int .u8 65, .slice (some ⟨w3.heap.size, 0, none⟩) 1 1, .int .u8 93, .slice none 0 0] 45)) hb)
  have old4 : ∀ {b : Nat} {o : Obj}, w4.heap[b]? = some o → (((w4.alloc (.cells #[.int .i64 0, .slice (some ⟨f4, 0, none⟩) 1 1] 48)).alloc (.cells #[.int .u8 70, .slice (some ⟨w4.heap.size, 0, none⟩) 1 1] 45)).alloc (.cells (givC w1.heap.size (w3.heap.size + 1) (w4.heap.size + 1)) 38)).heap[b]? = some o := fun h => heap_alloc_old (heap_alloc_old (heap_alloc_old h (.cells #[.int .i64 0, .slice (some ⟨f4, 0, none⟩) 1 1] 48)) (.cells #[.int .u8 70, .slice (some ⟨w4.heap.size, 0, none⟩) 1 1] 45)) (.cells (givC w1.heap.size (w3.heap.size + 1) (w4.heap.size + 1)) 38)
  have O2 := heap_alloc_old (heap_alloc_new (w4.alloc (.cells #[.int .i64 0, .slice (some ⟨f4, 0, none⟩) 1 1] 48)) (.cells #[.int .u8 70, .slice (some ⟨w4.heap.size, 0, none⟩) 1 1] 45)) (.cells (givC w1.heap.size (w3.heap.size + 1) (w4.heap.size + 1)) 38)
  have P3 := heap_alloc_old (heap_alloc_old (heap_alloc_new w4 (.cells #[.int .i64 0, .slice (some ⟨f4, 0, none⟩) 1 1] 48)) (.cells #[.int .u8 70, .slice (some ⟨w4.heap.size, 0, none⟩) 1 1] 45)) (.cells (givC w1.heap.size (w3.heap.size + 1) (w4.heap.size + 1)) 38)
  have RR' := heap_alloc_new ((w4.alloc (.cells #[.int .i64 0, .slice (some ⟨f4, 0, none⟩) 1 1] 48)).alloc (.cells #[.int .u8 70, .slice (some ⟨w4.heap.size, 0, none⟩) 1 1] 45)) (.cells (givC w1.heap.size (w3.heap.size + 1) (w4.heap.size + 1)) 38)
  rw [World.size_alloc] at O2 O1
  rw [World.size_alloc, World.size_alloc] at RR'
  have hb1 := B1.out.size
  have hb2 := B2.out.size
  have hb3 := B3.out.size
  have hb4 := B4.out.size
  have w1s : w.heap.size ≤ w1.heap.size := hb1
  have HE : Hid (GnEnd w (.returned (.slice (some ⟨w4.heap.size + 1 + 1, 0, none⟩) 2 2)) (((w4.alloc (.cells #[.int .i64 0, .slice (some ⟨f4, 0, none⟩) 1 1] 48)).alloc (.cells #[.int .u8 70, .slice (some ⟨w4.heap.size, 0, none⟩) 1 1] 45)).alloc (.cells (givC w1.heap.size (w3.heap.size + 1) (w4.heap.size + 1)) 38))) := Lib.hid
    ⟨_, w1.heap.size, w3.heap.size + 1, w4.heap.size + 1, w2.heap.size, w3.heap.size, w4.heap.size, f1, f2, f3, f4, rfl, B4.out.trans (((((Below.refl _ _).alloc (Nat.le_refl _) _).alloc (by simp) _).alloc (by simp; omega) _).mono B4.out.size),
      RR', old4 (old G3.out), old4 O1.out, O2, old4 (old P13.out), old4 P2.out, P3, old4 (old F13.out), old4 (old F23.out), old4 (old F3.out), old4 hf, by omega, by omega⟩
  clear hb hf hl old old4 O2 P3 RR'
  go_wp2_with fail
  go_ret
  exact HE.out
end Go.Proofs.YtkjjehnfibfngaaGreatDoor
