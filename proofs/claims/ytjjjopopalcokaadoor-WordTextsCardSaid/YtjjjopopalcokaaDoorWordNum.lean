/-
  What the reference's number hands back.
-/
import Derived.Test.YtjjjopopalcokaaDoorWordNumM
import Derived.Test.YtjjjopopalcokaaDoorWordDec
namespace Go.Proofs.YtjjjopopalcokaaDoor
open Go.RowKit
open WM
set_option linter.unusedVariables false
set_option linter.unusedSimpArgs false

/-- How number ends. -/
def NuEnd (s : ByteArray) (k : Nat) (w : World) (e : Ending) (w' : World) : Prop :=
  w = w' ∧ ((numR ((lA s).drop k) = none ∧ e = .returned (.tuple #[.int .i64 0, .int .i64 0, .bool false])) ∨
    (∃ (n : Int) (m : Nat), k < m ∧ m ≤ s.size ∧ numR ((lA s).drop k) = some (n, (lA s).drop m) ∧ e = .returned (.tuple #[.int .i64 n, .int .i64 (m : Int), .bool true])))
theorem tuple_three {a b c d : Int} (h1 : a = c) (h2 : b = d) : Ending.returned (.tuple #[.int .i64 a, .int .i64 b, .bool true]) = .returned (.tuple #[.int .i64 c, .int .i64 d, .bool true]) := by rw [h1, h2]
/-- The digits from a place on. -/
def dg (s : ByteArray) (f j : Nat) : Bs := ((lA s).drop f).take j
theorem dg_snoc {s : ByteArray} {f j : Nat} (h : f + j < s.size) : dg s f (j + 1) = dg s f j ++ [s[f + j]] := by
  have hl : f + j < (lA s).length := by rw [lA_len]; exact h
  have h2 : j < ((lA s).drop f).length := by rw [List.length_drop]; omega
  unfold dg
  rw [List.take_add_one, List.getElem?_eq_getElem h2, List.getElem_drop, lA_get s (f + j) h hl]; rfl
theorem dg_len {s : ByteArray} {f j : Nat} (h : f + j ≤ s.size) : (dg s f j).length = j := by
  unfold dg; rw [List.length_take, List.length_drop, lA_len]; omega
theorem dg_head {s : ByteArray} {f j : Nat} (h : f < s.size) (hj : 1 ≤ j) : (dg s f j).head? = some s[f] := by
  obtain ⟨i, rfl⟩ : ∃ i, j = i + 1 := ⟨j - 1, by omega⟩
  have hl : f < (lA s).length := by rw [lA_len]; exact h
  unfold dg
  rw [List.drop_eq_getElem_cons hl, List.take_succ_cons, List.head?_cons, lA_get s f h hl]
/-- What the digits' end says. -/
theorem nu_none {s : ByteArray} {k f j : Nat} {g : Bool} {w : World} (hs : signR ((lA s).drop k) = (g, (lA s).drop f)) (hd : takeD 10 ((lA s).drop f) = dg s f j) (h : numB g (dg s f j) = false) : NuEnd s k w (.returned (.tuple #[.int .i64 0, .int .i64 0, .bool false])) w :=
  ⟨rfl, .inl ⟨numR_none hs hd h, rfl⟩⟩
theorem nu_some {s : ByteArray} {k f j : Nat} {g : Bool} {w : World} (hs : signR ((lA s).drop k) = (g, (lA s).drop f)) (hkf : k ≤ f) (hj : 1 ≤ j) (hfj : f + j ≤ s.size) (hd : takeD 10 ((lA s).drop f) = dg s f j) (h : numB g (dg s f j) = true) {x y : Int} (hx : x = numI g (dg s f j)) (hy : y = ((f + j : Nat) : Int)) : NuEnd s k w (.returned (.tuple #[.int .i64 x, .int .i64 y, .bool true])) w :=
  ⟨rfl, .inr ⟨numI g (dg s f j), f + j, by omega, hfj, by rw [numR_some hs hd h, List.drop_drop, dg_len hfj], tuple_three hx hy⟩⟩
theorem dg_stop {s : ByteArray} {f j : Nat} (hd : ∀ c ∈ dg s f j, digP c = true) (hj : j ≤ 10) (hl : f + j ≤ s.size) (h : j = 10 ∨ f + j = s.size ∨ ∃ h : f + j < s.size, digP s[f + j] = false) : takeD 10 ((lA s).drop f) = dg s f j := by
  refine takeD_stop 10 _ j hd hj (by rw [List.length_drop, lA_len]; omega) ?_
  rcases h with h | h | ⟨h, h2⟩
  · exact .inl h
  · exact .inr (.inl (by rw [List.length_drop, lA_len]; omega))
  · have hlA : f + j < (lA s).length := by rw [lA_len]; exact h
    exact .inr (.inr ⟨by rw [List.length_drop]; omega, by rw [List.getElem_drop, lA_get s (f + j) h hlA]; exact h2⟩)
theorem numB_nil {s : ByteArray} {f : Nat} {g : Bool} : numB g (dg s f 0) = false := by simp [numB, dg]
theorem numB_dg {s : ByteArray} {f j : Nat} {g : Bool} (hf : f < s.size) (hj : 1 ≤ j) (hl : f + j ≤ s.size) : numB g (dg s f j) = (!((s[f] == 48) && decide (1 < j)) && !(g && decide (valF 0 (dg s f j) = 0))) := by
  have h1 := dg_head hf hj
  have h2 := dg_len hl
  have h3 : (dg s f j).isEmpty = false := by
    cases h : dg s f j with
    | nil => rw [h] at h1; simp at h1
    | cons => rfl
  unfold numB
  rw [h1, h2, h3]
  simp
theorem u8_eqb (c : UInt8) : (((c.toNat : Nat) : Int) == 48) = (c == 48) := by
  by_cases h : c = 48
  · subst h; rfl
  · have : ¬ c.toNat = 48 := fun e => h (UInt8.toNat_inj.1 (by show c.toNat = 48; exact e))
    rw [beq_eq_false_iff_ne.2 h, beq_eq_false_iff_ne.2 (by omega)]
set_option maxHeartbeats 4000000 in
theorem number_neg (s : ByteArray) (hs : s.size ≤ 60000) (k : Nat) (hk : k < s.size) (h45 : s[k] = 45) (w : World) :
    Calls Tryd.prog 38 #[.string s, .int .i64 (k : Int)] w (NuEnd s k w) := by
  have i0 : (0 : Int) ≤ (k : Int) := by omega
  have i2 : ((k : Int)).toNat = k := by omega
  have i1 : (k : Int) < (s.size : Int) := by omega
  have g1 : (((s[k].toNat : Nat) : Int) == 45) = true := by rw [h45]; rfl
  have HSg : Hid (signR ((lA s).drop k) = (true, (lA s).drop (k + 1))) := Lib.hid (by
    have hlA : k < (lA s).length := by rw [lA_len]; exact hk
    rw [List.drop_eq_getElem_cons hlA, lA_get s k hk hlA, h45]; rfl)
  clear h45
  go_enter Tryd.func38, Tryd.ntmps38
  go_wp2_with fail
  go_loop [8, 1] (fun n a => ∃ m j : Nat, j ≤ 10 ∧ k + 1 + j = m ∧ m ≤ s.size ∧ a = .int .i64 (m : Int) ∧ n = .int .i64 (valF 0 (dg s (k + 1) j) : Nat) ∧ ∀ c ∈ dg s (k + 1) j, digP c = true) (fun _ a => s.size + 10 - (intOf a).toNat)
  case atStart => exact ⟨k + 1, 0, by omega, rfl, by omega, by go_num, by simp [dg, valF], fun c h => by simp [dg] at h⟩
  case round =>
    obtain ⟨m, j, hj, hm, hl, rfl, rfl, hd⟩ := hrel
    have HD := Lib.hid hd
    have hvb : valF 0 (dg s (k + 1) j) < 10000000000 := by
      have h1 := valF_lt j _ (dg_len (by omega)) hd
      have h2 : 10 ^ j ≤ 10 ^ 10 := Nat.pow_le_pow_right (by omega) hj
      omega
    have i3 : (0 : Int) ≤ (m : Int) := by omega
    have i4 : ((m : Int)).toNat = m := by omega
    clear hd
    by_cases hx : m < s.size ∧ j < 10 ∧ ∃ h : m < s.size, digP s[m] = true
    · obtain ⟨hx1, hx2, _, hx3⟩ := hx
      have HN : Hid (∀ c ∈ dg s (k + 1) (j + 1), digP c = true) := Lib.hid (fun c hc => by
        rw [dg_snoc (by omega)] at hc
        rcases List.mem_append.1 hc with h | h
        · exact HD.out c h
        · rw [List.mem_singleton] at h
          subst h
          have : k + 1 + j = m := hm
          simpa only [this] using hx3)
      have HV : Hid (valF 0 (dg s (k + 1) (j + 1)) = valF 0 (dg s (k + 1) j) * 10 + (s[m].toNat - 48)) := Lib.hid (by rw [dg_snoc (by omega), valF_snoc]; simp only [hm])
      have hdp := digP_iff.1 hx3
      have c1 : (m : Int) < (s.size : Int) := by omega
      have c2 : (m : Int) < (k : Int) + 1 + 10 := by omega
      have d1 : (48 : Int) ≤ ((s[m].toNat : Nat) : Int) := by omega
      have d2 : ((s[m].toNat : Nat) : Int) ≤ 57 := by omega
      clear hx3 hdp
      obtain ⟨v, hv⟩ : ∃ v, valF 0 (dg s (k + 1) j) = v := ⟨_, rfl⟩
      rw [hv] at HV hvb ⊢
      clear hv
      go_wp2_with fail
      go_round
      case rel => exact ⟨m + 1, j + 1, by omega, by omega, by omega, by go_num, by rw [HV.out]; go_num, HN.out⟩
      case measure => simp [intOf]; omega
    · have hstop : j = 10 ∨ k + 1 + j = s.size ∨ ∃ h : k + 1 + j < s.size, digP s[k + 1 + j] = false := by
        by_cases h1 : j = 10
        · exact .inl h1
        · by_cases h2 : m < s.size
          · refine .inr (.inr ⟨by omega, ?_⟩)
            simp only [hm]
            cases h3 : digP s[m] with
            | true => exact absurd ⟨h2, by omega, h2, h3⟩ hx
            | false => rfl
          · exact .inr (.inl (by omega))
      have HT := Lib.hid (dg_stop HD.out hj (by omega) hstop)
      have hexit : ¬ (m : Int) < (s.size : Int) ∨ ((m : Int) < (s.size : Int) ∧ ¬ (m : Int) < (k : Int) + 1 + 10) ∨ ((m : Int) < (s.size : Int) ∧ (m : Int) < (k : Int) + 1 + 10 ∧ ∃ h : m < s.size, ¬ (48 : Int) ≤ ((s[m].toNat : Nat) : Int)) ∨ ((m : Int) < (s.size : Int) ∧ (m : Int) < (k : Int) + 1 + 10 ∧ ∃ h : m < s.size, (48 : Int) ≤ ((s[m].toNat : Nat) : Int) ∧ ¬ ((s[m].toNat : Nat) : Int) ≤ 57) := by
        by_cases h2 : m < s.size
        · by_cases h1 : j = 10
          · exact .inr (.inl ⟨by omega, by omega⟩)
          · have h3 : ¬ digP s[m] = true := fun h => hx ⟨h2, by omega, h2, h⟩
            rw [digP_iff] at h3
            by_cases h4 : 48 ≤ s[m].toNat
            · exact .inr (.inr (.inr ⟨by omega, by omega, h2, by omega, by omega⟩))
            · exact .inr (.inr (.inl ⟨by omega, by omega, h2, by omega⟩))
        · exact .inl (by omega)
      obtain ⟨v, hv⟩ : ∃ v, valF 0 (dg s (k + 1) j) = v := ⟨_, rfl⟩
      have HVv := Lib.hid hv
      have hend : (((m : Int) == (k : Int) + 1) = true ∧ numB true (dg s (k + 1) j) = false) ∨ (((m : Int) == (k : Int) + 1) = false ∧ ∃ h : k + 1 < s.size, (((((s[k + 1].toNat : Nat) : Int) == 48) = true ∧ (k : Int) + 1 + 1 < (m : Int) ∧ numB true (dg s (k + 1) j) = false) ∨
          (((((s[k + 1].toNat : Nat) : Int) == 48) = true ∧ ¬ (k : Int) + 1 + 1 < (m : Int)) ∧ ((((v : Nat) : Int) == 0) = true ∧ numB true (dg s (k + 1) j) = !true)) ∨ (((((s[k + 1].toNat : Nat) : Int) == 48) = true ∧ ¬ (k : Int) + 1 + 1 < (m : Int)) ∧ ((((v : Nat) : Int) == 0) = false ∧ numB true (dg s (k + 1) j) = true)) ∨
          ((((s[k + 1].toNat : Nat) : Int) == 48) = false ∧ ((((v : Nat) : Int) == 0) = true ∧ numB true (dg s (k + 1) j) = !true)) ∨ ((((s[k + 1].toNat : Nat) : Int) == 48) = false ∧ ((((v : Nat) : Int) == 0) = false ∧ numB true (dg s (k + 1) j) = true)))) := by
        by_cases hj0 : j = 0
        · subst hj0
          exact .inl ⟨by rw [beq_iff_eq]; omega, numB_nil⟩
        · have hf : k + 1 < s.size := by omega
          have hB := numB_dg (g := true) hf (by omega : 1 ≤ j) (by omega : k + 1 + j ≤ s.size)
          rw [hv] at hB
          refine .inr ⟨beq_eq_false_iff_ne.2 (by omega), hf, ?_⟩
          rw [u8_eqb]
          by_cases h48 : s[k + 1] = 48
          · have h48' : (s[k + 1] == 48) = true := by rw [beq_iff_eq]; exact h48
            by_cases h1 : 1 < j
            · exact .inl ⟨h48', by omega, by rw [hB, h48']; simp [h1]⟩
            · by_cases hv0 : v = 0
              · exact .inr (.inl ⟨⟨h48', by omega⟩, by rw [hv0]; rfl, by rw [hB]; simp [h1, hv0]⟩)
              · exact .inr (.inr (.inl ⟨⟨h48', by omega⟩, beq_eq_false_iff_ne.2 (by omega), by rw [hB]; simp [h1, hv0]⟩))
          · have h48' : (s[k + 1] == 48) = false := beq_eq_false_iff_ne.2 h48
            by_cases hv0 : v = 0
            · exact .inr (.inr (.inr (.inl ⟨h48', by rw [hv0]; rfl, by rw [hB, h48']; simp [hv0]⟩)))
            · exact .inr (.inr (.inr (.inr ⟨h48', beq_eq_false_iff_ne.2 (by omega), by rw [hB, h48']; simp [hv0]⟩)))
      have i5 : (0 : Int) ≤ (k : Int) + 1 := by omega
      have i6 : ((k : Int) + 1).toNat = k + 1 := by omega
      have HJ : Hid (1 ≤ j ∨ j = 0) := Lib.hid (by omega)
      have HM := Lib.hid hm
      have HLm := Lib.hid hl
      rw [hv] at hvb ⊢
      clear hv hx hstop
      have HNo : Hid (numB true (dg s (k + 1) j) = false → NuEnd s k w (.returned (.tuple #[.int .i64 0, .int .i64 0, .bool false])) w) := Lib.hid (fun h => nu_none HSg.out HT.out h)
      have HYes : Hid (numB true (dg s (k + 1) j) = true → NuEnd s k w (.returned (.tuple #[.int .i64 (-((v : Nat) : Int)), .int .i64 (m : Int), .bool true])) w) := Lib.hid (fun h => nu_some HSg.out (by omega) (by
        rcases Nat.eq_zero_or_pos j with h0 | h0
        · rw [h0, numB_nil] at h; exact absurd h (by simp)
        · exact h0) (by omega) HT.out h (by rw [numI, HVv.out]; simp) (by omega))
      clear hm hl HT HD hj
      rcases hend with ⟨e1, eB⟩ | ⟨e1, hf, ⟨s1, s2, eB⟩ | ⟨⟨s1, s2⟩, v1, eB⟩ | ⟨⟨s1, s2⟩, v1, eB⟩ | ⟨s1, v1, eB⟩ | ⟨s1, v1, eB⟩⟩
      · have EB := Lib.hid eB
        clear eB
        rcases hexit with x1 | ⟨x1, x2⟩ | ⟨x1, x2, _, x3⟩ | ⟨x1, x2, _, x3, x4⟩ <;> (go_wp2_with fail; go_ret3; exact HNo.out EB.out)
      all_goals
        have i7 : (k : Int) + 1 < (s.size : Int) := by omega
        have EB := Lib.hid eB
        clear eB
        rcases hexit with x1 | ⟨x1, x2⟩ | ⟨x1, x2, _, x3⟩ | ⟨x1, x2, _, x3, x4⟩ <;> (go_wp2_with fail; go_ret3; first | exact HNo.out EB.out | exact HYes.out EB.out)
set_option maxHeartbeats 4000000 in
theorem number_pos (s : ByteArray) (hs : s.size ≤ 60000) (k : Nat) (hk : k < s.size) (h45 : s[k] ≠ 45) (w : World) :
    Calls Tryd.prog 38 #[.string s, .int .i64 (k : Int)] w (NuEnd s k w) := by
  have i0 : (0 : Int) ≤ (k : Int) := by omega
  have i2 : ((k : Int)).toNat = k := by omega
  have i1 : (k : Int) < (s.size : Int) := by omega
  have g1 : (((s[k].toNat : Nat) : Int) == 45) = false := beq_eq_false_iff_ne.2 (fun e => h45 (UInt8.toNat_inj.1 (by show s[k].toNat = 45; omega)))
  have HSg : Hid (signR ((lA s).drop k) = (false, (lA s).drop k)) := Lib.hid (by
    have hlA : k < (lA s).length := by rw [lA_len]; exact hk
    rw [List.drop_eq_getElem_cons hlA, lA_get s k hk hlA]
    simp only [signR, if_neg h45])
  clear h45
  go_enter Tryd.func38, Tryd.ntmps38
  go_wp2_with fail
  go_loop [8, 1] (fun n a => ∃ m j : Nat, j ≤ 10 ∧ k + j = m ∧ m ≤ s.size ∧ a = .int .i64 (m : Int) ∧ n = .int .i64 (valF 0 (dg s (k) j) : Nat) ∧ ∀ c ∈ dg s (k) j, digP c = true) (fun _ a => s.size + 10 - (intOf a).toNat)
  case atStart => exact ⟨k, 0, by omega, rfl, by omega, by go_num, by simp [dg, valF], fun c h => by simp [dg] at h⟩
  case round =>
    obtain ⟨m, j, hj, hm, hl, rfl, rfl, hd⟩ := hrel
    have HD := Lib.hid hd
    have hvb : valF 0 (dg s (k) j) < 10000000000 := by
      have h1 := valF_lt j _ (dg_len (by omega)) hd
      have h2 : 10 ^ j ≤ 10 ^ 10 := Nat.pow_le_pow_right (by omega) hj
      omega
    have i3 : (0 : Int) ≤ (m : Int) := by omega
    have i4 : ((m : Int)).toNat = m := by omega
    clear hd
    by_cases hx : m < s.size ∧ j < 10 ∧ ∃ h : m < s.size, digP s[m] = true
    · obtain ⟨hx1, hx2, _, hx3⟩ := hx
      have HN : Hid (∀ c ∈ dg s (k) (j + 1), digP c = true) := Lib.hid (fun c hc => by
        rw [dg_snoc (by omega)] at hc
        rcases List.mem_append.1 hc with h | h
        · exact HD.out c h
        · rw [List.mem_singleton] at h
          subst h
          have : k + j = m := hm
          simpa only [this] using hx3)
      have HV : Hid (valF 0 (dg s (k) (j + 1)) = valF 0 (dg s (k) j) * 10 + (s[m].toNat - 48)) := Lib.hid (by rw [dg_snoc (by omega), valF_snoc]; simp only [hm])
      have hdp := digP_iff.1 hx3
      have c1 : (m : Int) < (s.size : Int) := by omega
      have c2 : (m : Int) < (k : Int) + 10 := by omega
      have d1 : (48 : Int) ≤ ((s[m].toNat : Nat) : Int) := by omega
      have d2 : ((s[m].toNat : Nat) : Int) ≤ 57 := by omega
      clear hx3 hdp
      obtain ⟨v, hv⟩ : ∃ v, valF 0 (dg s (k) j) = v := ⟨_, rfl⟩
      rw [hv] at HV hvb ⊢
      clear hv
      go_wp2_with fail
      go_round
      case rel => exact ⟨m + 1, j + 1, by omega, by omega, by omega, by go_num, by rw [HV.out]; go_num, HN.out⟩
      case measure => simp [intOf]; omega
    · have hstop : j = 10 ∨ k + j = s.size ∨ ∃ h : k + j < s.size, digP s[k + j] = false := by
        by_cases h1 : j = 10
        · exact .inl h1
        · by_cases h2 : m < s.size
          · refine .inr (.inr ⟨by omega, ?_⟩)
            simp only [hm]
            cases h3 : digP s[m] with
            | true => exact absurd ⟨h2, by omega, h2, h3⟩ hx
            | false => rfl
          · exact .inr (.inl (by omega))
      have HT := Lib.hid (dg_stop HD.out hj (by omega) hstop)
      have hexit : ¬ (m : Int) < (s.size : Int) ∨ ((m : Int) < (s.size : Int) ∧ ¬ (m : Int) < (k : Int) + 10) ∨ ((m : Int) < (s.size : Int) ∧ (m : Int) < (k : Int) + 10 ∧ ∃ h : m < s.size, ¬ (48 : Int) ≤ ((s[m].toNat : Nat) : Int)) ∨ ((m : Int) < (s.size : Int) ∧ (m : Int) < (k : Int) + 10 ∧ ∃ h : m < s.size, (48 : Int) ≤ ((s[m].toNat : Nat) : Int) ∧ ¬ ((s[m].toNat : Nat) : Int) ≤ 57) := by
        by_cases h2 : m < s.size
        · by_cases h1 : j = 10
          · exact .inr (.inl ⟨by omega, by omega⟩)
          · have h3 : ¬ digP s[m] = true := fun h => hx ⟨h2, by omega, h2, h⟩
            rw [digP_iff] at h3
            by_cases h4 : 48 ≤ s[m].toNat
            · exact .inr (.inr (.inr ⟨by omega, by omega, h2, by omega, by omega⟩))
            · exact .inr (.inr (.inl ⟨by omega, by omega, h2, by omega⟩))
        · exact .inl (by omega)
      obtain ⟨v, hv⟩ : ∃ v, valF 0 (dg s (k) j) = v := ⟨_, rfl⟩
      have HVv := Lib.hid hv
      have hend : (((m : Int) == (k : Int)) = true ∧ numB false (dg s (k) j) = false) ∨ (((m : Int) == (k : Int)) = false ∧ ∃ h : k < s.size, (((((s[k].toNat : Nat) : Int) == 48) = true ∧ (k : Int) + 1 < (m : Int) ∧ numB false (dg s (k) j) = false) ∨
          (((((s[k].toNat : Nat) : Int) == 48) = true ∧ ¬ (k : Int) + 1 < (m : Int)) ∧ ((((v : Nat) : Int) == 0) = true ∧ numB false (dg s (k) j) = !false)) ∨ (((((s[k].toNat : Nat) : Int) == 48) = true ∧ ¬ (k : Int) + 1 < (m : Int)) ∧ ((((v : Nat) : Int) == 0) = false ∧ numB false (dg s (k) j) = true)) ∨
          ((((s[k].toNat : Nat) : Int) == 48) = false ∧ ((((v : Nat) : Int) == 0) = true ∧ numB false (dg s (k) j) = !false)) ∨ ((((s[k].toNat : Nat) : Int) == 48) = false ∧ ((((v : Nat) : Int) == 0) = false ∧ numB false (dg s (k) j) = true)))) := by
        by_cases hj0 : j = 0
        · subst hj0
          exact .inl ⟨by rw [beq_iff_eq]; omega, numB_nil⟩
        · have hf : k < s.size := by omega
          have hB := numB_dg (g := false) hf (by omega : 1 ≤ j) (by omega : k + j ≤ s.size)
          rw [hv] at hB
          refine .inr ⟨beq_eq_false_iff_ne.2 (by omega), hf, ?_⟩
          rw [u8_eqb]
          by_cases h48 : s[k] = 48
          · have h48' : (s[k] == 48) = true := by rw [beq_iff_eq]; exact h48
            by_cases h1 : 1 < j
            · exact .inl ⟨h48', by omega, by rw [hB, h48']; simp [h1]⟩
            · by_cases hv0 : v = 0
              · exact .inr (.inl ⟨⟨h48', by omega⟩, by rw [hv0]; rfl, by rw [hB]; simp [h1, hv0]⟩)
              · exact .inr (.inr (.inl ⟨⟨h48', by omega⟩, beq_eq_false_iff_ne.2 (by omega), by rw [hB]; simp [h1, hv0]⟩))
          · have h48' : (s[k] == 48) = false := beq_eq_false_iff_ne.2 h48
            by_cases hv0 : v = 0
            · exact .inr (.inr (.inr (.inl ⟨h48', by rw [hv0]; rfl, by rw [hB, h48']; simp [hv0]⟩)))
            · exact .inr (.inr (.inr (.inr ⟨h48', beq_eq_false_iff_ne.2 (by omega), by rw [hB, h48']; simp [hv0]⟩)))
      have i5 : (0 : Int) ≤ (k : Int) := by omega
      have i6 : ((k : Int)).toNat = k := by omega
      have HJ : Hid (1 ≤ j ∨ j = 0) := Lib.hid (by omega)
      have HM := Lib.hid hm
      have HLm := Lib.hid hl
      rw [hv] at hvb ⊢
      clear hv hx hstop
      have HNo : Hid (numB false (dg s (k) j) = false → NuEnd s k w (.returned (.tuple #[.int .i64 0, .int .i64 0, .bool false])) w) := Lib.hid (fun h => nu_none HSg.out HT.out h)
      have HYes : Hid (numB false (dg s (k) j) = true → NuEnd s k w (.returned (.tuple #[.int .i64 (((v : Nat) : Int)), .int .i64 (m : Int), .bool true])) w) := Lib.hid (fun h => nu_some HSg.out (by omega) (by
        rcases Nat.eq_zero_or_pos j with h0 | h0
        · rw [h0, numB_nil] at h; exact absurd h (by simp)
        · exact h0) (by omega) HT.out h (by rw [numI, HVv.out]; simp) (by omega))
      clear hm hl HT HD hj
      rcases hend with ⟨e1, eB⟩ | ⟨e1, hf, ⟨s1, s2, eB⟩ | ⟨⟨s1, s2⟩, v1, eB⟩ | ⟨⟨s1, s2⟩, v1, eB⟩ | ⟨s1, v1, eB⟩ | ⟨s1, v1, eB⟩⟩
      · have EB := Lib.hid eB
        clear eB
        rcases hexit with x1 | ⟨x1, x2⟩ | ⟨x1, x2, _, x3⟩ | ⟨x1, x2, _, x3, x4⟩ <;> (go_wp2_with fail; go_ret3; exact HNo.out EB.out)
      all_goals
        have i7 : (k : Int) < (s.size : Int) := by omega
        have EB := Lib.hid eB
        clear eB
        rcases hexit with x1 | ⟨x1, x2⟩ | ⟨x1, x2, _, x3⟩ | ⟨x1, x2, _, x3, x4⟩ <;> (go_wp2_with fail; go_ret3; first | exact HNo.out EB.out | exact HYes.out EB.out)
theorem number_end (s : ByteArray) (hs : s.size ≤ 60000) (w : World) :
    Calls Tryd.prog 38 #[.string s, .int .i64 (s.size : Int)] w (NuEnd s s.size w) := by
  have HNo : Hid (NuEnd s s.size w (.returned (.tuple #[.int .i64 0, .int .i64 0, .bool false])) w) := Lib.hid ⟨rfl, .inl ⟨by rw [List.drop_eq_nil_of_le (by rw [lA_len]; omega)]; decide, rfl⟩⟩
  go_enter Tryd.func38, Tryd.ntmps38
  go_wp2_with fail
  go_loop [8, 1] (fun n a => n = .int .i64 0 ∧ a = .int .i64 (s.size : Int)) (fun _ a => 0)
  case atStart => exact ⟨rfl, rfl⟩
  case round =>
    obtain ⟨rfl, rfl⟩ := hrel
    go_wp2_with fail
    go_ret3
    exact HNo.out
/-- The reference's number. -/
theorem number_any (s : ByteArray) (hs : s.size ≤ 60000) (k : Nat) (hk : k ≤ s.size) (w : World) :
    Calls Tryd.prog 38 #[.string s, .int .i64 (k : Int)] w (NuEnd s k w) := by
  by_cases h : k < s.size
  · by_cases h45 : s[k] = 45
    · exact number_neg s hs k h h45 w
    · exact number_pos s hs k h h45 w
  · obtain rfl : k = s.size := by omega
    exact number_end s hs w
end Go.Proofs.YtjjjopopalcokaaDoor
