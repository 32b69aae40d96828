/-
  What the package's Close hands back: the bracket that belongs to one.
-/
import Derived.Test.YtjjjopopalcokaaDoorWordPrG
import Derived.Lib.QuietBelow
namespace Go.Proofs.YtjjjopopalcokaaDoor
open Go.RowKit
open WM
set_option linter.unusedVariables false
set_option linter.unusedSimpArgs false

theorem least (P : Nat → Prop) : ∀ n, P n → ∃ k, k ≤ n ∧ P k ∧ ∀ j, j < k → ¬ P j := by
  intro n
  induction n using Nat.strongRecOn with
  | _ n ih =>
    intro h
    by_cases hx : ∃ j, j < n ∧ P j
    · obtain ⟨j, hj, hp⟩ := hx
      obtain ⟨k, h1, h2, h3⟩ := ih j hj hp
      exact ⟨k, by omega, h2, h3⟩
    · exact ⟨n, Nat.le_refl _, h, fun j hj hp => hx ⟨j, hj, hp⟩⟩
/-- Where the open brackets climb to D for the last time ahead of b. -/
theorem climb {l : List Md} (D : Int) (a : Nat) : ∀ b, a < b → b ≤ l.length → dep (l.take a) < D → D ≤ dep (l.take b) →
    ∃ j, ∃ h : j < l.length, a ≤ j ∧ j < b ∧ l[j].c = 91 ∧ dep (l.take (j + 1)) = D ∧ ∀ i, (hi : i < l.length) → j < i → i < b → ¬ (l[i].c = 91 ∧ dep (l.take (i + 1)) = D) := by
  intro b
  induction b with
  | zero => intro h; omega
  | succ b ih =>
    intro hab hbl h1 h2
    have hb : b < l.length := by omega
    have hs := dep_snoc hb
    by_cases hP : l[b].c = 91 ∧ dep (l.take (b + 1)) = D
    · exact ⟨b, hb, by omega, by omega, hP.1, hP.2, fun i _ h3 h4 => by omega⟩
    · by_cases h3 : D ≤ dep (l.take b)
      · rcases Nat.lt_or_eq_of_le (Nat.le_of_lt_succ hab) with h4 | h4
        · obtain ⟨j, hj, g1, g2, g3, g4, g5⟩ := ih h4 (by omega) h1 h3
          refine ⟨j, hj, g1, by omega, g3, g4, fun i hi h5 h6 => ?_⟩
          rcases Nat.lt_or_eq_of_le (Nat.le_of_lt_succ h6) with h7 | h7
          · exact g5 i hi h5 h7
          · subst h7; exact hP
        · subst h4; omega
      · exfalso
        have h5 : dlt l[b] = 1 := by rcases dlt_cases l[b] with h | h | h <;> omega
        have h6 : l[b].c = 91 := by
          unfold dlt at h5
          split at h5
          · assumption
          · split at h5 <;> omega
        exact hP ⟨h6, by omega⟩
theorem isCl_ex {l : List Md} (h0 : chk l = 0) {i : Nat} (hi : i < l.length) (hb : braB l[i].c = true) : ∃ k, IsCl l i k := by
  have hok := (chk_zero.1 h0).2.2.1
  have hall : dep (l.take l.length) = 0 := by rw [List.take_length]; exact (chk_zero.1 h0).2.2.2
  have hs := dep_snoc hi
  have hge : ∀ k, k ≤ l.length → 0 ≤ dep (l.take k) := by
    intro k hk
    rcases Nat.eq_zero_or_pos k with h | h
    · subst h; simp [dep_nil]
    · have := okB_iff.1 hok (k - 1) (by omega)
      rwa [show k - 1 + 1 = k by omega] at this
  rcases bra_cases hb with hc | hc
  · have hd : dlt l[i] = 1 := by unfold dlt; rw [if_pos hc]
    have h1 := hge i (by omega)
    have hlt : i + 1 < l.length := by
      rcases Nat.lt_or_eq_of_le (show i + 1 ≤ l.length from hi) with h | h
      · exact h
      · rw [h, hall] at hs; omega
    obtain ⟨k, g1, ⟨g2, g3⟩, g4⟩ := least (fun k => i < k ∧ dep (l.take (k + 1)) < dep (l.take (i + 1))) (l.length - 1) ⟨by omega, by rw [show l.length - 1 + 1 = l.length by omega, hall]; omega⟩
    refine ⟨k, hi, by omega, .inl ⟨hc, g2, g3, fun j h3 h4 => ?_⟩⟩
    have := g4 j h4
    rcases Int.lt_or_le (dep (l.take (j + 1))) (dep (l.take (i + 1))) with h | h
    · exact absurd ⟨h3, h⟩ this
    · exact h
  · have hd : dlt l[i] = -1 := by unfold dlt; rw [if_neg (by rw [hc]; decide), if_pos hc]
    have h1 := hge (i + 1) (by omega)
    have hpos : 0 < i := by
      rcases Nat.eq_zero_or_pos i with h | h
      · subst h
        have e : dep (l.take 0) = 0 := by simp [dep_nil]
        omega
      · exact h
    obtain ⟨k, hk, g1, g2, g3, g4, g5⟩ := climb (l := l) (dep (l.take (i + 1)) + 1) 0 i hpos (by omega) (by simp [dep_nil]; omega) (by omega)
    exact ⟨k, hi, hk, .inr ⟨hc, g2, g3, g4, g5⟩⟩
/-- Does the loop stop at j? -/
def stopA (l : List Md) (i j : Nat) : Bool := braB (l.getD j ⟨0, []⟩).c && decide (lvlA l j = lvlA l i)
theorem cl_fwd {l : List Md} {i k : Nat} (h : IsCl l i k) (hi : i < l.length) (hc : l[i].c = 91) : i < k ∧ k < l.length ∧ (∀ j, (hj : j < l.length) → i < j → j < k → braB l[j].c = false ∨ lvlA l j ≠ lvlA l i) ∧ (∀ hk : k < l.length, braB l[k].c = true ∧ lvlA l k = lvlA l i) := by
  obtain ⟨_, hk, h⟩ := h
  rcases h with ⟨_, g2, g3, g4⟩ | ⟨g1, _⟩
  · have hLi : lvlA l i = dep (l.take (i + 1)) := by rw [lvlA_eq hi, if_neg (by rw [hc]; decide), Int.add_zero]
    have hbef : ∀ j, i < j → j ≤ k → dep (l.take (i + 1)) ≤ dep (l.take j) := by
      intro j h1 h2
      rcases Nat.lt_or_eq_of_le (show i + 1 ≤ j from h1) with h | h
      · have := g4 (j - 1) (by omega) (by omega)
        rwa [show j - 1 + 1 = j by omega] at this
      · rw [← h]; exact Int.le_refl _
    refine ⟨g2, hk, fun j hj h1 h2 => ?_, fun hk => ?_⟩
    · cases hb : braB l[j].c
      · exact .inl rfl
      · right
        have hs := dep_snoc hj
        have hp := hbef j h1 (by omega)
        have hq := g4 j h1 h2
        rw [hLi, lvlA_eq hj]
        rcases bra_cases hb with h | h
        · have hd : dlt l[j] = 1 := by unfold dlt; rw [if_pos h]
          rw [if_neg (by rw [h]; decide)]; omega
        · rw [if_pos h]; omega
    · have hs := dep_snoc hk
      have hp := hbef k g2 (Nat.le_refl _)
      have hd : dlt l[k] = -1 := by rcases dlt_cases l[k] with h | h | h <;> omega
      have hc2 : l[k].c = 93 := by
        unfold dlt at hd
        split at hd
        · omega
        · split at hd
          · assumption
          · omega
      refine ⟨by rw [hc2]; rfl, ?_⟩
      rw [hLi, lvlA_eq hk, if_pos hc2]; omega
  · rw [hc] at g1; exact absurd g1 (by decide)
theorem cl_bwd {l : List Md} {i k : Nat} (h : IsCl l i k) (hi : i < l.length) (hc : l[i].c = 93) : k < i ∧ (∀ j, (hj : j < l.length) → k < j → j < i → braB l[j].c = false ∨ lvlA l j ≠ lvlA l i) ∧ (∀ hk : k < l.length, braB l[k].c = true ∧ lvlA l k = lvlA l i) := by
  obtain ⟨_, hk, h⟩ := h
  rcases h with ⟨g1, _⟩ | ⟨_, g2, g3, g4, g5⟩
  · rw [hc] at g1; exact absurd g1 (by decide)
  · have hLi : lvlA l i = dep (l.take (i + 1)) + 1 := by rw [lvlA_eq hi, if_pos hc]
    have hsi := dep_snoc hi
    have hdi : dlt l[i] = -1 := by unfold dlt; rw [if_neg (by rw [hc]; decide), if_pos hc]
    refine ⟨g2, fun j hj h1 h2 => ?_, fun hk => ?_⟩
    · cases hb : braB l[j].c
      · exact .inl rfl
      · right
        rw [hLi, lvlA_eq hj]
        rcases bra_cases hb with h | h
        · rw [if_neg (by rw [h]; decide), Int.add_zero]
          exact fun e => g5 j hj h1 h2 ⟨h, e⟩
        · rw [if_pos h]
          intro e
          have e2 : dep (l.take (j + 1)) = dep (l.take (i + 1)) := by omega
          rcases Nat.lt_or_eq_of_le (show j + 1 ≤ i from h2) with h3 | h3
          · obtain ⟨m, hm, q1, q2, q3, q4, _⟩ := climb (l := l) (dep (l.take (i + 1)) + 1) (j + 1) i h3 (by omega) (by omega) (by omega)
            exact g5 m hm (by omega) q2 ⟨q3, q4⟩
          · rw [h3] at e2; omega
    · refine ⟨by rw [g3]; rfl, ?_⟩
      rw [hLi, lvlA_eq hk, if_neg (by rw [g3]; decide), Int.add_zero]; exact g4
end Go.Proofs.YtjjjopopalcokaaDoor
