/-
  Brackets that belong to each other, and what is between them. No program in sight.
-/
import Derived.Test.YtjjjopopalcokaaDoorWordPrH
import Derived.Test.YtjjjopopalcokaaDoorWordTrM
namespace Go.Proofs.YtjjjopopalcokaaDoor
open WM
set_option linter.unusedVariables false
set_option linter.unusedSimpArgs false

theorem cl_sym {l : List Md} (h0 : chk l = 0) {i k : Nat} (h : IsCl l i k) : IsCl l k i := by
  obtain ⟨hi, hk, h⟩ := h
  have hsi := dep_snoc hi
  have hsk := dep_snoc hk
  rcases h with ⟨g1, g2, g3, g4⟩ | ⟨g1, g2, g3, g4, g5⟩
  · have hbef : ∀ j, i < j → j ≤ k → dep (l.take (i + 1)) ≤ dep (l.take j) := by
      intro j h1 h2
      rcases Nat.lt_or_eq_of_le (show i + 1 ≤ j from h1) with h | h
      · have := g4 (j - 1) (by omega) (by omega)
        rwa [show j - 1 + 1 = j by omega] at this
      · rw [← h]; exact Int.le_refl _
    have hp := hbef k g2 (Nat.le_refl _)
    have hd : dlt l[k] = -1 := by rcases dlt_cases l[k] with h | h | h <;> omega
    have hc : l[k].c = 93 := by
      unfold dlt at hd
      split at hd
      · omega
      · split at hd
        · assumption
        · omega
    refine ⟨hk, hi, .inr ⟨hc, g2, g1, by omega, fun j hj h1 h2 => ?_⟩⟩
    rintro ⟨h3, h4⟩
    have hsj := dep_snoc hj
    have hdj : dlt l[j] = 1 := by unfold dlt; rw [if_pos h3]
    have := hbef j h1 (by omega)
    omega
  · have hd : dlt l[i] = -1 := by unfold dlt; rw [if_neg (by rw [g1]; decide), if_pos g1]
    refine ⟨hk, hi, .inl ⟨g3, g2, by omega, fun j h1 h2 => ?_⟩⟩
    rcases Int.lt_or_le (dep (l.take (j + 1))) (dep (l.take (k + 1))) with h | h
    · exfalso
      have hji : j + 1 < i := by
        rcases Nat.lt_or_eq_of_le (show j + 1 ≤ i from h2) with h3 | h3
        · exact h3
        · rw [h3] at h; omega
      obtain ⟨m, hm, q1, q2, q3, q4, _⟩ := climb (l := l) (dep (l.take (i + 1)) + 1) (j + 1) i hji (by omega) (by omega) (by omega)
      exact g5 m hm (by omega) q2 ⟨q3, q4⟩
    · exact h
/-- What lies between the bracket at i and the one at k. -/
def sub (l : List Md) (i k : Nat) : List Md := (l.drop (i + 1)).take (k - (i + 1))
theorem sub_len {l : List Md} {i k : Nat} (hk : k ≤ l.length) : (sub l i k).length = k - (i + 1) := by
  unfold sub; rw [List.length_take, List.length_drop]; omega
theorem sub_get {l : List Md} {i k j : Nat} (hk : k ≤ l.length) (hj : j < k - (i + 1)) : (sub l i k)[j]'(by rw [sub_len hk]; exact hj) = l[i + 1 + j]'(by omega) := by
  unfold sub; rw [List.getElem_take, List.getElem_drop]
theorem sub_dep {l : List Md} {i k j : Nat} (hk : k ≤ l.length) (hj : j ≤ k - (i + 1)) (hik : i < k) : dep ((sub l i k).take j) = dep (l.take (i + 1 + j)) - dep (l.take (i + 1)) := by
  have e : l.take (i + 1 + j) = l.take (i + 1) ++ (sub l i k).take j := by
    unfold sub
    rw [List.take_take, Nat.min_eq_left hj, List.take_add]
  rw [e, dep_app]; omega
theorem cl_open {l : List Md} {i k : Nat} (h : IsCl l i k) (hc : ∀ hi : i < l.length, l[i].c = 91) : i < k ∧ ∀ j, i < j → j ≤ k → dep (l.take (i + 1)) ≤ dep (l.take j) := by
  obtain ⟨hi, hk, h⟩ := h
  rcases h with ⟨g1, g2, g3, g4⟩ | ⟨g1, _⟩
  · refine ⟨g2, fun j h1 h2 => ?_⟩
    rcases Nat.lt_or_eq_of_le (show i + 1 ≤ j from h1) with h | h
    · have := g4 (j - 1) (by omega) (by omega)
      rwa [show j - 1 + 1 = j by omega] at this
    · rw [← h]; exact Int.le_refl _
  · rw [hc hi] at g1; exact absurd g1 (by decide)
theorem cl_bound {l : List Md} {i k : Nat} (h : IsCl l i k) : i < l.length ∧ k < l.length := ⟨h.1, h.2.1⟩
theorem cl_down {l : List Md} {i k : Nat} (h : IsCl l i k) (hc : ∀ hi : i < l.length, l[i].c = 91) : dep (l.take (k + 1)) < dep (l.take (i + 1)) := by
  obtain ⟨hi, hk, h⟩ := h
  rcases h with ⟨g1, g2, g3, g4⟩ | ⟨g1, _⟩
  · exact g3
  · rw [hc hi] at g1; exact absurd g1 (by decide)
theorem sub_chk {l : List Md} (h0 : chk l = 0) {i k : Nat} (h : IsCl l i k) (hc : ∀ hi : i < l.length, l[i].c = 91) : chk (sub l i k) = 0 := by
  obtain ⟨hi, hk⟩ := cl_bound h
  obtain ⟨hik, hge⟩ := cl_open h hc
  have hdn := cl_down h hc
  have hsk := dep_snoc hk
  refine chk_zero.2 ⟨?_, ?_, okB_iff.2 fun j hj => ?_, ?_⟩
  · rw [sub_len (by omega)]; have := (chk_zero.1 h0).1; omega
  · rw [List.all_eq_true]
    intro m hm
    have : m ∈ l := List.mem_of_mem_drop (List.mem_of_mem_take hm)
    exact chk_fine h0 m this
  · rw [sub_len (by omega)] at hj
    rw [sub_dep (by omega) (by omega) hik]
    have := hge (i + 1 + (j + 1)) (by omega) (by omega); omega
  · have e := sub_dep (l := l) (i := i) (k := k) (j := k - (i + 1)) (by omega) (Nat.le_refl _) hik
    rw [List.take_of_length_le (by rw [sub_len (by omega)]; exact Nat.le_refl _), show i + 1 + (k - (i + 1)) = k by omega] at e
    have h1 := hge k hik (Nat.le_refl _)
    rcases dlt_cases l[k] with h2 | h2 | h2 <;> omega
theorem dmax_att (l : List Md) : ∀ k, ∃ p, p ≤ k ∧ dmax l k = dep (l.take p) := by
  intro k
  induction k with
  | zero => exact ⟨0, Nat.le_refl _, by rw [dmax_zero]; simp [dep_nil]⟩
  | succ k ih =>
    obtain ⟨p, h1, h2⟩ := ih
    rw [dmax_succ]
    by_cases h : dmax l k ≤ dep (l.take (k + 1))
    · exact ⟨k + 1, Nat.le_refl _, by omega⟩
    · exact ⟨p, by omega, by omega⟩
/-- The index of the bracket that belongs to the one at i. -/
noncomputable def clN (l : List Md) (i : Nat) : Nat := by
  classical
  exact if h : ∃ k, IsCl l i k then Classical.choose h else 0
theorem clN_eq {l : List Md} {i k : Nat} (h : IsCl l i k) : clN l i = k := by
  have hx : ∃ k, IsCl l i k := ⟨k, h⟩
  unfold clN; rw [dif_pos hx]
  exact isCl_one (Classical.choose_spec hx) h
/-- The greatest depth between brackets, and one more, up to a place. -/
noncomputable def bm (l : List Md) : Nat → Int
  | 0 => 0
  | i + 1 => if (l.getD i ⟨0, []⟩).c = 91 then max (bm l i) (dpI (sub l i (clN l i)) + 1) else bm l i
theorem bm_open {l : List Md} {i k : Nat} (hi : i < l.length) (hc : l[i].c = 91) (h : IsCl l i k) : bm l (i + 1) = max (bm l i) (dpI (sub l i k) + 1) := by
  have e : l.getD i ⟨0, []⟩ = l[i] := by simp [List.getD, hi]
  rw [bm, e, if_pos hc, clN_eq h]
theorem bm_other {l : List Md} {i : Nat} (hi : i < l.length) (hc : l[i].c ≠ 91) : bm l (i + 1) = bm l i := by
  have e : l.getD i ⟨0, []⟩ = l[i] := by simp [List.getD, hi]
  rw [bm, e, if_neg hc]
theorem dpI_sub {l : List Md} (h0 : chk l = 0) {i k : Nat} (h : IsCl l i k) (hc : ∀ hi : i < l.length, l[i].c = 91) : ∃ p, p ≤ k - (i + 1) ∧ dpI (sub l i k) = dep (l.take (i + 1 + p)) - dep (l.take (i + 1)) := by
  obtain ⟨hi, hk⟩ := cl_bound h
  obtain ⟨hik, _⟩ := cl_open h hc
  obtain ⟨p, h1, h2⟩ := dmax_att (sub l i k) (sub l i k).length
  rw [sub_len (by omega)] at h1
  refine ⟨p, h1, ?_⟩
  unfold dpI; rw [if_pos (sub_chk h0 h hc), h2, sub_dep (by omega) h1 hik]
theorem dpI_ge {l : List Md} (h0 : chk l = 0) {i k : Nat} (h : IsCl l i k) (hc : ∀ hi : i < l.length, l[i].c = 91) {p : Nat} (hp : i + 1 ≤ p) (hpk : p ≤ k) : dep (l.take p) - dep (l.take (i + 1)) ≤ dpI (sub l i k) := by
  obtain ⟨hi, hk⟩ := cl_bound h
  obtain ⟨hik, _⟩ := cl_open h hc
  have e := sub_dep (l := l) (i := i) (k := k) (j := p - (i + 1)) (by omega) (by omega) hik
  rw [show i + 1 + (p - (i + 1)) = p by omega] at e
  rw [← e]
  unfold dpI; rw [if_pos (sub_chk h0 h hc)]
  exact dep_le_dmax _ _ _ (by rw [sub_len (by omega)]; omega)
theorem bm_nonneg (l : List Md) : ∀ i, 0 ≤ bm l i := by
  intro i
  induction i with
  | zero => exact Int.le_refl _
  | succ i ih => rw [bm]; split <;> omega
theorem bm_le {l : List Md} (h0 : chk l = 0) : ∀ i, i ≤ l.length → bm l i ≤ dmax l l.length := by
  intro i
  induction i with
  | zero => intro _; have := dmax_nonneg l l.length; rw [bm]; omega
  | succ i ih =>
    intro hi
    have h1 := ih (by omega)
    have hil : i < l.length := by omega
    by_cases hc : l[i].c = 91
    · obtain ⟨k, hk⟩ := isCl_ex h0 hil (by rw [hc]; rfl)
      obtain ⟨p, hp, e⟩ := dpI_sub h0 hk fun _ => hc
      obtain ⟨_, hkl⟩ := cl_bound hk
      obtain ⟨hik, _⟩ := cl_open hk fun _ => hc
      rw [bm_open hil hc hk, e]
      have h2 := dep_le_dmax l l.length (i + 1 + p) (by omega)
      have h3 := dep_ge h0 i (by omega)
      have h4 := dep_snoc hil
      have h5 : dlt l[i] = 1 := by unfold dlt; rw [if_pos hc]
      omega
    · rw [bm_other hil hc]; exact h1
theorem bm_mono (l : List Md) : ∀ i j, i ≤ j → bm l i ≤ bm l j := by
  intro i j h
  induction j with
  | zero => obtain rfl : i = 0 := by omega
            exact Int.le_refl _
  | succ j ih =>
    rcases Nat.lt_or_eq_of_le h with h1 | h1
    · have := ih (by omega)
      rw [bm]; split <;> omega
    · subst h1; exact Int.le_refl _
theorem bm_all {l : List Md} (h0 : chk l = 0) : bm l l.length = dmax l l.length := by
  have hle := bm_le h0 l.length (Nat.le_refl _)
  obtain ⟨p, hp, e⟩ := dmax_att l l.length
  have hnn := bm_nonneg l l.length
  by_cases hD : dep (l.take p) ≤ 0
  · omega
  · have hp0 : 0 < p := by
      rcases Nat.eq_zero_or_pos p with h | h
      · subst h; simp [dep_nil] at hD
      · exact h
    obtain ⟨i, hi, q1, q2, q3, q4, q5⟩ := climb (l := l) 1 0 p hp0 hp (by simp [dep_nil]) (by omega)
    obtain ⟨k, hk⟩ := isCl_ex h0 hi (by rw [q3]; rfl)
    obtain ⟨_, hkl⟩ := cl_bound hk
    have hdn := cl_down hk fun _ => q3
    have hpk : p ≤ k := by
      rcases Nat.lt_or_ge k p with h | h
      · exfalso
        have hlt : k + 1 < p := by
          rcases Nat.lt_or_eq_of_le (show k + 1 ≤ p from h) with h1 | h1
          · exact h1
          · rw [h1] at hdn; omega
        obtain ⟨hik, _⟩ := cl_open hk fun _ => q3
        obtain ⟨m, hm, r1, r2, r3, r4, _⟩ := climb (l := l) 1 (k + 1) p hlt hp (by omega) (by omega)
        exact q5 m hm (by omega) r2 ⟨r3, r4⟩
      · exact h
    have h1 := dpI_ge h0 hk (fun _ => q3) (p := p) (by omega) hpk
    have h2 := bm_open hi q3 hk
    have h3 := bm_mono l (i + 1) l.length (by omega)
    omega
theorem sub_mem {l : List Md} {i k : Nat} : ∀ m ∈ sub l i k, m ∈ l := fun m hm => List.mem_of_mem_drop (List.mem_of_mem_take hm)
end Go.Proofs.YtjjjopopalcokaaDoor
