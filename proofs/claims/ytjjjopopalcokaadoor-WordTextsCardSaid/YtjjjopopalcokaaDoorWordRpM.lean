/-
  How the reference's Parse reads. No program in sight.
-/
import Derived.Test.YtjjjopopalcokaaDoorWordRead
namespace Go.Proofs.YtjjjopopalcokaaDoor
open WM
set_option linter.unusedVariables false
set_option linter.unusedSimpArgs false

/-- Where the args' reading stands: behind the args a, at m; the module begins at k. -/
def AAt (L : Bs) (k : Nat) (a : List Int) (m : Nat) : Prop := ∃ f, L.length - m ≤ f ∧ argsR (L.drop (k + 1)).length [] (L.drop (k + 1)) = argsR f a (L.drop m)
theorem aat_start (L : Bs) (k : Nat) : AAt L k [] (k + 1) := ⟨_, by rw [List.length_drop]; exact Nat.le_refl _, rfl⟩
theorem aat_more {L : Bs} {k m m2 : Nat} {a : List Int} {n : Int} (h : AAt L k a m) (hm : m < L.length) (hb : moreB a L[m] = true) (hn : numR (L.drop (m + 1)) = some (n, L.drop m2)) (hlt : m < m2) : AAt L k (a ++ [n]) m2 := by
  obtain ⟨f, hf, e⟩ := h
  obtain ⟨f, rfl⟩ : ∃ g, f = g + 1 := ⟨f - 1, by omega⟩
  refine ⟨f, by omega, ?_⟩
  rw [e, List.drop_eq_getElem_cons hm, argsR, if_pos hb, hn]
theorem aat_bad {L : Bs} {k m : Nat} {a : List Int} (h : AAt L k a m) (hm : m < L.length) (hb : moreB a L[m] = true) (hn : numR (L.drop (m + 1)) = none) : argsR (L.drop (k + 1)).length [] (L.drop (k + 1)) = none := by
  obtain ⟨f, hf, e⟩ := h
  obtain ⟨f, rfl⟩ : ∃ g, f = g + 1 := ⟨f - 1, by omega⟩
  rw [e, List.drop_eq_getElem_cons hm, argsR, if_pos hb, hn]
theorem aat_stop {L : Bs} {k m : Nat} {a : List Int} (h : AAt L k a m) (hs : ∀ hm : m < L.length, moreB a L[m] = false) : argsR (L.drop (k + 1)).length [] (L.drop (k + 1)) = some (a, L.drop m) := by
  obtain ⟨f, hf, e⟩ := h
  rw [e]
  by_cases hm : m < L.length
  · obtain ⟨f, rfl⟩ : ∃ g, f = g + 1 := ⟨f - 1, by omega⟩
    rw [List.drop_eq_getElem_cons hm, argsR, if_neg (by rw [hs hm]; decide)]
  · rw [List.drop_of_length_le (by omega)]
    cases f <;> rfl
theorem rmod_none {L : Bs} {k : Nat} (hk : k < L.length) (h : argsR (L.drop (k + 1)).length [] (L.drop (k + 1)) = none) : modR (L.drop k) = none := by
  rw [List.drop_eq_getElem_cons hk, modR, h]
theorem rmod_bare {L : Bs} {k m : Nat} (hk : k < L.length) (h : argsR (L.drop (k + 1)).length [] (L.drop (k + 1)) = some ([], L.drop m)) : modR (L.drop k) = some (⟨L[k], []⟩, L.drop m) := by
  rw [List.drop_eq_getElem_cons hk, modR, h]
theorem rmod_args {L : Bs} {k m : Nat} {a : List Int} (hk : k < L.length) (ha : a ≠ []) (hm : m < L.length) (h41 : L[m] = 41) (h : argsR (L.drop (k + 1)).length [] (L.drop (k + 1)) = some (a, L.drop m)) : modR (L.drop k) = some (⟨L[k], a⟩, L.drop (m + 1)) := by
  rw [List.drop_eq_getElem_cons hk, modR, h, List.drop_eq_getElem_cons hm, h41]
  cases a with
  | nil => exact absurd rfl ha
  | cons x a => rfl
theorem rmod_bad {L : Bs} {k m : Nat} {a : List Int} (hk : k < L.length) (ha : a ≠ []) (hm : ∀ hm : m < L.length, L[m] ≠ 41) (h : argsR (L.drop (k + 1)).length [] (L.drop (k + 1)) = some (a, L.drop m)) : modR (L.drop k) = none := by
  rw [List.drop_eq_getElem_cons hk, modR, h]
  cases a with
  | nil => exact absurd rfl ha
  | cons x a =>
    by_cases hl : m < L.length
    · rw [List.drop_eq_getElem_cons hl]
      have := hm hl
      generalize L[m] = y at this
      split
      · rename_i e; simp at e
      · rename_i e; simp at e
      · rename_i e; simp only [Option.some.injEq, Prod.mk.injEq, List.cons.injEq] at e; exact absurd e.2.1 this
      · rfl
    · rw [List.drop_of_length_le (by omega)]
/-- Where the word's reading stands: behind the modules d, at k. -/
def OAt (L : Bs) (d : List Md) (k : Nat) : Prop := ∃ f, L.length - k ≤ f ∧ wordR L.length L = (wordR f (L.drop k)).map (d ++ ·)
theorem oat_start (L : Bs) : OAt L [] 0 := ⟨L.length, by omega, by simp⟩
theorem oat_step {L : Bs} {d : List Md} {k k' : Nat} {m : Md} (h : OAt L d k) (hk : k < L.length) (hm : modR (L.drop k) = some (m, L.drop k')) (hlt : k < k') : OAt L (d ++ [m]) k' := by
  obtain ⟨f, hf, e⟩ := h
  obtain ⟨f, rfl⟩ : ∃ g, f = g + 1 := ⟨f - 1, by omega⟩
  refine ⟨f, by omega, ?_⟩
  rw [List.drop_eq_getElem_cons hk] at hm e
  rw [e, wordR, hm]
  simp only [Option.map_map]
  congr 1
  funext x
  simp
theorem oat_none {L : Bs} {d : List Md} {k : Nat} (h : OAt L d k) (hk : k < L.length) (hm : modR (L.drop k) = none) : prs L = none := by
  obtain ⟨f, hf, e⟩ := h
  obtain ⟨f, rfl⟩ : ∃ g, f = g + 1 := ⟨f - 1, by omega⟩
  rw [List.drop_eq_getElem_cons hk] at hm e
  rw [wordR, hm] at e
  unfold prs; rw [e]; rfl
theorem oat_end {L : Bs} {d : List Md} {k : Nat} (h : OAt L d k) (hk : L.length ≤ k) : wordR L.length L = some d := by
  obtain ⟨f, hf, e⟩ := h
  rw [List.drop_of_length_le hk] at e
  rw [e]
  cases f <;> simp [wordR]
theorem prs_of {L : Bs} {d : List Md} (h : wordR L.length L = some d) : prs L = if chk d = 0 then some d else none := by
  unfold prs; rw [h]; rfl
theorem moreB_nil {c : UInt8} : moreB [] c = (c == 40) := by simp [moreB]
theorem moreB_cons {a : List Int} {c : UInt8} (h : a ≠ []) : moreB a c = (c == 44) := by
  cases a with
  | nil => exact absurd rfl h
  | cons x a => simp [moreB]
end Go.Proofs.YtjjjopopalcokaaDoor
