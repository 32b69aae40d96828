/-
  What depths and the brackets that belong to each other are; Open of a valid word.
-/
import Derived.Test.YtkjjehnfibfngaaWordRefC
namespace Go.Proofs.Ytkjjehnfibfngaa
open Go.RowKit
open WM
set_option linter.unusedVariables false
set_option linter.unusedSimpArgs false

theorem ret_two {a b c d : Int} (h1 : a = b) (h2 : c = d) : Ending.returned (.tuple #[.int .i64 a, .int .i64 c]) = .returned (.tuple #[.int .i64 b, .int .i64 d]) := by rw [h1, h2]
theorem opn_rng {l : List Md} (h : okB l l.length = true) {k : Nat} (hk : k < l.length) : 0 ≤ dep (l.take (k + 1)) ∧ dep (l.take (k + 1)) ≤ l.length := by
  have h1 := okB_iff.1 h k hk
  have h2 := dep_hi l (k + 1) (by omega)
  omega
theorem dmax_le {l : List Md} (h : okB l l.length = true) : ∀ k, k ≤ l.length → dmax l k ≤ l.length := by
  intro k
  induction k with
  | zero => intro _; rw [dmax_zero]; omega
  | succ k ih =>
    intro hk
    have := opn_rng h (k := k) (by omega)
    have := ih (by omega)
    rw [dmax_succ]; omega
/-- Open of a valid word. -/
theorem open_valid (v : Value) (l : List Md) (hc : chk l = 0) (w : World) (hv : Mods w v l) :
    Calls Try.prog 44 #[v] w fun e w' => ∃ p cap, e = .returned (.tuple #[.slice p l.length cap, .bool true]) ∧ Below w.heap.size w w' ∧ Ints w' (.slice p l.length cap) (opnL l l.length) := by
  have hh := chk_zero.1 hc
  refine (open_any v l (by omega) w hv).mono ?_
  rintro e w' ⟨hb, ⟨hno, _⟩ | ⟨_, v1, rfl, hi⟩⟩
  · rw [hh.2.2.1] at hno; exact absurd hno (by simp)
  · obtain ⟨p, cap, rfl⟩ := hi.slice
    rw [opnL_length] at hi ⊢
    exact ⟨p, cap, rfl, hb, hi⟩
def dpI (l : List Md) : Int := if chk l = 0 then dmax l l.length else 0
/-- k is the bracket that belongs to the one at i. -/
def IsCl (l : List Md) (i k : Nat) : Prop :=
  ∃ (hi : i < l.length) (hk : k < l.length),
  (l[i].c = 91 ∧ i < k ∧ dep (l.take (k + 1)) < dep (l.take (i + 1)) ∧ ∀ j, i < j → j < k → dep (l.take (i + 1)) ≤ dep (l.take (j + 1))) ∨
  (l[i].c = 93 ∧ k < i ∧ l[k].c = 91 ∧ dep (l.take (k + 1)) = dep (l.take (i + 1)) + 1 ∧ ∀ j, (hj : j < l.length) → k < j → j < i → ¬ (l[j].c = 91 ∧ dep (l.take (j + 1)) = dep (l.take (i + 1)) + 1))
theorem isCl_one {l : List Md} {i k k' : Nat} (h : IsCl l i k) (h' : IsCl l i k') : k = k' := by
  obtain ⟨hi, hk, h⟩ := h
  obtain ⟨_, hk', h'⟩ := h'
  rcases h with ⟨a1, a2, a3, a4⟩ | ⟨a1, a2, a3, a4, a5⟩
  · rcases h' with ⟨_, b2, b3, b4⟩ | ⟨b1, _⟩
    · rcases Nat.lt_trichotomy k k' with h | h | h
      · have := b4 k a2 h; omega
      · exact h
      · have := a4 k' b2 h; omega
    · rw [a1] at b1; exact absurd b1 (by decide)
  · rcases h' with ⟨b1, _⟩ | ⟨_, b2, b3, b4, b5⟩
    · rw [a1] at b1; exact absurd b1 (by decide)
    · rcases Nat.lt_trichotomy k k' with h | h | h
      · exact absurd ⟨b3, b4⟩ (a5 k' hk' h b2)
      · exact h
      · exact absurd ⟨a3, a4⟩ (b5 k hk h a2)
/-- Has a module at i, which is a bracket? -/
def atB (l : List Md) (i : Int) : Bool := decide (0 ≤ i) && decide (i < l.length) && braB (l.getD i.toNat ⟨0, []⟩).c
theorem atB_iff {l : List Md} {i : Int} : atB l i = true ↔ ∃ k : Nat, i = (k : Int) ∧ ∃ h : k < l.length, braB l[k].c = true := by
  unfold atB
  simp only [Bool.and_eq_true, decide_eq_true_eq]
  constructor
  · rintro ⟨⟨h1, h2⟩, h3⟩
    have hk : i.toNat < l.length := by omega
    exact ⟨i.toNat, by omega, hk, by simpa [List.getD, hk] using h3⟩
  · rintro ⟨k, rfl, h, h3⟩
    exact ⟨⟨by omega, by omega⟩, by simpa [List.getD, h] using h3⟩
theorem bra_cases {c : UInt8} (h : braB c = true) : c = 91 ∨ c = 93 := by
  unfold braB at h; simpa using h
/-- How Close ends. -/
def ClEnd (l : List Md) (i : Int) (w : World) (e : Ending) (w' : World) : Prop :=
  Below w.heap.size w w' ∧ ((chk l ≠ 0 ∧ e = .returned (.tuple #[.int .i64 0, .int .i64 (chk l)])) ∨ (chk l = 0 ∧ atB l i = false ∧ e = .returned (.tuple #[.int .i64 0, .int .i64 2])) ∨
    (chk l = 0 ∧ ∃ j k : Nat, i = (j : Int) ∧ IsCl l j k ∧ e = .returned (.tuple #[.int .i64 (k : Int), .int .i64 0])))
end Go.Proofs.Ytkjjehnfibfngaa
