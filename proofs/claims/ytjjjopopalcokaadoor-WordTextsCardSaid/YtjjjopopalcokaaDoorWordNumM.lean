/-
  Where the digits of a number stop: for the reference's number. No program in sight.
-/
import Derived.Test.YtjjjopopalcokaaDoorWordRead
namespace Go.Proofs.YtjjjopopalcokaaDoor
namespace WM
set_option linter.unusedVariables false
set_option linter.unusedSimpArgs false

theorem takeD_stop : ∀ (n : Nat) (l : Bs) (j : Nat), (∀ c ∈ l.take j, digP c = true) → j ≤ n → j ≤ l.length → (j = n ∨ j = l.length ∨ ∃ h : j < l.length, digP l[j] = false) → takeD n l = l.take j
  | 0, l, j, _, hj, _, _ => by
    obtain rfl : j = 0 := by omega
    simp [takeD]
  | n + 1, [], j, _, _, hl, _ => by
    obtain rfl : j = 0 := by simpa using hl
    simp [takeD]
  | n + 1, a :: l, 0, _, _, _, h => by
    rcases h with h | h | ⟨h1, h2⟩
    · omega
    · simp at h
    · have h3 : digP a = false := by simpa using h2
      simp [takeD, h3]
  | n + 1, a :: l, j + 1, hd, hj, hl, h => by
    have ha : digP a = true := hd a (by simp)
    have ih := takeD_stop n l j (fun c hc => hd c (by rw [List.take_succ_cons]; exact List.mem_cons_of_mem _ hc)) (by omega) (by simpa using hl) (by
      rcases h with h | h | ⟨h1, h2⟩
      · exact .inl (by omega)
      · exact .inr (.inl (by simpa using h))
      · exact .inr (.inr ⟨by simpa using h1, by simpa using h2⟩))
    unfold takeD
    rw [if_pos ha, ih, List.take_succ_cons]
/-- A number that is there: what number answers. -/
theorem numR_some {s d : Bs} {g : Bool} {r : Bs} (hs : signR s = (g, r)) (hd : takeD 10 r = d) (h : numB g d = true) : numR s = some (numI g d, r.drop d.length) := by
  unfold numR
  rw [hs]
  simp only
  rw [hd, if_pos h]
theorem numR_none {s d : Bs} {g : Bool} {r : Bs} (hs : signR s = (g, r)) (hd : takeD 10 r = d) (h : numB g d = false) : numR s = none := by
  unfold numR
  rw [hs]
  simp only
  rw [hd, if_neg (by rw [h]; simp)]
theorem valF_lt : ∀ (n : Nat) (l : Bs), l.length = n → (∀ c ∈ l, digP c = true) → valF 0 l < 10 ^ n := by
  intro n
  induction n with
  | zero => intro l hl _; rw [List.length_eq_zero_iff.1 hl]; simp [valF]
  | succ n ih =>
    intro l hl hd
    rcases List.eq_nil_or_concat l with h | ⟨l', c, h⟩
    · subst h; simp at hl
    · rw [List.concat_eq_append] at h
      subst h
      rw [valF_snoc]
      have h1 := ih l' (by simpa using hl) (fun x hx => hd x (List.mem_append_left _ hx))
      have h2 := digP_iff.1 (hd c (by simp))
      rw [Nat.pow_succ]; omega
end WM
end Go.Proofs.YtjjjopopalcokaaDoor
