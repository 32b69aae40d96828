/-
  Rows of numbers that a call appends to.
-/
import Derived.Test.YtkjjehnfibfngaaWordRefA
namespace Go.Proofs.Ytkjjehnfibfngaa
open Go.RowKit
open WM
set_option linter.unusedVariables false
set_option linter.unusedSimpArgs false

theorem info_int : (Try.prog.info? 3).map (fun i => (i.zero, i.size, i.bytes)) = some (some (.int .i64 0), 1, 8) := by kernel_rfl
theorem info_parts {P : Program} {t : TypeId} {z : Value} {s b : Nat} (h : (P.info? t).map (fun i => (i.zero, i.size, i.bytes)) = some (some z, s, b)) : ∃ i, P.info? t = some i ∧ i.zero = some z ∧ i.size = s ∧ i.bytes = b := by
  cases hi : P.info? t with
  | none => rw [hi] at h; simp at h
  | some i => rw [hi] at h; simp at h; exact ⟨i, rfl, h.1, h.2.1, h.2.2⟩
def valsL (l : List Int) : List Value := l.map (Value.int .i64)
theorem row_of_owned {w : World} {base n : Nat} {v : Value} {l : List Int} (h : w.ownsRow base 3 1 v n (valsL l)) (hn : n ≠ 0) :
    ∃ g cap, v = .slice (some ⟨g, 0, none⟩) l.length cap ∧ base ≤ g ∧ RowI w g l := by
  obtain ⟨h1, h2⟩ := h
  have hl : l.length = n := by simpa [valsL] using h1
  rcases h2 with ⟨_, h0⟩ | ⟨g, cap, cur, hv, hb, hg, hc1, hc2, hsz, htake⟩
  · exact absurd h0 hn
  · refine ⟨g, cap, by rw [hl]; exact hv, hb, cur, hg, by rw [hsz, hl]; omega, fun i hi => ?_⟩
    have e : (cur.toList.take (n * 1))[i]? = (valsL l)[i]? := by rw [htake]
    rw [List.getElem?_take_of_lt (by omega)] at e
    rw [Array.getElem?_toList] at e
    rw [e]; simp [valsL, hi]
theorem grown_step {w wr w1 : World} {v : Value} {n : Nat} {xs : List Value} {e : TypeId} {tmp : Obj} (hB : Below w.heap.size w wr) (hown : wr.ownsRow w.heap.size e 1 v n xs) (hg : (wr.alloc tmp).grownBy w1 v.ownBlock) : Below w.heap.size w w1 :=
  (hB.alloc hB.size tmp).grown hg (by simp; have := hB.size; omega) fun j ej => (hown.lt j ej).1
theorem valsL_app (a b : List Int) : valsL (a ++ b) = valsL a ++ valsL b := by simp [valsL]
theorem ints_of_owned {w : World} {base : Nat} {v : Value} {l : List Int} (h : w.ownsRow base 3 1 v l.length (valsL l)) : Ints w v l := by
  rcases Nat.eq_zero_or_pos l.length with h0 | h0
  · have e : l = [] := List.length_eq_zero_iff.1 h0
    subst e
    rcases h.2 with ⟨hv, _⟩ | ⟨g, cap, cur, hv, _⟩
    · rw [hv]; exact .none _ _
    · rw [hv]; exact .none _ _
  · obtain ⟨g, cap, rfl, _, hr⟩ := row_of_owned h (by omega)
    exact hr.ints cap
end Go.Proofs.Ytkjjehnfibfngaa
