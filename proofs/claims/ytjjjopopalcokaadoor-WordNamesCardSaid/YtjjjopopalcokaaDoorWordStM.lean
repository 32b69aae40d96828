/-
  Where a walk over a word's trunk stands.
-/
import Derived.Test.YtjjjopopalcokaaDoorWordTwin
import Derived.Test.YtjjjopopalcokaaDoorWordClM
namespace Go.Proofs.YtjjjopopalcokaaDoor
open Go.RowKit
open WM
set_option linter.unusedVariables false
set_option linter.unusedSimpArgs false

/-- Modules in a row of the call's own, their args anywhere. -/
theorem mods_of_row {w : World} {base : Nat} {v : Value} {l : List Md} {vs : List Value} (hl : vs.length = l.length) (hr : w.ownsRow base 27 2 v l.length (modC l vs)) (ha : ∀ j, (h : j < l.length) → (h2 : j < vs.length) → Ints w vs[j] l[j].a ∧ NilOr vs[j]) : Mods w v l := by
  rcases Nat.eq_zero_or_pos l.length with h0 | h0
  · have e : l = [] := List.length_eq_zero_iff.1 h0
    subst e
    rcases hr.2 with ⟨hv, _⟩ | ⟨g, cap, cur, hv, _⟩
    · rw [hv]; exact .none _ _
    · rw [hv]; exact .none _ _
  · rcases hr.2 with ⟨_, h1⟩ | ⟨g, cap, cur, hv, hb, hg, hc1, hc2, hsz, htake⟩
    · omega
    · rw [hv]
      have hcell : ∀ j, j < l.length * 2 → w.cell? ⟨g, j, none⟩ = (modC l vs)[j]? := by
        intro j hj
        rw [← htake, List.getElem?_take_of_lt hj, Array.getElem?_toList]
        simp [World.cell?, hg]
      refine .some g 0 cap l h0 (lt_of_block hg) fun i hi => ?_
      have hv2 : i < vs.length := by rw [hl]; exact hi
      obtain ⟨g1, g2⟩ := modC_get l vs i hi hv2
      exact ⟨by rw [Nat.zero_add, hcell _ (by omega), g1], vs[i], by rw [Nat.zero_add, hcell _ (by omega), g2], (ha i hi hv2).1, (ha i hi hv2).2⟩
/-- Where Strip stands. -/
structure StAt (w : World) (l : List Md) (k : Nat) (v : Value) (wr : World) : Prop where
  hi : k ≤ l.length
  below : Below w.heap.size w wr
  own : ∃ vs, vs.length = (trunk l k).length ∧ wr.ownsRow w.heap.size 27 2 v (trunk l k).length (modC (trunk l k) vs) ∧ ∀ j, (h : j < (trunk l k).length) → (h2 : j < vs.length) → Ints w vs[j] (trunk l k)[j].a ∧ NilOr vs[j]
theorem stAt_start (w : World) (l : List Md) {wr : World} (hb : Below w.heap.size w wr) : StAt w l 0 (.slice none 0 0) wr :=
  ⟨Nat.zero_le _, hb, [], rfl, by rw [trunk_zero]; simpa [modC] using World.ownsRow_nil wr w.heap.size 27 2, fun j h => by rw [trunk_zero] at h; simp at h⟩
theorem stAt_mods {w wr : World} {l : List Md} {k : Nat} {v : Value} (h : StAt w l k v wr) : Mods wr v (trunk l k) := by
  obtain ⟨vs, h1, h2, h3⟩ := h.own
  exact mods_of_row h1 h2 fun j hj hj2 => ⟨(h3 j hj hj2).1.later h.below, (h3 j hj hj2).2⟩
theorem stAt_keep {w wr : World} {l : List Md} {k : Nat} {v : Value} (h : StAt w l k v wr) (hk : k < l.length) (hc : (decide (dep (l.take (k + 1)) = 0) && !(l[k].c == 93)) = false) : StAt w l (k + 1) v wr := by
  have e : trunk l (k + 1) = trunk l k := by rw [trunk_succ hk, if_neg (by rw [hc]; simp)]
  exact ⟨hk, h.below, by rw [e]; exact h.own⟩
theorem stAt_step {w wr X3 X4 : World} {l : List Md} {k : Nat} {v v2 : Value} {vs : List Value} {sv : Value} (hk : k < l.length) (hc : (decide (dep (l.take (k + 1)) = 0) && !(l[k].c == 93)) = true)
    (hB : Below w.heap.size w wr) (h1 : vs.length = (trunk l k).length) (h2 : wr.ownsRow w.heap.size 27 2 v (trunk l k).length (modC (trunk l k) vs)) (h3 : ∀ j, (h : j < (trunk l k).length) → (h2 : j < vs.length) → Ints w vs[j] (trunk l k)[j].a ∧ NilOr vs[j])
    (hi : Ints w sv l[k].a) (hn : NilOr sv) (e3 : Below wr.heap.size wr X3)
    (o4 : X4.ownsRow w.heap.size 27 2 v2 ((trunk l k).length + 1) (modC (trunk l k) vs ++ [.int .u8 l[k].c.toNat, sv])) (g4 : X3.grownBy X4 v.ownBlock) : StAt w l (k + 1) v2 X4 := by
  have e : trunk l (k + 1) = trunk l k ++ [l[k]] := by rw [trunk_succ hk, if_pos hc]
  have hvl := owns_lt h2
  have b13 : Below w.heap.size w X3 := hB.trans (e3.mono hB.size)
  refine ⟨hk, b13.grown g4 b13.size (fun j e => (hvl j e).1), vs ++ [sv], by rw [e]; simp [h1], ?_, ?_⟩
  · rw [e, modC_snoc _ _ _ _ h1.symm, List.length_append]; exact o4
  · rw [e]
    intro j hj hj2
    rw [List.length_append, List.length_singleton] at hj
    rcases Nat.lt_or_eq_of_le (Nat.le_of_lt_succ hj) with h | h
    · have hj3 : j < vs.length := by omega
      rw [List.getElem_append_left h, List.getElem_append_left hj3]
      exact h3 j h hj3
    · subst h
      have a1 : (vs ++ [sv])[(trunk l k).length]'hj2 = sv := by rw [List.getElem_append_right (by omega)]; simp
      have a2 : (trunk l k ++ [l[k]])[(trunk l k).length]'(by simp) = l[k] := by simp
      rw [a1, a2]; exact ⟨hi, hn⟩
theorem trunk_mem (l : List Md) : ∀ k, k ≤ l.length → ∀ m ∈ trunk l k, m ∈ l := by
  intro k
  induction k with
  | zero => intro _ m hm; rw [trunk_zero] at hm; simp at hm
  | succ k ih =>
    intro hk m hm
    rw [trunk_succ (by omega)] at hm
    split at hm
    · rcases List.mem_append.1 hm with h | h
      · exact ih (by omega) m h
      · rw [List.mem_singleton.1 h]; exact List.getElem_mem _
    · exact ih (by omega) m hm
/-- How Strip ends. -/
def StEnd (l : List Md) (w : World) (e : Ending) (w' : World) : Prop :=
  Below w.heap.size w w' ∧ ((chk l ≠ 0 ∧ e = .returned (.tuple #[.slice none 0 0, .int .i64 (chk l)])) ∨ (chk l = 0 ∧ ∃ v vs, e = .returned (.tuple #[v, .int .i64 0]) ∧ ModOwn w' w.heap.size v (trunk l l.length) vs))
theorem modOwn_mono {w : World} {b b' : Nat} {v : Value} {l : List Md} {vs : List Value} (h : ModOwn w b v l vs) (hb : b' ≤ b) : ModOwn w b' v l vs :=
  ⟨h.len, owns_mono h.row hb, fun k hk hk2 => by
    have A := h.args k hk hk2
    obtain ⟨g, c, h1, h2, h3⟩ := A.some
    exact ⟨owns_mono A.own hb, ⟨g, c, h1, by omega, h3⟩, A.apart⟩⟩
end Go.Proofs.YtjjjopopalcokaaDoor
