/-
  The great words of WordNames in memory; the last calls.
-/
import Derived.Test.YtjjjopopalcokaaDoorWordNmM
import Derived.Lib.BufferMore
namespace Go.Proofs.YtjjjopopalcokaaDoor
open Go.RowKit
open WM
set_option linter.unusedVariables false
set_option linter.unusedSimpArgs false

theorem made_get {a b : Value} {n i : Nat} (h : i < n) : (madeCells #[a, b] (n * 2))[i * 2]? = some a ∧ (madeCells #[a, b] (n * 2))[i * 2 + 1]? = some b := by
  have e1 : i * 2 < n * 2 := by omega
  have e2 : i * 2 + 1 < n * 2 := by omega
  have e3 : i * 2 % 2 = 0 := by omega
  have e4 : (i * 2 + 1) % 2 = 1 := by omega
  unfold madeCells
  constructor
  · rw [Array.getElem?_map, Array.getElem?_eq_getElem (by simpa using e1)]; simp
  · rw [Array.getElem?_map, Array.getElem?_eq_getElem (by simpa using e2)]; simp [e4]
theorem mk_many (w : World) : ∃ W1, (Instr.makeSlice 30 (.int .i64 2001) (.int .i64 2001)).run Tryd.prog w = .ok (.slice (some ⟨w.heap.size, 0, none⟩) 2001 2001) W1 ∧ Below w.heap.size w W1 ∧ Mods W1 (.slice (some ⟨w.heap.size, 0, none⟩) 2001 2001) (rep 2001 0) :=
  ⟨_, made_mods 2001 (by decide) w, (Below.refl _ _).alloc (Nat.le_refl _) _, mods_rep (by decide) (heap_alloc_new _ _) fun i hi => made_get hi⟩
/-- Where the loop over half a word stands. -/
structure HfAt (w : World) (k : Nat) (wr : World) : Prop where
  hi : k ≤ 1001
  below : Below w.heap.size w wr
  blk : ∃ cur, wr.heap[w.heap.size]? = some (.cells cur 27 (0, 0)) ∧ cur.size = 2002 ∧ ∀ i, i < 1001 → cur[i * 2]? = some (.int .u8 (if i < k then 70 else 0)) ∧ cur[i * 2 + 1]? = some (.slice none 0 0)
theorem mk_half (w : World) : ∃ W2, (Instr.makeSlice 30 (.int .i64 1001) (.int .i64 1001)).run Tryd.prog w = .ok (.slice (some ⟨w.heap.size, 0, none⟩) 1001 1001) W2 ∧ HfAt w 0 W2 :=
  ⟨_, made_mods 1001 (by decide) w, by decide, (Below.refl _ _).alloc (Nat.le_refl _) _, _, heap_alloc_new _ _, size_madeCells _ _, fun i hi => by
    have := made_get (a := .int .u8 0) (b := .slice none 0 0) hi
    rw [if_neg (by omega)]; exact this⟩
theorem hf_cell {w wr : World} {k : Nat} (h : HfAt w k wr) (hk : k < 1001) : (∃ x, wr.cell? ⟨w.heap.size, k * 2, none⟩ = some x) ∧ wr.frozen? ⟨w.heap.size, k * 2, none⟩ = false ∧ w.heap.size < wr.heap.size := by
  obtain ⟨cur, h1, h2, h3⟩ := h.blk
  exact ⟨⟨_, by simp only [World.cell?, h1]; exact (h3 k hk).1⟩, by simp [World.frozen?, h1], lt_of_block h1⟩
theorem hf_step {w wr : World} {k : Nat} (h : HfAt w k wr) (hk : k < 1001) : HfAt w (k + 1) (wr.setCell ⟨w.heap.size, k * 2, none⟩ (.int .u8 70)) := by
  obtain ⟨cur, h1, h2, h3⟩ := h.blk
  refine ⟨by omega, h.below.setCell (Nat.le_refl _) _, _, Lib.heap_setCell_same (i := k * 2) h1 _, by simp [h2], fun i hi => ?_⟩
  obtain ⟨g1, g2⟩ := h3 i hi
  constructor
  · by_cases e : i = k
    · subst e
      rw [if_pos (by omega), Array.getElem?_setIfInBounds_self_of_lt (by omega)]
    · rw [Array.getElem?_setIfInBounds_ne (by omega), g1]
      by_cases h5 : i < k
      · rw [if_pos h5, if_pos (by omega)]
      · rw [if_neg h5, if_neg (by omega)]
  · rw [Array.getElem?_setIfInBounds_ne (by omega), g2]
theorem hf_end {w wr : World} {n : Nat} (h : HfAt w 1001 wr) (h0 : 0 < n) (hn : n ≤ 1001) : Mods wr (.slice (some ⟨w.heap.size, 0, none⟩) n 1001) (rep n 70) := by
  obtain ⟨cur, h1, h2, h3⟩ := h.blk
  refine mods_rep h0 h1 fun i hi => ?_
  have := h3 i (by omega)
  rw [if_pos (by omega)] at this
  exact this
/-- Join of two halves: too many. -/
theorem join_many (v1 v2 : Value) (n1 : NilOr v1) (n2 : NilOr v2) (w : World) (h1 : Mods w v1 (rep 1001 70)) (h2 : Mods w v2 (rep 1001 70)) :
    Calls Tryd.prog 12 #[v1, v2] w fun e w' => ∃ v, e = .returned (.tuple #[v, .int .i64 4]) ∧ Below w.heap.size w w' := by
  refine (ujoin_any v1 v2 _ _ (by rw [rep_len]; decide) (by rw [rep_len]; decide) (fun m hm => by have := rep_args _ _ m hm; omega) (fun m hm => by have := rep_args _ _ m hm; omega) n1 n2 w h1 h2).mono ?_
  rintro e w' ⟨v, vs, rfl, hb, hm⟩
  exact ⟨v, by rw [half_two], hb⟩
theorem join_full (v1 v2 : Value) (n1 : NilOr v1) (n2 : NilOr v2) (w : World) (h1 : Mods w v1 (rep 1001 70)) (h2 : Mods w v2 (rep 999 70)) :
    Calls Tryd.prog 12 #[v1, v2] w fun e w' => ∃ p cap, e = .returned (.tuple #[.slice p 2000 cap, .int .i64 0]) ∧ Below w.heap.size w w' := by
  refine (ujoin_any v1 v2 _ _ (by rw [rep_len]; decide) (by rw [rep_len]; decide) (fun m hm => by have := rep_args _ _ m hm; omega) (fun m hm => by have := rep_args _ _ m hm; omega) n1 n2 w h1 h2).mono ?_
  rintro e w' ⟨v, vs, rfl, hb, hm⟩
  obtain ⟨p, cap, rfl⟩ := hm.mods.slice
  exact ⟨p, cap, by rw [half_full.1, half_full.2], hb⟩
theorem strip_open (w : World) :
    Calls Tryd.prog 13 #[.slice (some ⟨w.heap.size, 0, none⟩) 1 1] (w.alloc (.cells #[.int .u8 91, .slice none 0 0] 27)) fun e w' => ∃ v, e = .returned (.tuple #[v, .int .i64 28]) ∧ Below w.heap.size w w' := by
  refine (ustrip_any _ [⟨91, []⟩] (by decide) (by simp) _ (mods_one rfl (heap_alloc_new _ _))).mono ?_
  rintro e w' ⟨v, vs, rfl, hb, hm⟩
  exact ⟨v, by rw [ck_open], ((Below.refl _ _).alloc (Nat.le_refl _) _).trans (hb.mono (by simp))⟩
theorem last_any (w : World) (he : Env w) :
    Calls Tryd.prog 14 #[.string ⟨#[38, 40, 48, 41, 94, 124, 33, 45, 91, 122, 40, 45, 49, 48, 48, 48, 48, 48, 48, 48, 48, 48, 41, 93, 91, 93]⟩] w fun e w' => ∃ p cap, e = .returned (.tuple #[.slice p 10 cap, .int .i64 0]) ∧ Below w.heap.size w w' ∧ Mods w' (.slice p 10 cap) lastL := by
  refine (pparse_any lastS (by decide) w he).mono ?_
  rintro e w' ⟨v, vs, rfl, hb, hm⟩
  rw [last_p.2] at hm
  obtain ⟨p, cap, rfl⟩ := hm.mods.slice
  exact ⟨p, cap, by rw [last_p.1]; rfl, hb, hm.mods⟩
theorem many_any (w : World) (v : Value) (h : Mods w v (rep 2001 0)) :
    Calls Tryd.prog 15 #[v] w fun e w' => e = .returned (.int .i64 4) ∧ Below w.heap.size w w' := by
  have := pcheck_any v (rep 2001 0) (by rw [rep_len]; decide) (fun m hm => by have := rep_args _ _ m hm; omega) w h
  rwa [many_chk] at this
theorem count_last (w : World) (v : Value) (h : Mods w v lastL) :
    Calls Tryd.prog 16 #[v, .int .u8 91] w fun e w' => e = .returned (.int .i64 2) ∧ w = w' := by
  have := pcount_any v lastL 91 (by decide) w h
  rw [last_cnt] at this
  exact this
end Go.Proofs.YtjjjopopalcokaaDoor
