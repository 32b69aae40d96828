/-
  The chapter's constants, errors and forms, as RatioNames asks for them.
-/
import Derived.Test.YtchjkjhkmhkjeaaDoorRatBack
import Derived.Test.YtchjkjhkmhkjeaaDoorRatSum
import Derived.Test.YtchjkjhkmhkjeaaDoorRatAlive
namespace Go.Proofs.YtchjkjhkmhkjeaaDoor
open Go.RowKit
open RM
set_option linter.unusedVariables false
set_option linter.unusedSimpArgs false

theorem nm_zero (w : World) : Calls Tryd.prog 10 #[.int .i64 1, .int .i64 0] w fun e w' => e = .returned (.tuple #[.agg #[.int .i64 0, .int .i64 0], .int .i64 18]) ∧ Below w.heap.size w w' := by
  have h := make_any 1 0 (by decide) (by decide) (by decide) (by decide) w
  rw [show mkN 1 0 = 0 by decide +kernel, show mkD 1 0 = 0 by decide +kernel, show mkE 1 0 = 18 by decide +kernel] at h
  exact h
theorem nm_big (w : World) : Calls Tryd.prog 10 #[.int .i64 1, .int .i64 1000000001] w fun e w' => e = .returned (.tuple #[.agg #[.int .i64 0, .int .i64 0], .int .i64 16]) ∧ Below w.heap.size w w' := by
  have h := make_any 1 1000000001 (by decide) (by decide) (by decide) (by decide) w
  rw [show mkN 1 1000000001 = 0 by decide +kernel, show mkD 1 1000000001 = 0 by decide +kernel, show mkE 1 1000000001 = 16 by decide +kernel] at h
  exact h
theorem nm_least (w : World) : Calls Tryd.prog 10 #[.int .i64 (-9223372036854775808), .int .i64 (-9223372036854775808)] w fun e w' => e = .returned (.tuple #[.agg #[.int .i64 1, .int .i64 1], .int .i64 0]) ∧ Below w.heap.size w w' := by
  have h := make_any (-9223372036854775808) (-9223372036854775808) (by decide) (by decide) (by decide) (by decide) w
  rw [show mkN (-9223372036854775808) (-9223372036854775808) = 1 by decide +kernel, show mkD (-9223372036854775808) (-9223372036854775808) = 1 by decide +kernel, show mkE (-9223372036854775808) (-9223372036854775808) = 0 by decide +kernel] at h
  exact h
theorem nm_two (w : World) : Calls Tryd.prog 10 #[.int .i64 (-9223372036854775808), .int .i64 4611686018427387904] w fun e w' => e = .returned (.tuple #[.agg #[.int .i64 (-2), .int .i64 1], .int .i64 0]) ∧ Below w.heap.size w w' := by
  have h := make_any (-9223372036854775808) 4611686018427387904 (by decide) (by decide) (by decide) (by decide) w
  rw [show mkN (-9223372036854775808) 4611686018427387904 = (-2) by decide +kernel, show mkD (-9223372036854775808) 4611686018427387904 = 1 by decide +kernel, show mkE (-9223372036854775808) 4611686018427387904 = 0 by decide +kernel] at h
  exact h
theorem nm_far (w : World) : Calls Tryd.prog 10 #[.int .i64 (-9223372036854775808), .int .i64 1] w fun e w' => e = .returned (.tuple #[.agg #[.int .i64 0, .int .i64 0], .int .i64 16]) ∧ Below w.heap.size w w' := by
  have h := make_any (-9223372036854775808) 1 (by decide) (by decide) (by decide) (by decide) w
  rw [show mkN (-9223372036854775808) 1 = 0 by decide +kernel, show mkD (-9223372036854775808) 1 = 0 by decide +kernel, show mkE (-9223372036854775808) 1 = 16 by decide +kernel] at h
  exact h
theorem nm_div (w : World) : Calls Tryd.prog 16 #[.agg #[.int .i64 1, .int .i64 2], .agg #[.int .i64 0, .int .i64 1]] w fun e w' => e = .returned (.tuple #[.agg #[.int .i64 0, .int .i64 0], .int .i64 18]) ∧ Below w.heap.size w w' := by
  have h := div_any 1 2 0 1 w
  rw [show op2N (vld 1 2 && vld 0 1) (1 * 1) (2 * 0) = 0 by decide +kernel, show op2D (vld 1 2 && vld 0 1) (1 * 1) (2 * 0) = 0 by decide +kernel, show op2E (vld 1 2 && vld 0 1) (1 * 1) (2 * 0) = 18 by decide +kernel] at h
  exact h
theorem nm_bad (w : World) : Calls Tryd.prog 18 #[.agg #[.int .i64 1, .int .i64 2], .agg #[.int .i64 2, .int .i64 4]] w fun e w' => e = .returned (.tuple #[.agg #[.int .i64 0, .int .i64 0], .int .i64 8]) ∧ Below w.heap.size w w' := by
  have h := add_any 1 2 2 4 w
  rw [show op2N (vld 1 2 && vld 2 4) (1 * 4 + 2 * 2) (2 * 4) = 0 by decide +kernel, show op2D (vld 1 2 && vld 2 4) (1 * 4 + 2 * 2) (2 * 4) = 0 by decide +kernel, show op2E (vld 1 2 && vld 2 4) (1 * 4 + 2 * 2) (2 * 4) = 8 by decide +kernel] at h
  exact h
theorem nm_sum (w : World) : Calls Tryd.prog 18 #[.agg #[.int .i64 1000000000, .int .i64 1], .agg #[.int .i64 1, .int .i64 1]] w fun e w' => e = .returned (.tuple #[.agg #[.int .i64 0, .int .i64 0], .int .i64 16]) ∧ Below w.heap.size w w' := by
  have h := add_any 1000000000 1 1 1 w
  rw [show op2N (vld 1000000000 1 && vld 1 1) (1000000000 * 1 + 1 * 1) (1 * 1) = 0 by decide +kernel, show op2D (vld 1000000000 1 && vld 1 1) (1000000000 * 1 + 1 * 1) (1 * 1) = 0 by decide +kernel, show op2E (vld 1000000000 1 && vld 1 1) (1000000000 * 1 + 1 * 1) (1 * 1) = 16 by decide +kernel] at h
  exact h

theorem sum_long {rs : List (Int × Int)} (h : 200 < rs.length) : sumN rs = 0 ∧ sumD rs = 0 ∧ sumE rs = 4 := by
  have e : sumStep rs = (0, 1, 4) := by unfold sumStep; rw [if_pos h]
  simp [sumN, sumD, sumE, e, outN]
theorem sum_zeros {l : List (Int × Int)} (h : (((0, 0) : Int × Int) :: l).length ≤ 200) : sumN ((0, 0) :: l) = 0 ∧ sumD ((0, 0) :: l) = 0 ∧ sumE ((0, 0) :: l) = 8 := by
  have h0 : addE 0 1 0 0 = 8 := by decide
  have e : sumStep ((0, 0) :: l) = (0, 1, 8) := by unfold sumStep; rw [if_neg (by omega)]; simp [run, h0]
  simp [sumN, sumD, sumE, e, outN]
theorem nm_many (sv : Value) (w : World) (h : Elems w sv (List.replicate 201 (0, 0))) : Calls Tryd.prog 19 #[sv] w fun e w' => e = .returned (.tuple #[.agg #[.int .i64 0, .int .i64 0], .int .i64 4]) ∧ Below w.heap.size w w' := by
  have hl : (List.replicate 201 ((0, 0) : Int × Int)).length = 201 := List.length_replicate
  obtain ⟨e1, e2, e3⟩ := sum_long (rs := List.replicate 201 (0, 0)) (by omega)
  have h := sum_any sv _ (by omega) w h
  rwa [e1, e2, e3] at h
theorem nm_ones (sv : Value) (w : World) (h : Elems w sv (List.replicate 200 (0, 0))) : Calls Tryd.prog 19 #[sv] w fun e w' => e = .returned (.tuple #[.agg #[.int .i64 0, .int .i64 0], .int .i64 8]) ∧ Below w.heap.size w w' := by
  have hl : (List.replicate 200 ((0, 0) : Int × Int)).length = 200 := List.length_replicate
  rw [show List.replicate 200 ((0, 0) : Int × Int) = (0, 0) :: List.replicate 199 (0, 0) from List.replicate_succ] at h hl
  obtain ⟨e1, e2, e3⟩ := sum_zeros (l := List.replicate 199 (0, 0)) (by omega)
  have h := sum_any sv _ (by omega) w h
  rwa [e1, e2, e3] at h
theorem nm_none (sv : Value) (w : World) (h : Elems w sv []) : Calls Tryd.prog 19 #[sv] w fun e w' => e = .returned (.tuple #[.agg #[.int .i64 0, .int .i64 1], .int .i64 0]) ∧ Below w.heap.size w w' := sum_any sv [] (by simp) w h

def formCells : Array Value := #[.string ⟨#[]⟩, .string ⟨#[45]⟩, .string ⟨#[47]⟩, .string ⟨#[49, 47]⟩, .string ⟨#[47, 50]⟩, .string ⟨#[50, 47, 52]⟩, .string ⟨#[49, 47, 49]⟩, .string ⟨#[48, 49]⟩, .string ⟨#[45, 48]⟩, .string ⟨#[48, 47, 50]⟩, .string ⟨#[49, 47, 48]⟩, .string ⟨#[49, 47, 45, 50]⟩, .string ⟨#[43, 49]⟩, .string ⟨#[49, 48, 48, 48, 48, 48, 48, 48, 48, 49]⟩, .string ⟨#[49, 47, 49, 48, 48, 48, 48, 48, 48, 48, 48, 49]⟩, .string ⟨#[49, 32]⟩, .string ⟨#[49, 50, 51, 52, 53, 54, 55, 56, 57, 48, 49]⟩]
def formList : List ByteArray := [⟨#[]⟩, ⟨#[45]⟩, ⟨#[47]⟩, ⟨#[49, 47]⟩, ⟨#[47, 50]⟩, ⟨#[50, 47, 52]⟩, ⟨#[49, 47, 49]⟩, ⟨#[48, 49]⟩, ⟨#[45, 48]⟩, ⟨#[48, 47, 50]⟩, ⟨#[49, 47, 48]⟩, ⟨#[49, 47, 45, 50]⟩, ⟨#[43, 49]⟩, ⟨#[49, 48, 48, 48, 48, 48, 48, 48, 48, 49]⟩, ⟨#[49, 47, 49, 48, 48, 48, 48, 48, 48, 48, 48, 49]⟩, ⟨#[49, 32]⟩, ⟨#[49, 50, 51, 52, 53, 54, 55, 56, 57, 48, 49]⟩]
theorem form_at {k : Nat} (h : k < 17) : ∃ F, formCells[k]? = some (.string F) ∧ F ∈ formList := by
  have : k = 0 ∨ k = 1 ∨ k = 2 ∨ k = 3 ∨ k = 4 ∨ k = 5 ∨ k = 6 ∨ k = 7 ∨ k = 8 ∨ k = 9 ∨ k = 10 ∨ k = 11 ∨ k = 12 ∨ k = 13 ∨ k = 14 ∨ k = 15 ∨ k = 16 := by omega
  rcases this with rfl | rfl | rfl | rfl | rfl | rfl | rfl | rfl | rfl | rfl | rfl | rfl | rfl | rfl | rfl | rfl | rfl
  · exact ⟨formList[0]'(by decide), rfl, List.getElem_mem _⟩
  · exact ⟨formList[1]'(by decide), rfl, List.getElem_mem _⟩
  · exact ⟨formList[2]'(by decide), rfl, List.getElem_mem _⟩
  · exact ⟨formList[3]'(by decide), rfl, List.getElem_mem _⟩
  · exact ⟨formList[4]'(by decide), rfl, List.getElem_mem _⟩
  · exact ⟨formList[5]'(by decide), rfl, List.getElem_mem _⟩
  · exact ⟨formList[6]'(by decide), rfl, List.getElem_mem _⟩
  · exact ⟨formList[7]'(by decide), rfl, List.getElem_mem _⟩
  · exact ⟨formList[8]'(by decide), rfl, List.getElem_mem _⟩
  · exact ⟨formList[9]'(by decide), rfl, List.getElem_mem _⟩
  · exact ⟨formList[10]'(by decide), rfl, List.getElem_mem _⟩
  · exact ⟨formList[11]'(by decide), rfl, List.getElem_mem _⟩
  · exact ⟨formList[12]'(by decide), rfl, List.getElem_mem _⟩
  · exact ⟨formList[13]'(by decide), rfl, List.getElem_mem _⟩
  · exact ⟨formList[14]'(by decide), rfl, List.getElem_mem _⟩
  · exact ⟨formList[15]'(by decide), rfl, List.getElem_mem _⟩
  · exact ⟨formList[16]'(by decide), rfl, List.getElem_mem _⟩
theorem par_of {s : ByteArray} {n d : Int} (h1 : looseN s = n) (h2 : looseD s = d) (h : vld n d = true → textB n d ≠ s) : parE s = 12 := by
  unfold parE
  rw [h1, h2, if_neg (fun hh => h hh.1 hh.2)]
theorem form_0 : parE ⟨#[]⟩ = 12 := par_of (n := 0) (d := 1) (by decide +kernel) (by decide +kernel) (fun _ h => by have := congrArg (fun b : ByteArray => b.data.toList) h; revert this; simp [textB, textL, Lib.itoa, Lib.decDigits])
theorem form_1 : parE ⟨#[45]⟩ = 12 := par_of (n := 0) (d := 1) (by decide +kernel) (by decide +kernel) (fun _ h => by have := congrArg (fun b : ByteArray => b.data.toList) h; revert this; simp [textB, textL, Lib.itoa, Lib.decDigits])
theorem form_2 : parE ⟨#[47]⟩ = 12 := par_of (n := 0) (d := 0) (by decide +kernel) (by decide +kernel) (fun h => absurd h (by decide +kernel))
theorem form_3 : parE ⟨#[49, 47]⟩ = 12 := par_of (n := 1) (d := 0) (by decide +kernel) (by decide +kernel) (fun h => absurd h (by decide +kernel))
theorem form_4 : parE ⟨#[47, 50]⟩ = 12 := par_of (n := 0) (d := 2) (by decide +kernel) (by decide +kernel) (fun h => absurd h (by decide +kernel))
theorem form_5 : parE ⟨#[50, 47, 52]⟩ = 12 := par_of (n := 2) (d := 4) (by decide +kernel) (by decide +kernel) (fun h => absurd h (by decide +kernel))
theorem form_6 : parE ⟨#[49, 47, 49]⟩ = 12 := par_of (n := 1) (d := 1) (by decide +kernel) (by decide +kernel) (fun _ h => by have := congrArg (fun b : ByteArray => b.data.toList) h; revert this; simp [textB, textL, Lib.itoa, Lib.decDigits])
theorem form_7 : parE ⟨#[48, 49]⟩ = 12 := par_of (n := 1) (d := 1) (by decide +kernel) (by decide +kernel) (fun _ h => by have := congrArg (fun b : ByteArray => b.data.toList) h; revert this; simp [textB, textL, Lib.itoa, Lib.decDigits])
theorem form_8 : parE ⟨#[45, 48]⟩ = 12 := par_of (n := 0) (d := 1) (by decide +kernel) (by decide +kernel) (fun _ h => by have := congrArg (fun b : ByteArray => b.data.toList) h; revert this; simp [textB, textL, Lib.itoa, Lib.decDigits])
theorem form_9 : parE ⟨#[48, 47, 50]⟩ = 12 := par_of (n := 0) (d := 2) (by decide +kernel) (by decide +kernel) (fun h => absurd h (by decide +kernel))
theorem form_10 : parE ⟨#[49, 47, 48]⟩ = 12 := par_of (n := 1) (d := 0) (by decide +kernel) (by decide +kernel) (fun h => absurd h (by decide +kernel))
theorem form_11 : parE ⟨#[49, 47, 45, 50]⟩ = 12 := par_of (n := 1) (d := (-28)) (by decide +kernel) (by decide +kernel) (fun h => absurd h (by decide +kernel))
theorem form_12 : parE ⟨#[43, 49]⟩ = 12 := par_of (n := (-49)) (d := 1) (by decide +kernel) (by decide +kernel) (fun _ h => by have := congrArg (fun b : ByteArray => b.data.toList) h; revert this; simp [textB, textL, Lib.itoa, Lib.decDigits])
theorem form_13 : parE ⟨#[49, 48, 48, 48, 48, 48, 48, 48, 48, 49]⟩ = 12 := par_of (n := 1000000001) (d := 1) (by decide +kernel) (by decide +kernel) (fun h => absurd h (by decide +kernel))
theorem form_14 : parE ⟨#[49, 47, 49, 48, 48, 48, 48, 48, 48, 48, 48, 49]⟩ = 12 := par_of (n := 1) (d := 1000000001) (by decide +kernel) (by decide +kernel) (fun h => absurd h (by decide +kernel))
theorem form_15 : parE ⟨#[49, 32]⟩ = 12 := par_of (n := (-6)) (d := 1) (by decide +kernel) (by decide +kernel) (fun _ h => by have := congrArg (fun b : ByteArray => b.data.toList) h; revert this; simp [textB, textL, Lib.itoa, Lib.decDigits])
theorem form_16 : parE ⟨#[49, 50, 51, 52, 53, 54, 55, 56, 57, 48, 49]⟩ = 12 := par_of (n := 12345678901) (d := 1) (by decide +kernel) (by decide +kernel) (fun h => absurd h (by decide +kernel))
theorem form_bad {F : ByteArray} (h : F ∈ formList) (w : World) (ht : Tab w) (hl : Len w) :
    Calls Tryd.prog 14 #[.string F] w fun e w' => e = .returned (.tuple #[.agg #[.int .i64 0, .int .i64 0], .int .i64 12]) ∧ Below w.heap.size w w' := by
  have key : parE F = 12 ∧ F.size < 4294967281 := by
    simp only [formList, List.mem_cons, List.not_mem_nil, or_false] at h
    rcases h with rfl | rfl | rfl | rfl | rfl | rfl | rfl | rfl | rfl | rfl | rfl | rfl | rfl | rfl | rfl | rfl | rfl
    · exact ⟨form_0, by decide⟩
    · exact ⟨form_1, by decide⟩
    · exact ⟨form_2, by decide⟩
    · exact ⟨form_3, by decide⟩
    · exact ⟨form_4, by decide⟩
    · exact ⟨form_5, by decide⟩
    · exact ⟨form_6, by decide⟩
    · exact ⟨form_7, by decide⟩
    · exact ⟨form_8, by decide⟩
    · exact ⟨form_9, by decide⟩
    · exact ⟨form_10, by decide⟩
    · exact ⟨form_11, by decide⟩
    · exact ⟨form_12, by decide⟩
    · exact ⟨form_13, by decide⟩
    · exact ⟨form_14, by decide⟩
    · exact ⟨form_15, by decide⟩
    · exact ⟨form_16, by decide⟩
  have h := parse_any F key.2 w ht hl
  obtain ⟨e1, e2, e3⟩ := par_bad (s := F) (by rw [key.1]; decide)
  rwa [e1, e2, e3] at h

theorem last_text : textB (-1000000000) 999999999 = ⟨#[45, 49, 48, 48, 48, 48, 48, 48, 48, 48, 48, 47, 57, 57, 57, 57, 57, 57, 57, 57, 57]⟩ := by
  apply ByteArray.ext
  simp [textB, textL, Lib.itoa, Lib.decDigits]
theorem nm_last (w : World) (ht : Tab w) (hl : Len w) :
    Calls Tryd.prog 14 #[.string ⟨#[45, 49, 48, 48, 48, 48, 48, 48, 48, 48, 48, 47, 57, 57, 57, 57, 57, 57, 57, 57, 57]⟩] w fun e w' => e = .returned (.tuple #[.agg #[.int .i64 (-1000000000), .int .i64 999999999], .int .i64 0]) ∧ Below w.heap.size w w' := by
  obtain ⟨e1, e2, e3⟩ := par_text (n := -1000000000) (d := 999999999) (by decide +kernel)
  rw [last_text] at e1 e2 e3
  have h := parse_any ⟨#[45, 49, 48, 48, 48, 48, 48, 48, 48, 48, 48, 47, 57, 57, 57, 57, 57, 57, 57, 57, 57]⟩ (by decide) w ht hl
  rwa [e1, e2, e3] at h

theorem nm_chk (n d : Int) (w : World) : Calls Tryd.prog 21 #[.agg #[.int .i64 n, .int .i64 d]] w fun e w' => e = .returned (.int .i64 (chk n d)) ∧ Below w.heap.size w w' := by
  cases hv : vld n d with
  | true => rw [chk_valid hv]; exact check_valid n d hv w
  | false =>
    rw [chk_not hv]
    by_cases h : d < 1 ∨ 1000000000 < d ∨ n < -1000000000 ∨ 1000000000 < n
    · exact check_bounds n d h w
    · have hg : gcdI n d ≠ 1 := fun hg => by
        have := vld_iff.2 (show 1 ≤ d ∧ d ≤ 1000000000 ∧ -1000000000 ≤ n ∧ n ≤ 1000000000 ∧ gcdI n d = 1 from ⟨by omega, by omega, by omega, by omega, hg⟩)
        rw [hv] at this; simp at this
      exact check_common n d (by omega) (by omega) (by omega) (by omega) hg w

/-- The cells that make lays for n ratios. -/
def zeros (n : Nat) : Array Value := madeCells #[.int .i64 0, .int .i64 0] (n * 2)
theorem zeros_at {n i : Nat} (h : i < n * 2) : (zeros n)[i]? = some (.int .i64 0) := by
  have h2 : i % 2 = 0 ∨ i % 2 = 1 := by omega
  unfold zeros madeCells
  rw [Array.getElem?_map, Array.getElem?_range, if_pos h]
  rcases h2 with e | e <;> simp [e]
theorem elems_made (n : Nat) (w : World) (hn : 0 < n) : Elems (w.alloc (.cells (zeros n) 23)) (.slice (some ⟨w.heap.size, 0, none⟩) n n) (List.replicate n (0, 0)) := by
  have hl : (List.replicate n ((0, 0) : Int × Int)).length = n := List.length_replicate
  have := Elems.some (w := w.alloc (.cells (zeros n) 23)) w.heap.size 0 n (List.replicate n (0, 0)) (by omega) (by simp) (by
    intro i hi
    rw [hl] at hi
    have e := heap_alloc_new w (.cells (zeros n) 23)
    rw [List.getElem_replicate]
    constructor
    · simp only [World.cell?, e]; simpa using zeros_at (n := n) (i := i * 2) (by omega)
    · simp only [World.cell?, e]; simpa using zeros_at (n := n) (i := i * 2 + 1) (by omega))
  rwa [hl] at this
theorem made_run (n : Nat) (hn : n ≤ 1000) (w : World) : (Instr.makeSlice 39 (.int .i64 (n : Int)) (.int .i64 (n : Int))).run Tryd.prog w = .ok (.slice (some ⟨w.heap.size, 0, none⟩) n n) (w.alloc (.cells (zeros n) 23)) := by
  have := run_make (P := Tryd.prog) w 39 23 Tryd.t23 (.agg #[.int .i64 0, .int .i64 0]) Tryd.underlying39 (by kernel_rfl) (by kernel_rfl) .i64 .i64 n n (by omega) (Int.le_refl _) (by show ((16 : Nat) : Int) * (n : Int) ≤ _; omega) (by omega)
  rw [this]; simp [zeros, Value.cells]; rfl

set_option maxRecDepth 100000 in
set_option maxHeartbeats 2000000 in
theorem walk (w : World) (ht : Tab w) (hl : Len w) :
    Calls Tryd.prog 4 #[] w fun e w' => e = .returned (.bool true) ∧ Below w.heap.size w w' := by
  have HT0 := Lib.hid ht
  have HL := Lib.hid hl
  have B0 := Lib.hid (Below.refl w.heap.size w)
  have hm1 : ∀ w, (Instr.makeSlice 39 (.int .i64 201) (.int .i64 201)).run Tryd.prog w = _ := made_run 201 (by omega)
  have hm2 : ∀ w, (Instr.makeSlice 39 (.int .i64 200) (.int .i64 200)).run Tryd.prog w = _ := made_run 200 (by omega)
  clear ht hl
  go_enter Tryd.func4, Tryd.ntmps4
  go_wp2_with fail
  refine (nm_zero _).mono ?_
  rintro e w1 ⟨rfl, hb⟩
  have HT1 := Lib.hid (Tab.later HT0.out hb)
  have B1 := Lib.hid (B0.out.trans (hb.mono B0.out.size))
  clear hb B0 HT0  
  go_wp2_with fail
  refine (nm_big _).mono ?_
  rintro e w2 ⟨rfl, hb⟩
  have HT2 := Lib.hid ((Tab.later HT1.out ((Below.refl _ _).alloc (Nat.le_refl _) (.cells #[.int .i64 0, .int .i64 0] 23))).later hb)
  have B2 := Lib.hid ((B1.out.alloc B1.out.size (.cells #[.int .i64 0, .int .i64 0] 23)).trans (hb.mono (Nat.le_trans B1.out.size (by simp))))
  clear hb B1 HT1  
  go_wp2_with fail
  refine (nm_least _).mono ?_
  rintro e w3 ⟨rfl, hb⟩
  have HT3 := Lib.hid ((Tab.later HT2.out ((Below.refl _ _).alloc (Nat.le_refl _) (.cells #[.int .i64 0, .int .i64 0] 23))).later hb)
  have B3 := Lib.hid ((B2.out.alloc B2.out.size (.cells #[.int .i64 0, .int .i64 0] 23)).trans (hb.mono (Nat.le_trans B2.out.size (by simp))))
  clear hb B2 HT2  
  go_wp2_with fail
  refine (nm_two _).mono ?_
  rintro e w4 ⟨rfl, hb⟩
  have E0_4 := Lib.hid (below_new hb (heap_alloc_new w3 (.cells #[.int .i64 1, .int .i64 1] 23)))
  have HT4 := Lib.hid ((Tab.later HT3.out ((Below.refl _ _).alloc (Nat.le_refl _) (.cells #[.int .i64 1, .int .i64 1] 23))).later hb)
  have B4 := Lib.hid ((B3.out.alloc B3.out.size (.cells #[.int .i64 1, .int .i64 1] 23)).trans (hb.mono (Nat.le_trans B3.out.size (by simp))))
  clear hb B3 HT3  
  go_wp2_with fail
  refine (nm_far _).mono ?_
  rintro e w5 ⟨rfl, hb⟩
  have E0_5 := Lib.hid (below_new hb (heap_alloc_old (E0_4).out _))
  have E1_5 := Lib.hid (below_new hb (heap_alloc_new w4 (.cells #[.int .i64 (-2), .int .i64 1] 23)))
  have HT5 := Lib.hid ((Tab.later HT4.out ((Below.refl _ _).alloc (Nat.le_refl _) (.cells #[.int .i64 (-2), .int .i64 1] 23))).later hb)
  have B5 := Lib.hid ((B4.out.alloc B4.out.size (.cells #[.int .i64 (-2), .int .i64 1] 23)).trans (hb.mono (Nat.le_trans B4.out.size (by simp))))
  clear hb B4 HT4 E0_4 
  go_wp2_with fail
  refine (part_any (1) (2) _).mono ?_
  rintro e w6 ⟨rfl, hb⟩
  have E0_6 := Lib.hid (below_new hb (heap_alloc_old (E0_5).out _))
  have E1_6 := Lib.hid (below_new hb (heap_alloc_old (E1_5).out _))
  have HT6 := Lib.hid ((Tab.later HT5.out ((Below.refl _ _).alloc (Nat.le_refl _) (.cells #[.int .i64 0, .int .i64 0] 23))).later hb)
  have B6 := Lib.hid ((B5.out.alloc B5.out.size (.cells #[.int .i64 0, .int .i64 0] 23)).trans (hb.mono (Nat.le_trans B5.out.size (by simp))))
  clear hb B5 HT5 E0_5 E1_5 
  go_wp2_with fail
  refine (part_any (0) (1) _).mono ?_
  rintro e w7 ⟨rfl, hb⟩
  have E0_7 := Lib.hid (below_new hb (E0_6).out)
  have E1_7 := Lib.hid (below_new hb (E1_6).out)
  have HT7 := Lib.hid (Tab.later HT6.out hb)
  have B7 := Lib.hid (B6.out.trans (hb.mono B6.out.size))
  clear hb B6 HT6 E0_6 E1_6 
  go_wp2_with fail
  refine (nm_div _).mono ?_
  rintro e w8 ⟨rfl, hb⟩
  have E0_8 := Lib.hid (below_new hb (E0_7).out)
  have E1_8 := Lib.hid (below_new hb (E1_7).out)
  have HT8 := Lib.hid (Tab.later HT7.out hb)
  have B8 := Lib.hid (B7.out.trans (hb.mono B7.out.size))
  clear hb B7 HT7 E0_7 E1_7 
  go_wp2_with fail
  refine (part_any (1) (2) _).mono ?_
  rintro e w9 ⟨rfl, hb⟩
  have E0_9 := Lib.hid (below_new hb (heap_alloc_old (E0_8).out _))
  have E1_9 := Lib.hid (below_new hb (heap_alloc_old (E1_8).out _))
  have HT9 := Lib.hid ((Tab.later HT8.out ((Below.refl _ _).alloc (Nat.le_refl _) (.cells #[.int .i64 0, .int .i64 0] 23))).later hb)
  have B9 := Lib.hid ((B8.out.alloc B8.out.size (.cells #[.int .i64 0, .int .i64 0] 23)).trans (hb.mono (Nat.le_trans B8.out.size (by simp))))
  clear hb B8 HT8 E0_8 E1_8 
  go_wp2_with fail
  refine (part_any (2) (4) _).mono ?_
  rintro e w10 ⟨rfl, hb⟩
  have E0_10 := Lib.hid (below_new hb (E0_9).out)
  have E1_10 := Lib.hid (below_new hb (E1_9).out)
  have HT10 := Lib.hid (Tab.later HT9.out hb)
  have B10 := Lib.hid (B9.out.trans (hb.mono B9.out.size))
  clear hb B9 HT9 E0_9 E1_9 
  go_wp2_with fail
  refine (nm_bad _).mono ?_
  rintro e w11 ⟨rfl, hb⟩
  have E0_11 := Lib.hid (below_new hb (E0_10).out)
  have E1_11 := Lib.hid (below_new hb (E1_10).out)
  have HT11 := Lib.hid (Tab.later HT10.out hb)
  have B11 := Lib.hid (B10.out.trans (hb.mono B10.out.size))
  clear hb B10 HT10 E0_10 E1_10 
  go_wp2_with fail
  refine (part_any (1000000000) (1) _).mono ?_
  rintro e w12 ⟨rfl, hb⟩
  have E0_12 := Lib.hid (below_new hb (heap_alloc_old (E0_11).out _))
  have E1_12 := Lib.hid (below_new hb (heap_alloc_old (E1_11).out _))
  have HT12 := Lib.hid ((Tab.later HT11.out ((Below.refl _ _).alloc (Nat.le_refl _) (.cells #[.int .i64 0, .int .i64 0] 23))).later hb)
  have B12 := Lib.hid ((B11.out.alloc B11.out.size (.cells #[.int .i64 0, .int .i64 0] 23)).trans (hb.mono (Nat.le_trans B11.out.size (by simp))))
  clear hb B11 HT11 E0_11 E1_11 
  go_wp2_with fail
  refine (part_any (1) (1) _).mono ?_
  rintro e w13 ⟨rfl, hb⟩
  have E0_13 := Lib.hid (below_new hb (E0_12).out)
  have E1_13 := Lib.hid (below_new hb (E1_12).out)
  have HT13 := Lib.hid (Tab.later HT12.out hb)
  have B13 := Lib.hid (B12.out.trans (hb.mono B12.out.size))
  clear hb B12 HT12 E0_12 E1_12 
  go_wp2_with fail
  refine (nm_sum _).mono ?_
  rintro e w14 ⟨rfl, hb⟩
  have E0_14 := Lib.hid (below_new hb (E0_13).out)
  have E1_14 := Lib.hid (below_new hb (E1_13).out)
  have HT14 := Lib.hid (Tab.later HT13.out hb)
  have B14 := Lib.hid (B13.out.trans (hb.mono B13.out.size))
  clear hb B13 HT13 E0_13 E1_13 
  go_wp2_with fail
  obtain ⟨w15, hW⟩ : ∃ x, x = ((w14.alloc (.cells #[.int .i64 0, .int .i64 0] 23)).alloc (.cells (zeros 201) 23)) := ⟨_, rfl⟩
  have E0_15 : Hid (w15.heap[w3.heap.size]? = some (.cells #[.int .i64 1, .int .i64 1] 23 (0, 0))) := Lib.hid (by rw [hW]; exact (heap_alloc_old ((heap_alloc_old (E0_14.out) _)) _))
  have E1_15 : Hid (w15.heap[w4.heap.size]? = some (.cells #[.int .i64 (-2), .int .i64 1] 23 (0, 0))) := Lib.hid (by rw [hW]; exact (heap_alloc_old ((heap_alloc_old (E1_14.out) _)) _))
  have hb : Below w14.heap.size w14 w15 := by rw [hW]; exact (((Below.refl _ _).alloc (Nat.le_refl _) _).alloc (by simp <;> omega) _)
  have HT15 := Lib.hid (Tab.later HT14.out hb)
  have B15 := Lib.hid (B14.out.trans (hb.mono B14.out.size))
  have hel : Elems w15 (.slice (some ⟨(w14.alloc (.cells #[.int .i64 0, .int .i64 0] 23)).heap.size, 0, none⟩) 201 201) (List.replicate 201 (0, 0)) := by rw [hW]; exact elems_made 201 _ (by omega)
  rw [← hW]
  clear hb hW B14 HT14 E0_14 E1_14 
  refine (nm_many _ _ (by simpa using hel)).mono ?_
  rintro e w16 ⟨rfl, hb⟩
  have E0_16 := Lib.hid (below_new hb (E0_15).out)
  have E1_16 := Lib.hid (below_new hb (E1_15).out)
  have HT16 := Lib.hid (Tab.later HT15.out hb)
  have B16 := Lib.hid (B15.out.trans (hb.mono B15.out.size))
  clear hb B15 HT15 E0_15 E1_15 
  go_wp2_with fail
  obtain ⟨w17, hW⟩ : ∃ x, x = ((w16.alloc (.cells #[.int .i64 0, .int .i64 0] 23)).alloc (.cells (zeros 200) 23)) := ⟨_, rfl⟩
  have E0_17 : Hid (w17.heap[w3.heap.size]? = some (.cells #[.int .i64 1, .int .i64 1] 23 (0, 0))) := Lib.hid (by rw [hW]; exact (heap_alloc_old ((heap_alloc_old (E0_16.out) _)) _))
  have E1_17 : Hid (w17.heap[w4.heap.size]? = some (.cells #[.int .i64 (-2), .int .i64 1] 23 (0, 0))) := Lib.hid (by rw [hW]; exact (heap_alloc_old ((heap_alloc_old (E1_16.out) _)) _))
  have hb : Below w16.heap.size w16 w17 := by rw [hW]; exact (((Below.refl _ _).alloc (Nat.le_refl _) _).alloc (by simp <;> omega) _)
  have HT17 := Lib.hid (Tab.later HT16.out hb)
  have B17 := Lib.hid (B16.out.trans (hb.mono B16.out.size))
  clear hel; have hel : Elems w17 (.slice (some ⟨(w16.alloc (.cells #[.int .i64 0, .int .i64 0] 23)).heap.size, 0, none⟩) 200 200) (List.replicate 200 (0, 0)) := by rw [hW]; exact elems_made 200 _ (by omega)
  rw [← hW]
  clear hb hW B16 HT16 E0_16 E1_16 
  refine (nm_ones _ _ (by simpa using hel)).mono ?_
  rintro e w18 ⟨rfl, hb⟩
  have E0_18 := Lib.hid (below_new hb (E0_17).out)
  have E1_18 := Lib.hid (below_new hb (E1_17).out)
  have HT18 := Lib.hid (Tab.later HT17.out hb)
  have B18 := Lib.hid (B17.out.trans (hb.mono B17.out.size))
  clear hb B17 HT17 E0_17 E1_17 
  clear hel
  go_wp2_with fail
  refine (nm_none _ _ (.none _ _)).mono ?_
  rintro e w19 ⟨rfl, hb⟩
  have E0_19 := Lib.hid (below_new hb (heap_alloc_old (E0_18).out _))
  have E1_19 := Lib.hid (below_new hb (heap_alloc_old (E1_18).out _))
  have HT19 := Lib.hid ((Tab.later HT18.out ((Below.refl _ _).alloc (Nat.le_refl _) (.cells #[.int .i64 0, .int .i64 0] 23))).later hb)
  have B19 := Lib.hid ((B18.out.alloc B18.out.size (.cells #[.int .i64 0, .int .i64 0] 23)).trans (hb.mono (Nat.le_trans B18.out.size (by simp))))
  clear hb B18 HT18 E0_18 E1_18 
  go_wp2_with fail
  obtain ⟨w20, hW⟩ : ∃ x, x = ((w19.alloc (.cells #[.int .i64 0, .int .i64 1] 23)).alloc (.cells formCells 9)) := ⟨_, rfl⟩
  have E0_20 : Hid (w20.heap[w3.heap.size]? = some (.cells #[.int .i64 1, .int .i64 1] 23 (0, 0))) := Lib.hid (by rw [hW]; exact (heap_alloc_old ((heap_alloc_old (E0_19.out) _)) _))
  have E1_20 : Hid (w20.heap[w4.heap.size]? = some (.cells #[.int .i64 (-2), .int .i64 1] 23 (0, 0))) := Lib.hid (by rw [hW]; exact (heap_alloc_old ((heap_alloc_old (E1_19.out) _)) _))
  have E2_20 : Hid (w20.heap[w19.heap.size]? = some (.cells #[.int .i64 0, .int .i64 1] 23 (0, 0))) := Lib.hid (by rw [hW]; exact (heap_alloc_old (heap_alloc_new w19 _) _))
  have hb : Below w19.heap.size w19 w20 := by rw [hW]; exact (((Below.refl _ _).alloc (Nat.le_refl _) _).alloc (by simp <;> omega) _)
  have HT20 := Lib.hid (Tab.later HT19.out hb)
  have B20 := Lib.hid (B19.out.trans (hb.mono B19.out.size))
  have EF : w20.heap[w19.heap.size + 1]? = some (.cells formCells 9 (0, 0)) := by rw [hW]; have := heap_alloc_new (w19.alloc (.cells #[.int .i64 0, .int .i64 1] 23)) (.cells formCells 9); simpa using this
  rw [show (#[.string ⟨#[]⟩, .string ⟨#[45]⟩, .string ⟨#[47]⟩, .string ⟨#[49, 47]⟩, .string ⟨#[47, 50]⟩, .string ⟨#[50, 47, 52]⟩, .string ⟨#[49, 47, 49]⟩, .string ⟨#[48, 49]⟩, .string ⟨#[45, 48]⟩, .string ⟨#[48, 47, 50]⟩, .string ⟨#[49, 47, 48]⟩, .string ⟨#[49, 47, 45, 50]⟩, .string ⟨#[43, 49]⟩, .string ⟨#[49, 48, 48, 48, 48, 48, 48, 48, 48, 49]⟩, .string ⟨#[49, 47, 49, 48, 48, 48, 48, 48, 48, 48, 48, 49]⟩, .string ⟨#[49, 32]⟩, .string ⟨#[49, 50, 51, 52, 53, 54, 55, 56, 57, 48, 49]⟩] : Array Value) = formCells from rfl, ← hW]
  clear hb hW B19 HT19 E0_19 E1_19 
  have ef : ∀ k, k < 17 → ∃ F, w20.cell? ⟨w19.heap.size + 1, k, none⟩ = some (.string F) ∧ F ∈ formList := by
    intro k hk
    obtain ⟨F, h1, h2⟩ := form_at hk
    exact ⟨F, by simp only [World.cell?, EF]; exact h1, h2⟩
  have l20 := lt_of_block EF
  clear EF
  have EFF := Lib.hid ef
  clear ef
  go_loopw [24] (fun i wr => ∃ k : Nat, k ≤ 17 ∧ i = .int .i64 k ∧ Below w20.heap.size w20 wr) (fun i _ => 17 - (intOf i).toNat)
  case atStart => exact ⟨0, Nat.zero_le _, rfl, Below.refl _ _⟩
  case round =>
    obtain ⟨k, hk, rfl, hb⟩ := hrel
    have HB := Lib.hid hb
    by_cases hlt : k < 17
    · obtain ⟨F, hF, hm⟩ := EFF.out k hlt
      have c1 : (k : Int) < 17 := by omega
      have c2 : (0 : Int) ≤ (k : Int) := by omega
      have pF := (hb.cell (p := ⟨w19.heap.size + 1, k, none⟩) l20).trans hF
      have KF := Lib.hid (form_bad hm)
      have HTr := Lib.hid (Tab.later HT20.out hb)
      have Br := Lib.hid (B20.out.trans (hb.mono B20.out.size))
      clear hb hF hm
      go_wp2_with fail
      refine (KF.out _ HTr.out (HL.out.later Br.out)).mono ?_
      rintro e wq ⟨rfl, hq⟩
      have HQ := Lib.hid (HB.out.trans (hq.mono HB.out.size))
      clear hq
      go_wp2_with fail
      go_roundw
      case rel => exact ⟨k + 1, by omega, by go_num, HQ.out.alloc HQ.out.size _⟩
      case measure => simp [intOf]; omega
    · obtain rfl : k = 17 := by omega
      have E0_21 := Lib.hid (below_new hb E0_20.out)
      have E1_21 := Lib.hid (below_new hb E1_20.out)
      have E2_21 := Lib.hid (below_new hb E2_20.out)
      have HT21 := Lib.hid (Tab.later HT20.out hb)
      have B21 := Lib.hid (B20.out.trans (hb.mono B20.out.size))
      clear hb HB HT20 B20 E0_20 E1_20 E2_20 EFF l20
      go_wp2_with fail
      refine (nm_last _ (by exact HT21.out) (HL.out.later B21.out)).mono ?_
      rintro e w22 ⟨rfl, hb⟩
      have E0_22 := Lib.hid (below_new hb (E0_21).out)
      have E1_22 := Lib.hid (below_new hb (E1_21).out)
      have E2_22 := Lib.hid (below_new hb (E2_21).out)
      have HT22 := Lib.hid (Tab.later HT21.out hb)
      have B22 := Lib.hid (B21.out.trans (hb.mono B21.out.size))
      clear hb B21 HT21 E0_21 E1_21 E2_21 
      go_wp2_with fail
      obtain ⟨w23, hW⟩ : ∃ x, x = (w22.alloc (.cells #[.int .i64 (-1000000000), .int .i64 999999999] 23)) := ⟨_, rfl⟩
      have E0_23 : Hid (w23.heap[w3.heap.size]? = some (.cells #[.int .i64 1, .int .i64 1] 23 (0, 0))) := Lib.hid (by rw [hW]; exact (heap_alloc_old (E0_22.out) _))
      have E1_23 : Hid (w23.heap[w4.heap.size]? = some (.cells #[.int .i64 (-2), .int .i64 1] 23 (0, 0))) := Lib.hid (by rw [hW]; exact (heap_alloc_old (E1_22.out) _))
      have E2_23 : Hid (w23.heap[w19.heap.size]? = some (.cells #[.int .i64 0, .int .i64 1] 23 (0, 0))) := Lib.hid (by rw [hW]; exact (heap_alloc_old (E2_22.out) _))
      have E3_23 : Hid (w23.heap[w22.heap.size]? = some (.cells #[.int .i64 (-1000000000), .int .i64 999999999] 23 (0, 0))) := Lib.hid (by rw [hW]; exact (heap_alloc_new w22 _))
      have hb : Below w22.heap.size w22 w23 := by rw [hW]; exact ((Below.refl _ _).alloc (Nat.le_refl _) _)
      have HT23 := Lib.hid (Tab.later HT22.out hb)
      have B23 := Lib.hid (B22.out.trans (hb.mono B22.out.size))
      rw [← hW]
      clear hb hW B22 HT22 E0_22 E1_22 E2_22 
      have hc8 : chk 0 2 = 8 := by decide
      have hc0 : chk 0 1 = 0 := by decide
      clear hm1 hm2
      have l0_23 := lt_of_block E0_23.out
      have p0_23 := cell_two0 E0_23.out
      have q0_23 := cell_two1 E0_23.out
      have l1_23 := lt_of_block E1_23.out
      have p1_23 := cell_two0 E1_23.out
      have q1_23 := cell_two1 E1_23.out
      have l2_23 := lt_of_block E2_23.out
      have p2_23 := cell_two0 E2_23.out
      have q2_23 := cell_two1 E2_23.out
      have l3_23 := lt_of_block E3_23.out
      have p3_23 := cell_two0 E3_23.out
      have q3_23 := cell_two1 E3_23.out
      have r0_23 := fun d os => cell_regrown p0_23 d os
      have s0_23 := fun d os => cell_regrown q0_23 d os
      have r1_23 := fun d os => cell_regrown p1_23 d os
      have s1_23 := fun d os => cell_regrown q1_23 d os
      have r2_23 := fun d os => cell_regrown p2_23 d os
      have s2_23 := fun d os => cell_regrown q2_23 d os
      have r3_23 := fun d os => cell_regrown p3_23 d os
      have s3_23 := fun d os => cell_regrown q3_23 d os
      go_wp2_with fail
      refine wp_region_quiet_below (by kernel_rfl) (by kernel_rfl) ?_
      repeat (any_goals (first | go_big_quiet_step (first | (go_at_call 17; exact Calls.regrown_of (part_any _ _ _)) | (go_at_call 20; exact Calls.regrown_of (alive_any _ (Tab.later HT23.out (below_regrown _ _ _)))) | (go_at_call 21; exact Calls.regrown_of (nm_chk _ _ _))) | quiet_step (first | (go_at_call 17; exact Calls.regrown_of (part_any _ _ _)) | (go_at_call 20; exact Calls.regrown_of (alive_any _ (Tab.later HT23.out (below_regrown _ _ _)))) | (go_at_call 21; exact Calls.regrown_of (nm_chk _ _ _)))))
      refine wpQuiet_nil ?_
      intro _ hw'
      obtain ⟨⟨dq, osq⟩, hw''⟩ := hw'
      subst hw''
      go_wp2_with fail
      go_ret
      exact ⟨rfl, B23.out.trans ((below_regrown _ _ _).mono B23.out.size)⟩
end Go.Proofs.YtchjkjhkmhkjeaaDoor
