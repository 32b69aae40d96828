/-
  The chapter's examples, as the laws ask for them.
-/
import Derived.Test.YtjladbgidodhbaaLabLawsA
namespace Go.Proofs.Ytjladbgidodhbaa
open Go.RowKit Go.Shelf
open LM
set_option linter.unusedVariables false
set_option linter.unusedSimpArgs false
attribute [local go_sem] Oper.semAt_some

theorem steps_ex (w : World) (hl : Len w) : Calls Try.prog 11 #[.string ⟨#[116, 111, 119, 101, 114, 47, 102, 108, 111, 111, 114, 91, 51, 93, 47, 119, 105, 110, 100, 111, 119]⟩] w fun e w' => (∃ a cap, e = .returned (.tuple #[.slice a 3 cap, .int .i64 0]) ∧ Sl w' a cap [[116, 111, 119, 101, 114], [102, 108, 111, 111, 114, 91, 51, 93], [119, 105, 110, 100, 111, 119]]) ∧ Below w.heap.size w w' :=
  steps_api _ (by decide) 0 (by decide +kernel) _ 3 (by decide +kernel) rfl w hl
theorem parent_ex (w : World) (hl : Len w) : Calls Try.prog 13 #[.string ⟨#[116, 111, 119, 101, 114, 47, 102, 108, 111, 111, 114, 91, 51, 93, 47, 119, 105, 110, 100, 111, 119]⟩] w fun e w' => e = .returned (.tuple #[.string ⟨#[116, 111, 119, 101, 114, 47, 102, 108, 111, 111, 114, 91, 51, 93]⟩, .int .i64 0]) ∧ Below w.heap.size w w' := by
  have := parent_any ⟨#[116, 111, 119, 101, 114, 47, 102, 108, 111, 111, 114, 91, 51, 93, 47, 119, 105, 110, 100, 111, 119]⟩ (by decide) w hl
  rw [show bA (parS (lA ⟨#[116, 111, 119, 101, 114, 47, 102, 108, 111, 111, 114, 91, 51, 93, 47, 119, 105, 110, 100, 111, 119]⟩)) = ⟨#[116, 111, 119, 101, 114, 47, 102, 108, 111, 111, 114, 91, 51, 93]⟩ by decide +kernel] at this
  rw [show parE (lA ⟨#[116, 111, 119, 101, 114, 47, 102, 108, 111, 111, 114, 91, 51, 93, 47, 119, 105, 110, 100, 111, 119]⟩) = 0 by decide +kernel] at this
  exact this
theorem last_ex (w : World) (hl : Len w) : Calls Try.prog 15 #[.string ⟨#[116, 111, 119, 101, 114, 47, 102, 108, 111, 111, 114, 91, 51, 93]⟩] w fun e w' => e = .returned (.tuple #[.string ⟨#[102, 108, 111, 111, 114]⟩, .int .i64 3, .int .i64 0]) ∧ Below w.heap.size w w' := by
  have := last_any ⟨#[116, 111, 119, 101, 114, 47, 102, 108, 111, 111, 114, 91, 51, 93]⟩ (by decide) w hl
  rw [show bA (lasN (lA ⟨#[116, 111, 119, 101, 114, 47, 102, 108, 111, 111, 114, 91, 51, 93]⟩)) = ⟨#[102, 108, 111, 111, 114]⟩ by decide +kernel] at this
  rw [show lasI (lA ⟨#[116, 111, 119, 101, 114, 47, 102, 108, 111, 111, 114, 91, 51, 93]⟩) = 3 by decide +kernel] at this
  rw [show parE (lA ⟨#[116, 111, 119, 101, 114, 47, 102, 108, 111, 111, 114, 91, 51, 93]⟩) = 0 by decide +kernel] at this
  exact this
theorem under1_ex (w : World) (hl : Len w) : Calls Try.prog 24 #[.string ⟨#[116, 111, 119, 101, 114, 47, 102, 108, 111, 111, 114, 91, 51, 93]⟩, .string ⟨#[116, 111, 119, 101, 114]⟩] w fun e w' => e = .returned (.tuple #[.bool true, .int .i64 0]) ∧ Below w.heap.size w w' := by
  have := labunder_any ⟨#[116, 111, 119, 101, 114, 47, 102, 108, 111, 111, 114, 91, 51, 93]⟩ ⟨#[116, 111, 119, 101, 114]⟩ (by decide) (by decide) w hl
  rw [show undR (lA ⟨#[116, 111, 119, 101, 114, 47, 102, 108, 111, 111, 114, 91, 51, 93]⟩) (lA ⟨#[116, 111, 119, 101, 114]⟩) = true by decide +kernel] at this
  rw [show both (lA ⟨#[116, 111, 119, 101, 114, 47, 102, 108, 111, 111, 114, 91, 51, 93]⟩) (lA ⟨#[116, 111, 119, 101, 114]⟩) = 0 by decide +kernel] at this
  exact this
theorem under2_ex (w : World) (hl : Len w) : Calls Try.prog 24 #[.string ⟨#[116, 111, 119, 101, 114, 47, 102, 108, 111, 111, 114, 91, 51, 93]⟩, .string ⟨#[116, 111, 119]⟩] w fun e w' => e = .returned (.tuple #[.bool false, .int .i64 0]) ∧ Below w.heap.size w w' := by
  have := labunder_any ⟨#[116, 111, 119, 101, 114, 47, 102, 108, 111, 111, 114, 91, 51, 93]⟩ ⟨#[116, 111, 119]⟩ (by decide) (by decide) w hl
  rw [show undR (lA ⟨#[116, 111, 119, 101, 114, 47, 102, 108, 111, 111, 114, 91, 51, 93]⟩) (lA ⟨#[116, 111, 119]⟩) = false by decide +kernel] at this
  rw [show both (lA ⟨#[116, 111, 119, 101, 114, 47, 102, 108, 111, 111, 114, 91, 51, 93]⟩) (lA ⟨#[116, 111, 119]⟩) = 0 by decide +kernel] at this
  exact this
theorem common_ex (w : World) (hl : Len w) : Calls Try.prog 26 #[.string ⟨#[97, 47, 98, 91, 49, 93, 47, 99]⟩, .string ⟨#[97, 47, 98, 91, 49, 48, 93]⟩] w fun e w' => e = .returned (.tuple #[.string ⟨#[97]⟩, .int .i64 0]) ∧ Below w.heap.size w w' := by
  have := labcommon_any ⟨#[97, 47, 98, 91, 49, 93, 47, 99]⟩ ⟨#[97, 47, 98, 91, 49, 48, 93]⟩ (by decide) (by decide) w hl
  rw [show bA (comR (lA ⟨#[97, 47, 98, 91, 49, 93, 47, 99]⟩) (lA ⟨#[97, 47, 98, 91, 49, 48, 93]⟩)) = ⟨#[97]⟩ by decide +kernel] at this
  rw [show both (lA ⟨#[97, 47, 98, 91, 49, 93, 47, 99]⟩) (lA ⟨#[97, 47, 98, 91, 49, 48, 93]⟩) = 0 by decide +kernel] at this
  exact this
theorem compare1_ex (w : World) (hl : Len w) : Calls Try.prog 28 #[.string ⟨#[97, 47, 98]⟩, .string ⟨#[97, 47, 98, 47, 99]⟩] w fun e w' => e = .returned (.tuple #[.int .i64 (-1), .int .i64 0]) ∧ Below w.heap.size w w' := by
  have := labcmp_any ⟨#[97, 47, 98]⟩ ⟨#[97, 47, 98, 47, 99]⟩ (by decide) (by decide) w hl
  rw [show cmpR (lA ⟨#[97, 47, 98]⟩) (lA ⟨#[97, 47, 98, 47, 99]⟩) = -1 by decide +kernel] at this
  rw [show both (lA ⟨#[97, 47, 98]⟩) (lA ⟨#[97, 47, 98, 47, 99]⟩) = 0 by decide +kernel] at this
  exact this
theorem compare2_ex (w : World) (hl : Len w) : Calls Try.prog 28 #[.string ⟨#[97, 47, 98, 47, 99]⟩, .string ⟨#[97, 47, 98, 91, 48, 93]⟩] w fun e w' => e = .returned (.tuple #[.int .i64 (-1), .int .i64 0]) ∧ Below w.heap.size w w' := by
  have := labcmp_any ⟨#[97, 47, 98, 47, 99]⟩ ⟨#[97, 47, 98, 91, 48, 93]⟩ (by decide) (by decide) w hl
  rw [show cmpR (lA ⟨#[97, 47, 98, 47, 99]⟩) (lA ⟨#[97, 47, 98, 91, 48, 93]⟩) = -1 by decide +kernel] at this
  rw [show both (lA ⟨#[97, 47, 98, 47, 99]⟩) (lA ⟨#[97, 47, 98, 91, 48, 93]⟩) = 0 by decide +kernel] at this
  exact this
theorem compare3_ex (w : World) (hl : Len w) : Calls Try.prog 28 #[.string ⟨#[97, 47, 98, 91, 50, 93]⟩, .string ⟨#[97, 47, 98, 91, 49, 48, 93]⟩] w fun e w' => e = .returned (.tuple #[.int .i64 (-1), .int .i64 0]) ∧ Below w.heap.size w w' := by
  have := labcmp_any ⟨#[97, 47, 98, 91, 50, 93]⟩ ⟨#[97, 47, 98, 91, 49, 48, 93]⟩ (by decide) (by decide) w hl
  rw [show cmpR (lA ⟨#[97, 47, 98, 91, 50, 93]⟩) (lA ⟨#[97, 47, 98, 91, 49, 48, 93]⟩) = -1 by decide +kernel] at this
  rw [show both (lA ⟨#[97, 47, 98, 91, 50, 93]⟩) (lA ⟨#[97, 47, 98, 91, 49, 48, 93]⟩) = 0 by decide +kernel] at this
  exact this
theorem name_ex (w : World) : Calls Try.prog 17 #[.string ⟨#[97, 45, 49]⟩] w fun e w' => e = .returned (.bool true) ∧ Below w.heap.size w w' := by
  have := name_any ⟨#[97, 45, 49]⟩ (by decide) w
  rw [show nameB (lA ⟨#[97, 45, 49]⟩) = true by decide +kernel] at this
  exact this
theorem row_three (w : World) (x y z : Bs) (t : TypeId) : Row (w.alloc (.cells #[sV x, sV y, sV z] t)) w.heap.size 3 [x, y, z] := by
  have hb := heap_alloc_new w (.cells #[sV x, sV y, sV z] t)
  refine ⟨fun k hk => ?_, by simp, by decide, by simp⟩
  rw [cell_of_row _ _ k _ _ (0, 0) hb]
  match k, hk with
  | 0, _ => rfl
  | 1, _ => rfl
  | 2, _ => rfl
  | k + 3, hk => simp at hk; omega
set_option maxRecDepth 100000 in
set_option maxHeartbeats 2000000 in
theorem alive_any (w : World) (hl : Len w) : Calls Try.prog 31 #[] w fun e w' => e = .returned (.bool true) ∧ Below w.heap.size w w' := by
  have B0 := Lib.hid (Below.refl w.heap.size w)
  have L_0 := Lib.hid hl
  clear hl
  go_enter Try.func31, Try.ntmps31
  go_wp2_with fail
  refine (steps_ex _ L_0.out).mono ?_
  rintro e w1 ⟨⟨a, cap, rfl, hS⟩, hb⟩
  have B1 := Lib.hid (B0.out.trans (hb.mono B0.out.size))
  have L_1 := Lib.hid (L_0.out.later hb)
  clear hb B0 L_0
  have A_1 := Lib.hid hS
  clear hS
  go_wp2_with fail
  refine (parent_ex _ L_1.out).mono ?_
  rintro e w2 ⟨rfl, hb⟩
  have B2 := Lib.hid (B1.out.trans (hb.mono B1.out.size))
  have L_2 := Lib.hid (L_1.out.later hb)
  have A_2 := Lib.hid (A_1.out.later hb)
  clear hb B1 L_1 A_1
  go_wp2_with fail
  refine (last_ex _ L_2.out).mono ?_
  rintro e w3 ⟨rfl, hb⟩
  have B3 := Lib.hid (B2.out.trans (hb.mono B2.out.size))
  have L_3 := Lib.hid (L_2.out.later hb)
  have A_3 := Lib.hid (A_2.out.later hb)
  clear hb B2 L_2 A_2
  go_wp2_with fail
  refine (under1_ex _ L_3.out).mono ?_
  rintro e w4 ⟨rfl, hb⟩
  have B4 := Lib.hid (B3.out.trans (hb.mono B3.out.size))
  have L_4 := Lib.hid (L_3.out.later hb)
  have A_4 := Lib.hid (A_3.out.later hb)
  clear hb B3 L_3 A_3
  go_wp2_with fail
  refine (under2_ex _ L_4.out).mono ?_
  rintro e w5 ⟨rfl, hb⟩
  have B5 := Lib.hid (B4.out.trans (hb.mono B4.out.size))
  have L_5 := Lib.hid (L_4.out.later hb)
  have A_5 := Lib.hid (A_4.out.later hb)
  clear hb B4 L_4 A_4
  go_wp2_with fail
  refine (common_ex _ L_5.out).mono ?_
  rintro e w6 ⟨rfl, hb⟩
  have B6 := Lib.hid (B5.out.trans (hb.mono B5.out.size))
  have L_6 := Lib.hid (L_5.out.later hb)
  have A_6 := Lib.hid (A_5.out.later hb)
  clear hb B5 L_5 A_5
  go_wp2_with fail
  refine (compare1_ex _ L_6.out).mono ?_
  rintro e w7 ⟨rfl, hb⟩
  have B7 := Lib.hid (B6.out.trans (hb.mono B6.out.size))
  have L_7 := Lib.hid (L_6.out.later hb)
  have A_7 := Lib.hid (A_6.out.later hb)
  clear hb B6 L_6 A_6
  go_wp2_with fail
  refine (compare2_ex _ L_7.out).mono ?_
  rintro e w8 ⟨rfl, hb⟩
  have B8 := Lib.hid (B7.out.trans (hb.mono B7.out.size))
  have L_8 := Lib.hid (L_7.out.later hb)
  have A_8 := Lib.hid (A_7.out.later hb)
  clear hb B7 L_7 A_7
  go_wp2_with fail
  refine (compare3_ex _ L_8.out).mono ?_
  rintro e w9 ⟨rfl, hb⟩
  have B9 := Lib.hid (B8.out.trans (hb.mono B8.out.size))
  have L_9 := Lib.hid (L_8.out.later hb)
  have A_9 := Lib.hid (A_8.out.later hb)
  clear hb B8 L_8 A_8
  go_wp2_with fail
  have R9 := Lib.hid (row_three w9 [116, 111, 119, 101, 114] [102, 108, 111, 111, 114, 91, 51, 93] [119, 105, 110, 100, 111, 119] 9)
  have A9 := Lib.hid (A_9.out.later ((Below.refl _ _).alloc (Nat.le_refl _) (.cells #[sV [116, 111, 119, 101, 114], sV [102, 108, 111, 111, 114, 91, 51, 93], sV [119, 105, 110, 100, 111, 119]] 9)))
  refine (same_sl a (some ⟨w9.heap.size, 0, none⟩) cap 3 3 [[116, 111, 119, 101, 114], [102, 108, 111, 111, 114, 91, 51, 93], [119, 105, 110, 100, 111, 119]] rfl (by decide) _ A9.out (.inr ⟨_, rfl, R9.out⟩)).mono ?_
  rintro e w10 ⟨rfl, hb⟩
  have B10 := Lib.hid ((B9.out.alloc B9.out.size _).trans (hb.mono (by have := B9.out.size; simp; omega)))
  clear hb
  go_wp2_with fail
  refine (name_ex _).mono ?_
  rintro e w11 ⟨rfl, hb⟩
  have B11 := Lib.hid (B10.out.trans (hb.mono B10.out.size))
  clear hb
  go_wp2_with fail
  go_ret
  exact ⟨rfl, B11.out⟩

/-! ### What 'fit' hands back -/
theorem refcheck_long (s : ByteArray) (h : 4000 < s.size) (w : World) : Calls Try.prog 20 #[.string s] w fun e w' => e = .returned (.int .i64 4) ∧ Below w.heap.size w w' := by
  have h1 : (4000 : Int) < s.size := by omega
  go_enter Try.func20, Try.ntmps20
  go_wp2_with fail
  go_ret
  exact ⟨rfl, Below.refl _ _⟩
theorem refcheck_all (s : ByteArray) (c : Int) (hc : chk (lA s) = c) (w : World) : Calls Try.prog 20 #[.string s] w fun e w' => e = .returned (.int .i64 c) ∧ Below w.heap.size w w' := by
  by_cases h : 4000 < s.size
  · obtain rfl : c = 4 := by rw [← hc, chk_long (by rw [lA_len]; exact h)]
    exact refcheck_long s h w
  · exact refcheck_v s (by omega) c hc w
theorem refboth_all (p q : ByteArray) (w : World) : Calls Try.prog 46 #[.string p, .string q] w fun e w' => e = .returned (.int .i64 (both (lA p) (lA q))) ∧ Below w.heap.size w w' := by
  obtain ⟨c, hc⟩ : ∃ c, chk (lA p) = c := ⟨_, rfl⟩
  obtain ⟨d, hd⟩ : ∃ d, chk (lA q) = d := ⟨_, rfl⟩
  have K1 := Lib.hid (fun w => refcheck_all p c hc w)
  have K2 := Lib.hid (fun w => refcheck_all q d hd w)
  have HR : Hid (both (lA p) (lA q) = if c = 0 then d else c) := Lib.hid (by unfold both; rw [hc, hd])
  clear hc hd
  by_cases h0 : c = 0
  · subst h0
    go_enter Try.func46, Try.ntmps46
    go_wp2_with fail
    refine (K1.out _).mono ?_
    rintro e w1 ⟨rfl, hb⟩
    have HB := Lib.hid hb
    clear hb
    go_wp2_with fail
    refine (K2.out _).mono ?_
    rintro e w2 ⟨rfl, hb⟩
    have HB2 := Lib.hid hb
    clear hb
    go_wp2_with fail
    go_ret
    exact ⟨ret_int (by rw [HR.out]; rfl), HB.out.trans (HB2.out.mono HB.out.size)⟩
  · have h1 : (c != 0) = true := bne_iff_ne.2 h0
    go_enter Try.func46, Try.ntmps46
    go_wp2_with fail
    refine (K1.out _).mono ?_
    rintro e w1 ⟨rfl, hb⟩
    have HB := Lib.hid hb
    clear hb
    go_wp2_with fail
    refine (K1.out _).mono ?_
    rintro e w2 ⟨rfl, hb⟩
    have HB2 := Lib.hid hb
    clear hb
    go_wp2_with fail
    go_ret
    exact ⟨ret_int (by rw [HR.out, if_neg h0]), HB.out.trans (HB2.out.mono HB.out.size)⟩

def fitB (p q : Bs) : Bool := decide (both p q = 0)
theorem fit_any (p q : ByteArray) (f : Bool) (hf : fitB (lA p) (lA q) = f) (w : World) : Calls Try.prog 32 #[.string p, .string q] w fun e w' => e = .returned (.bool f) ∧ Below w.heap.size w w' := by
  have K1 := Lib.hid (fun w => refboth_all p q w)
  obtain ⟨c, hc⟩ : ∃ c, both (lA p) (lA q) = c := ⟨_, rfl⟩
  rw [hc] at K1
  have hf2 : (c == 0) = f := by rw [← hf, fitB, hc]; rfl
  clear hc hf
  go_enter Try.func32, Try.ntmps32
  go_wp2_with fail
  refine (K1.out _).mono ?_
  rintro e w1 ⟨rfl, hb⟩
  have HB := Lib.hid hb
  clear hb
  go_wp2_with fail
  go_ret
  exact ⟨rfl, HB.out⟩
theorem fit_yes {p q : Bs} : fitB p q = true ↔ chk p = 0 ∧ chk q = 0 := by rw [fitB, decide_eq_true_iff, both_zero]
theorem chk_size {p : ByteArray} (h : chk (lA p) = 0) : p.size ≤ 4000 := by have := (chk_zero.1 h).1; rwa [lA_len] at this
end Go.Proofs.Ytjladbgidodhbaa
