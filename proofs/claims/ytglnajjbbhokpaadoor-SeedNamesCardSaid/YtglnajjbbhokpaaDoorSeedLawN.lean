/-
  The walk of SeedNames.
-/
import Derived.Test.YtglnajjbbhokpaaDoorSeedAlive
namespace Go.Proofs.YtglnajjbbhokpaaDoor
open Go.RowKit
open SM
set_option linter.unusedVariables false
set_option linter.unusedSimpArgs false

theorem pick_on (v : Value) (l : List Int) (hmax : l.length ≤ 9223372036854775807) (h : Nat) (hh : h < 18446744073709551616) (a c : Int) (hac : pkI l h = a ∧ pkE l = c) (w : World) (o : Obj) (hv : Ints (w.alloc o) v l) :
    Calls Tryd.prog 10 #[v, .int .u64 h] (w.alloc o) fun e w' => e = .returned (.tuple #[.int .i64 a, .int .i64 c]) ∧ Below w.heap.size w w' := by
  refine (pick_any v l hmax h hh _ hv).mono ?_
  rintro e w' ⟨he, hb⟩
  rw [hac.1, hac.2] at he
  exact ⟨he, ((Below.refl _ _).alloc (Nat.le_refl _) o).trans (hb.mono (by simp))⟩
theorem nm_a (w : World) : Calls Tryd.prog 9 #[.int .i64 0, .string ⟨#[]⟩, .int .i64 0] w fun e w' => e = .returned (.tuple #[.int .i64 0, .int .i64 2]) ∧ Below w.heap.size w w' := by
  refine (draw_any 0 ⟨#[]⟩ (by decide) 0 w).mono ?_
  rintro e w' ⟨he, rfl⟩
  rw [(dr_no (n := 0) rfl _).1, (dr_no (n := 0) rfl 0).2] at he
  exact ⟨he, Below.refl _ _⟩
theorem nm_b (w : World) : Calls Tryd.prog 9 #[.int .i64 0, .string ⟨#[]⟩, .int .i64 1000000001] w fun e w' => e = .returned (.tuple #[.int .i64 0, .int .i64 2]) ∧ Below w.heap.size w w' := by
  refine (draw_any 0 ⟨#[]⟩ (by decide) 1000000001 w).mono ?_
  rintro e w' ⟨he, rfl⟩
  rw [(dr_no (n := 1000000001) rfl _).1, (dr_no (n := 1000000001) rfl 0).2] at he
  exact ⟨he, Below.refl _ _⟩
theorem nm_c (w : World) : Calls Tryd.prog 10 #[.slice none 0 0, .int .u64 0] w fun e w' => e = .returned (.tuple #[.int .i64 0, .int .i64 2]) ∧ Below w.heap.size w w' := by
  have := pick_any (.slice none 0 0) [] (by decide) 0 (by decide) w (.none _ _)
  exact this
theorem nm_d (w : World) : Calls Tryd.prog 10 #[.slice (some ⟨w.heap.size, 0, none⟩) 2 2, .int .u64 5] (w.alloc (.cells #[.int .i64 0, .int .i64 0] 3)) fun e w' => e = .returned (.tuple #[.int .i64 0, .int .i64 2]) ∧ Below w.heap.size w w' :=
  pick_on _ [0, 0] (by decide) 5 (by decide) 0 2 (by decide +kernel) w _ (lit_ints [0, 0] 2 rfl w)
theorem nm_e (w : World) : Calls Tryd.prog 10 #[.slice (some ⟨w.heap.size, 0, none⟩) 2 2, .int .u64 5] (w.alloc (.cells #[.int .i64 2, .int .i64 (-1)] 3)) fun e w' => e = .returned (.tuple #[.int .i64 0, .int .i64 2]) ∧ Below w.heap.size w w' :=
  pick_on _ [2, -1] (by decide) 5 (by decide) 0 2 (by decide +kernel) w _ (lit_ints [2, -1] 2 rfl w)
theorem nm_f (w : World) : Calls Tryd.prog 10 #[.slice (some ⟨w.heap.size, 0, none⟩) 2 2, .int .u64 5] (w.alloc (.cells #[.int .i64 1000000000, .int .i64 1] 3)) fun e w' => e = .returned (.tuple #[.int .i64 0, .int .i64 2]) ∧ Below w.heap.size w w' :=
  pick_on _ [1000000000, 1] (by decide) 5 (by decide) 0 2 (by decide +kernel) w _ (lit_ints [1000000000, 1] 2 rfl w)
theorem nm_g (w : World) : Calls Tryd.prog 10 #[.slice (some ⟨w.heap.size, 0, none⟩) 201 201, .int .u64 5] (w.alloc (.cells (zeros 201) 3)) fun e w' => e = .returned (.tuple #[.int .i64 0, .int .i64 2]) ∧ Below w.heap.size w w' := by
  have hl : (List.replicate 201 (0 : Int)).length = 201 := List.length_replicate
  have hw : wOk (List.replicate 201 (0 : Int)) = false := wOk_len (by rw [hl]; omega)
  have hi := (made_row 201 w).ints 201
  rw [hl] at hi
  exact pick_on _ (List.replicate 201 0) (by rw [hl]; omega) 5 (by decide) 0 2 (pk_no hw 5) w _ hi
theorem nm_h (w : World) : Calls Tryd.prog 11 #[.int .i64 1, .string ⟨#[97]⟩, .slice (some ⟨w.heap.size, 0, none⟩) 2 2] (w.alloc (.cells #[.int .i64 (-1), .int .i64 2] 3)) fun e w' => e = .returned (.tuple #[.int .i64 0, .int .i64 2]) ∧ Below w.heap.size w w' := by
  have hw : wOk [-1, 2] = false := by decide +kernel
  refine (choose_any 1 ⟨#[97]⟩ (by decide) _ [-1, 2] (by decide) _ (lit_ints [-1, 2] 2 rfl w)).mono ?_
  rintro e w' ⟨he, hb⟩
  rw [(pk_no hw _).1, (pk_no hw 0).2] at he
  exact ⟨he, ((Below.refl _ _).alloc (Nat.le_refl _) _).trans (hb.mono (by simp))⟩
theorem nm_i (w : World) (ht : Tab w) : Calls Tryd.prog 12 #[.int .i64 1, .string ⟨#[97]⟩, .int .i64 (-1)] w fun e w' => e = .returned (.tuple #[.slice none 0 0, .int .i64 2]) ∧ Below w.heap.size w w' := by
  refine (order_any 1 ⟨#[97]⟩ (by decide) (-1) w ht).mono ?_
  rintro e w' (⟨_, he, hb⟩ | ⟨h, _⟩)
  · exact ⟨he, hb⟩
  · exact absurd h (by decide)
theorem nm_j (w : World) (ht : Tab w) : Calls Tryd.prog 12 #[.int .i64 1, .string ⟨#[97]⟩, .int .i64 201] w fun e w' => e = .returned (.tuple #[.slice none 0 0, .int .i64 2]) ∧ Below w.heap.size w w' := by
  refine (order_any 1 ⟨#[97]⟩ (by decide) 201 w ht).mono ?_
  rintro e w' (⟨_, he, hb⟩ | ⟨h, _⟩)
  · exact ⟨he, hb⟩
  · exact absurd h (by decide)
theorem nm_k (w : World) : Calls Tryd.prog 10 #[.slice (some ⟨w.heap.size, 0, none⟩) 1 1, .int .u64 18446744073709551615] (w.alloc (.cells #[.int .i64 1000000000] 3)) fun e w' => e = .returned (.tuple #[.int .i64 0, .int .i64 0]) ∧ Below w.heap.size w w' :=
  pick_on _ [1000000000] (by decide) 18446744073709551615 (by decide) 0 0 (by decide +kernel) w _ (lit_ints [1000000000] 1 rfl w)
theorem nm_l (w : World) (ht : Tab w) : Calls Tryd.prog 12 #[.int .i64 1, .string ⟨#[97]⟩, .int .i64 0] w fun e w' => ∃ q cap, e = .returned (.tuple #[.slice q 0 cap, .int .i64 0]) ∧ Below w.heap.size w w' := by
  refine (order_any 1 ⟨#[97]⟩ (by decide) 0 w ht).mono ?_
  rintro e w' (⟨h, _⟩ | ⟨_, q, cap, he, hb, _⟩)
  · exact absurd h (by decide)
  · exact ⟨q, cap, he, hb⟩
theorem nm_m (w : World) : Calls Tryd.prog 10 #[.slice (some ⟨w.heap.size, 0, none⟩) 2 2, .int .u64 9] (w.alloc (.cells #[.int .i64 0, .int .i64 3] 3)) fun e w' => e = .returned (.tuple #[.int .i64 1, .int .i64 0]) ∧ Below w.heap.size w w' :=
  pick_on _ [0, 3] (by decide) 9 (by decide) 1 0 (by decide +kernel) w _ (lit_ints [0, 3] 2 rfl w)
set_option maxRecDepth 100000 in
set_option maxHeartbeats 2000000 in
theorem names_walk (w : World) (ht : Tab w) :
    Calls Tryd.prog 3 #[] w fun e w' => e = .returned (.bool true) ∧ Below w.heap.size w w' := by
  have HT := Lib.hid ht
  have HA := Lib.hid (fun w ht => alive_any w ht)
  have B0 := Lib.hid (Below.refl w.heap.size w)
  have hmk : ∀ w, (Instr.makeSlice 27 (.int .i64 201) (.int .i64 201)).run Tryd.prog w = .ok (.slice (some ⟨w.heap.size, 0, none⟩) 201 201) (w.alloc (.cells (zeros 201) 3)) := fun w => made_run 201 (by omega) w
  clear ht
  go_enter Tryd.func3, Tryd.ntmps3
  go_wp2_with fail
  refine (nm_a _).mono ?_
  rintro e w1 ⟨rfl, hb⟩
  have B1 := Lib.hid (B0.out.trans (hb.mono B0.out.size))
  clear hb B0
  go_wp2_with fail
  refine (nm_b _).mono ?_
  rintro e w2 ⟨rfl, hb⟩
  have B2 := Lib.hid (B1.out.trans (hb.mono B1.out.size))
  clear hb B1
  go_wp2_with fail
  refine (nm_c _).mono ?_
  rintro e w3 ⟨rfl, hb⟩
  have B3 := Lib.hid (B2.out.trans (hb.mono B2.out.size))
  clear hb B2
  go_wp2_with fail
  refine (nm_d _).mono ?_
  rintro e w4 ⟨rfl, hb⟩
  have B4 := Lib.hid (B3.out.trans (hb.mono B3.out.size))
  clear hb B3
  go_wp2_with fail
  refine (nm_e _).mono ?_
  rintro e w5 ⟨rfl, hb⟩
  have B5 := Lib.hid (B4.out.trans (hb.mono B4.out.size))
  clear hb B4
  go_wp2_with fail
  refine (nm_f _).mono ?_
  rintro e w6 ⟨rfl, hb⟩
  have B6 := Lib.hid (B5.out.trans (hb.mono B5.out.size))
  clear hb B5
  go_wp2_with fail
  refine (nm_g _).mono ?_
  rintro e w7 ⟨rfl, hb⟩
  have B7 := Lib.hid (B6.out.trans (hb.mono B6.out.size))
  clear hb B6
  go_wp2_with fail
  refine (nm_h _).mono ?_
  rintro e w8 ⟨rfl, hb⟩
  have B8 := Lib.hid (B7.out.trans (hb.mono B7.out.size))
  clear hb B7
  go_wp2_with fail
  refine (nm_i _ (HT.out.later (B8.out.mono (Nat.le_refl _)))).mono ?_
  rintro e w9 ⟨rfl, hb⟩
  have B9 := Lib.hid (B8.out.trans (hb.mono B8.out.size))
  clear hb B8
  go_wp2_with fail
  refine (nm_j _ (HT.out.later (B9.out.mono (Nat.le_refl _)))).mono ?_
  rintro e w10 ⟨rfl, hb⟩
  have B10 := Lib.hid (B9.out.trans (hb.mono B9.out.size))
  clear hb B9
  go_wp2_with fail
  refine (nm_k _).mono ?_
  rintro e w11 ⟨rfl, hb⟩
  have B11 := Lib.hid (B10.out.trans (hb.mono B10.out.size))
  clear hb B10
  go_wp2_with fail
  refine (nm_l _ (HT.out.later (B11.out.mono (Nat.le_refl _)))).mono ?_
  rintro e w12 ⟨q, cap, rfl, hb⟩
  have B12 := Lib.hid (B11.out.trans (hb.mono B11.out.size))
  clear hb B11
  go_wp2_with fail
  refine (nm_m _).mono ?_
  rintro e w13 ⟨rfl, hb⟩
  have B13 := Lib.hid (B12.out.trans (hb.mono B12.out.size))
  clear hb B12
  go_wp2_with fail
  refine (HA.out _ (HT.out.later (B13.out.mono (Nat.le_refl _)))).mono ?_
  rintro e w14 ⟨rfl, hb⟩
  have B14 := Lib.hid (B13.out.trans (hb.mono B13.out.size))
  clear hb
  go_wp2_with fail
  go_ret
  exact ⟨rfl, B14.out⟩
end Go.Proofs.YtglnajjbbhokpaaDoor
