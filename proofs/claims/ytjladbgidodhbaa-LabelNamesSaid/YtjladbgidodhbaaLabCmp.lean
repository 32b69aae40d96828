/-
  What the library's Compare and Or, and compare of a step, hand back.
-/
import Derived.Test.YtjladbgidodhbaaLabAsk
import Derived.StillTailTactics
namespace Go.Proofs.Ytjladbgidodhbaa
open Go.RowKit Go.Shelf
open LM
set_option linter.unusedVariables false
set_option linter.unusedSimpArgs false

theorem isnan_str (s : ByteArray) (w : World) : Calls Try.prog 81 #[.string s] w fun e w' => e = .returned (.bool false) ∧ w = w' := by
  go_enter Try.func81, Try.ntmps81
  go_wp2_with fail
  go_ret
  exact ⟨rfl, rfl⟩
theorem cmpstr_any (x y : Bs) (w : World) : Calls Try.prog 73 #[.string (bA x), .string (bA y)] w fun e w' => e = .returned (.int .i64 (cmpN x y)) ∧ w = w' := by
  have h1 := bytesLess_val (x := x) (y := y)
  have ha := cmpN_ord.anti x y
  have hr := cmpN_ord.range x y
  rcases (by omega : cmpN x y = -1 ∨ cmpN x y = 0 ∨ cmpN x y = 1) with hc | hc | hc
  · have HC := Lib.hid hc
    rw [hc] at h1
    simp only [Int.reduceNeg, Int.reduceLT, decide_true] at h1
    clear hr ha hc
    go_enter Try.func73, Try.ntmps73
    go_wp2_with fail
    refine (isnan_str _ _).mono ?_
    rintro e ws ⟨rfl, rfl⟩
    go_wp2_with fail
    refine (isnan_str _ _).mono ?_
    rintro e ws ⟨rfl, rfl⟩
    go_wp2_with fail
    go_ret
    exact ⟨ret_int HC.out.symm, rfl⟩
  · have HC := Lib.hid hc
    rw [hc] at h1
    simp only [Int.reduceNeg, Int.reduceLT, decide_false] at h1
    obtain rfl := cmpN_eq.1 hc
    clear hr ha hc
    go_enter Try.func73, Try.ntmps73
    go_wp2_with fail
    refine (isnan_str _ _).mono ?_
    rintro e ws ⟨rfl, rfl⟩
    go_wp2_with fail
    refine (isnan_str _ _).mono ?_
    rintro e ws ⟨rfl, rfl⟩
    go_wp2_with fail
    go_ret
    exact ⟨ret_int HC.out.symm, rfl⟩
  · have HC := Lib.hid hc
    rw [hc] at h1
    simp only [Int.reduceNeg, Int.reduceLT, decide_false] at h1
    obtain ⟨e1, e2, e3⟩ := bA_ne (x := x) (y := y) (fun e => by rw [cmpN_eq.2 e] at hc; exact absurd hc (by omega))
    clear hr ha hc
    go_enter Try.func73, Try.ntmps73
    go_wp2_with fail
    refine (isnan_str _ _).mono ?_
    rintro e ws ⟨rfl, rfl⟩
    go_wp2_with fail
    refine (isnan_str _ _).mono ?_
    rintro e ws ⟨rfl, rfl⟩
    go_wp2_with fail
    go_ret
    exact ⟨ret_int HC.out.symm, rfl⟩
theorem isnan_int (x : Int) (w : World) : Calls Try.prog 82 #[.int .i64 x] w fun e w' => e = .returned (.bool false) ∧ w = w' := by
  go_enter Try.func82, Try.ntmps82
  go_wp2_with fail
  go_ret
  exact ⟨rfl, rfl⟩
theorem cmpint_any (x y : Int) (w : World) : Calls Try.prog 74 #[.int .i64 x, .int .i64 y] w fun e w' => e = .returned (.int .i64 (cmpI x y)) ∧ w = w' := by
  obtain ⟨c, hc⟩ : ∃ c, cmpI x y = c := ⟨_, rfl⟩
  have HC := Lib.hid hc
  have hh : (x < y ∧ c = -1) ∨ (x = y ∧ c = 0) ∨ (y < x ∧ c = 1) := by
    unfold cmpI at hc; split at hc
    · left; omega
    split at hc
    · right; right; omega
    · right; left; omega
  clear hc
  rcases hh with ⟨h1, rfl⟩ | ⟨rfl, rfl⟩ | ⟨h1, rfl⟩
  · have h2 : decide (x < y) = true := decide_eq_true h1
    go_enter Try.func74, Try.ntmps74
    go_wp2_with fail
    refine (isnan_int _ _).mono ?_
    rintro e ws ⟨rfl, rfl⟩
    go_wp2_with fail
    refine (isnan_int _ _).mono ?_
    rintro e ws ⟨rfl, rfl⟩
    go_wp2_with fail
    go_ret
    exact ⟨ret_int HC.out.symm, rfl⟩
  · go_enter Try.func74, Try.ntmps74
    go_wp2_with fail
    refine (isnan_int _ _).mono ?_
    rintro e ws ⟨rfl, rfl⟩
    go_wp2_with fail
    refine (isnan_int _ _).mono ?_
    rintro e ws ⟨rfl, rfl⟩
    go_wp2_with fail
    go_ret
    exact ⟨ret_int HC.out.symm, rfl⟩
  · have h2 : decide (x < y) = false := decide_eq_false (by omega)
    have h3 : ¬ x < y := by omega
    go_enter Try.func74, Try.ntmps74
    go_wp2_with fail
    refine (isnan_int _ _).mono ?_
    rintro e ws ⟨rfl, rfl⟩
    go_wp2_with fail
    refine (isnan_int _ _).mono ?_
    rintro e ws ⟨rfl, rfl⟩
    go_wp2_with fail
    go_ret
    exact ⟨ret_int HC.out.symm, rfl⟩
def orI (a b : Int) : Int := if a = 0 then b else a
theorem or_two (g : Nat) (a b : Int) (w : World) (h0 : w.cell? ⟨g, 0, none⟩ = some (.int .i64 a)) (h1 : w.cell? ⟨g, 1, none⟩ = some (.int .i64 b)) :
    Calls Try.prog 72 #[.slice (some ⟨g, 0, none⟩) 2 2] w fun e w' => e = .returned (.int .i64 (orI a b)) ∧ w = w' := by
  by_cases ha : a = 0
  · have HE : Hid (orI a b = b) := Lib.hid (by rw [orI, if_pos ha])
    subst ha
    by_cases hb : b = 0
    · subst hb
      go_enter Try.func72, Try.ntmps72
      go_wp2_with fail
      go_loop [8] (fun i => i = .int .i64 0 ∨ i = .int .i64 1 ∨ i = .int .i64 2) (fun i => 2 - (intOf i).toNat)
      case atStart => exact .inl rfl
      case round =>
        rcases hrel with rfl | rfl | rfl
        · go_wp2_with fail
          go_round
          case rel => exact .inr (.inl rfl)
          case measure => simp [intOf]
        · go_wp2_with fail
          go_round
          case rel => exact .inr (.inr rfl)
          case measure => simp [intOf]
        · go_wp2_with fail
          go_ret
          exact ⟨ret_int (by rw [HE.out]), rfl⟩
    · have hb1 : (b != 0) = true := bne_iff_ne.2 hb
      go_enter Try.func72, Try.ntmps72
      go_wp2_with fail
      go_loop [8] (fun i => i = .int .i64 0 ∨ i = .int .i64 1) (fun i => 2 - (intOf i).toNat)
      case atStart => exact .inl rfl
      case round =>
        rcases hrel with rfl | rfl
        · go_wp2_with fail
          go_round
          case rel => exact .inr rfl
          case measure => simp [intOf]
        · go_wp2_with fail
          go_ret
          exact ⟨ret_int (by rw [HE.out]), rfl⟩
  · have HE : Hid (orI a b = a) := Lib.hid (by rw [orI, if_neg ha])
    have ha1 : (a != 0) = true := bne_iff_ne.2 ha
    go_enter Try.func72, Try.ntmps72
    go_wp2_with fail
    go_loop [8] (fun i => i = .int .i64 0) (fun i => 2 - (intOf i).toNat)
    case atStart => rfl
    case round =>
      obtain rfl := hrel
      go_wp2_with fail
      go_ret
      exact ⟨ret_int (by rw [HE.out]), rfl⟩

set_option maxRecDepth 100000 in
theorem stepcmp_any (n1 n2 : Bs) (i1 i2 : Int) (w : World) :
    Calls Try.prog 65 #[.agg #[.string (bA n1), .int .i64 i1], .agg #[.string (bA n2), .int .i64 i2]] w fun e w' => e = .returned (.int .i64 (orI (cmpN n1 n2) (cmpI i1 i2))) ∧ Below w.heap.size w w' := by
  obtain ⟨c, hc⟩ : ∃ c, cmpN n1 n2 = c := ⟨_, rfl⟩
  obtain ⟨d, hd⟩ : ∃ d, cmpI i1 i2 = d := ⟨_, rfl⟩
  have K1 : Hid (∀ w, Calls Try.prog 73 #[.string (bA n1), .string (bA n2)] w fun e w' => e = .returned (.int .i64 c) ∧ w' = w) := Lib.hid (fun w => by
    have := cmpstr_any n1 n2 w
    rw [hc] at this
    exact this.mono fun e w' ⟨h1, h2⟩ => ⟨h1, h2.symm⟩)
  have K2 : Hid (∀ w, Calls Try.prog 74 #[.int .i64 i1, .int .i64 i2] w fun e w' => e = .returned (.int .i64 d) ∧ w' = w) := Lib.hid (fun w => by
    have := cmpint_any i1 i2 w
    rw [hd] at this
    exact this.mono fun e w' ⟨h1, h2⟩ => ⟨h1, h2.symm⟩)
  rw [hc, hd]
  clear hc hd
  go_enter Try.func65, Try.ntmps65
  go_wp2_with fail
  obtain ⟨w2, hw2⟩ : ∃ x, x = (w.alloc (.cells #[.string (bA n1), .int .i64 i1] 66)).alloc (.cells #[.string (bA n2), .int .i64 i2] 66) := ⟨_, rfl⟩
  have HB : Hid (Below w.heap.size w w2.drew) := Lib.hid (by rw [hw2]; exact (((Below.refl _ _).alloc (Nat.le_refl _) _).alloc (by simp) _).drew)
  have T1 : Two w2.drew w.heap.size (.string (bA n1)) (.int .i64 i1) 66 := by
    rw [hw2]; exact heap_alloc_old (heap_alloc_new w _) _
  have T2 : Two w2.drew (w.heap.size + 1) (.string (bA n2)) (.int .i64 i2) 66 := by
    rw [hw2]; have := heap_alloc_new (w.alloc (.cells #[.string (bA n1), .int .i64 i1] 66)) (.cells #[.string (bA n2), .int .i64 i2] 66)
    rw [show (w.alloc (.cells #[.string (bA n1), .int .i64 i1] 66)).heap.size = w.heap.size + 1 by simp] at this
    exact this
  rw [← hw2]
  clear hw2
  refine wp_region_still_tail 10 (by kernel_rfl) (by kernel_rfl) ?_
  simp only [List.take_succ_cons, List.take_zero, List.drop_succ_cons, List.drop_zero]
  show wpStill _ _ w2.drew (fun a' => wpList _ _ _ _ a' w2.drew) _ _
  generalize w2.drew = w3 at HB T1 T2 ⊢
  have a0 := T1.c0
  have a1 := T1.c1
  have b0 := T2.c0
  have b1 := T2.c1
  have a2 := T1.lt
  have b2 := T2.lt
  clear T1 T2
  still_step
  still_step
  still_step
  still_step
  still_call (K1.out w3)
  still_step
  still_step
  still_step
  still_step
  still_call (K2.out w3)
  refine wpStill_nil ?_
  clear a0 a1 b0 b1 a2 b2
  go_wp2_with fail
  refine (or_two w3.heap.size c d _ (by first | exact cell_two0 (heap_alloc_new w3 _) | simp) (by first | exact cell_two1 (heap_alloc_new w3 _) | simp)).mono ?_
  rintro e ws ⟨rfl, rfl⟩
  go_wp2_with fail
  go_ret
  exact ⟨rfl, HB.out.alloc HB.out.size _⟩
end Go.Proofs.Ytjladbgidodhbaa
