/-
  What the package's proper, bracket and valid hand back.
-/
import Derived.Test.YtkjjehnfibfngaaWordRefC
import Derived.Test.YtkjjehnfibfngaaShelfI
import Derived.Lib.IndexLaws
namespace Go.Proofs.Ytkjjehnfibfngaa
open Go.RowKit
open WM
set_option linter.unusedVariables false
set_option linter.unusedSimpArgs false

theorem idx_nm (c : UInt8) : (0 ≤ Lib.indexByte nmS.data.toList c) ↔ (c == 43 || c == 45 || c == 38 || c == 94 || c == 124 || c == 33 || c == 91 || c == 93) = true := by
  have all : ∀ n : Fin 256, (0 ≤ Lib.indexByte nmS.data.toList (UInt8.ofNat n.1)) ↔ ((UInt8.ofNat n.1) == 43 || (UInt8.ofNat n.1) == 45 || (UInt8.ofNat n.1) == 38 || (UInt8.ofNat n.1) == 94 || (UInt8.ofNat n.1) == 124 || (UInt8.ofNat n.1) == 33 || (UInt8.ofNat n.1) == 91 || (UInt8.ofNat n.1) == 93) = true := by decide +kernel
  have e : UInt8.ofNat c.toNat = c := UInt8.toNat_inj.1 (by rw [UInt8.toNat_ofNat']; have := c.toNat_lt; omega)
  have := all ⟨c.toNat, c.toNat_lt⟩
  rw [e] at this
  exact this
theorem u8_int (c : UInt8) : ((c.toNat : Int)).toNat.toUInt8 = c := by
  rw [Int.toNat_natCast]; exact UInt8.toNat_inj.1 (by rw [Nat.toUInt8, UInt8.toNat_ofNat']; have := c.toNat_lt; omega)
set_option maxHeartbeats 800000 in
theorem proper_any (c : UInt8) (w : World) : Calls Try.prog 48 #[.int .u8 c.toNat] w fun e w' => e = .returned (.bool (letB c)) ∧ w = w' := by
  have hc := c.toNat_lt
  have KI := Lib.hid (fun w => Try.strings_IndexByte nmS (c.toNat : Int) w)
  rw [u8_int] at KI
  have HX := Lib.hid (idx_nm c)
  obtain ⟨x, hx⟩ : ∃ x, Lib.indexByte nmS.data.toList c = x := ⟨_, rfl⟩
  rw [hx] at KI HX
  clear hx
  have HL : Hid (letB c = ((c == 43 || c == 45 || c == 38 || c == 94 || c == 124 || c == 33 || c == 91 || c == 93) || (decide (65 ≤ c.toNat) && decide (c.toNat ≤ 90)) || (decide (97 ≤ c.toNat) && decide (c.toNat ≤ 122)))) := Lib.hid rfl
  obtain ⟨s, hs⟩ : ∃ s : ByteArray, (⟨#[43, 45, 38, 94, 124, 33, 91, 93]⟩ : ByteArray) = s := ⟨_, rfl⟩
  have hss : nmS = s := hs
  rw [hss] at KI
  clear hss
  have HL2 := HL.out
  have HX2 := HX.out
  have fin : ∀ b : Bool, (b = true ↔ ((65 ≤ c.toNat ∧ c.toNat ≤ 90) ∨ (97 ≤ c.toNat ∧ c.toNat ≤ 122))) → (b || decide (0 ≤ x)) = letB c := by
    intro b hb
    rw [HL2]
    generalize (c == 43 || c == 45 || c == 38 || c == 94 || c == 124 || c == 33 || c == 91 || c == 93) = g at HX2
    have e1 : b = ((decide (65 ≤ c.toNat) && decide (c.toNat ≤ 90)) || (decide (97 ≤ c.toNat) && decide (c.toNat ≤ 122))) := by
      rw [Bool.eq_iff_iff, hb]; simp
    have e2 : decide (0 ≤ x) = g := by rw [Bool.eq_iff_iff, decide_eq_true_iff, HX2]
    rw [e1, e2, Bool.or_comm, Bool.or_assoc]
  clear HL2 HX2
  have HF := Lib.hid fin
  clear fin HL HX
  by_cases c1 : (65 : Int) ≤ c.toNat
  · by_cases c2 : (c.toNat : Int) ≤ 90
    · go_enter Try.func48, Try.ntmps48
      go_wp2_with fail
      go_ret
      exact ⟨ret_bool (by rw [← HF.out true (by simp; omega)]; rfl), rfl⟩
    · by_cases c3 : (97 : Int) ≤ c.toNat
      · by_cases c4 : (c.toNat : Int) ≤ 122
        · go_enter Try.func48, Try.ntmps48
          go_wp2_with fail
          go_ret
          exact ⟨ret_bool (by rw [← HF.out true (by simp; omega)]; rfl), rfl⟩
        · go_enter Try.func48, Try.ntmps48
          go_wp2_with fail
          refine (KI.out _).mono ?_
          rintro e w2 ⟨rfl, rfl⟩
          go_wp2_with fail
          go_ret
          exact ⟨ret_bool (by rw [← HF.out false (by simp; omega)]; simp), rfl⟩
      · go_enter Try.func48, Try.ntmps48
        go_wp2_with fail
        refine (KI.out _).mono ?_
        rintro e w2 ⟨rfl, rfl⟩
        go_wp2_with fail
        go_ret
        exact ⟨ret_bool (by rw [← HF.out false (by simp; omega)]; simp), rfl⟩
  · have c3 : ¬ (97 : Int) ≤ c.toNat := by omega
    go_enter Try.func48, Try.ntmps48
    go_wp2_with fail
    refine (KI.out _).mono ?_
    rintro e w2 ⟨rfl, rfl⟩
    go_wp2_with fail
    go_ret
    exact ⟨ret_bool (by rw [← HF.out false (by simp; omega)]; simp), rfl⟩

set_option maxHeartbeats 800000 in
theorem bracket_any (c : UInt8) (p : Option Addr) (n cap : Nat) (w : World) : Calls Try.prog 49 #[.agg #[.int .u8 c.toNat, .slice p n cap]] w fun e w' => e = .returned (.bool (braB c)) ∧ Below w.heap.size w w' := by
  obtain ⟨W0, hW0⟩ : ∃ W, W = w.alloc (.cells #[.int .u8 c.toNat, .slice p n cap] 27) := ⟨_, rfl⟩
  have N0 : W0.heap[w.heap.size]? = some (.cells #[.int .u8 c.toNat, .slice p n cap] 27 (0, 0)) := by rw [hW0]; exact heap_alloc_new _ _
  have B0 : Below w.heap.size w W0 := by rw [hW0]; exact (Below.refl _ _).alloc (Nat.le_refl _) _
  have HB := Lib.hid B0
  have q0 := cell_two0 N0
  have l1 := lt_of_block N0
  clear N0 B0
  have walk : ∀ (t1 t2 : Bool), ((c.toNat : Int) == 91) = t1 → ((c.toNat : Int) == 93) = t2 → braB c = (t1 || t2) →
      Calls Try.prog 49 #[.agg #[.int .u8 c.toNat, .slice p n cap]] w fun e w' => e = .returned (.bool (braB c)) ∧ Below w.heap.size w w' := by
    intro t1 t2 e1 e2 hb
    have HBr := Lib.hid hb
    clear hb
    cases t1 with
    | true =>
      go_enter Try.func49, Try.ntmps49
      go_wp2_with fail
      rw [← hW0]
      clear hW0
      go_wp2_with fail
      go_ret
      exact ⟨ret_bool HBr.out.symm, HB.out⟩
    | false =>
      go_enter Try.func49, Try.ntmps49
      go_wp2_with fail
      rw [← hW0]
      clear hW0
      go_wp2_with fail
      go_ret
      exact ⟨ret_bool (by rw [HBr.out]; simp), HB.out⟩
  exact walk _ _ rfl rfl (by
    rw [show (91 : Int) = ((91 : UInt8).toNat : Int) from rfl, show (93 : Int) = ((93 : UInt8).toNat : Int) from rfl, u8_eq, u8_eq]; rfl)
end Go.Proofs.Ytkjjehnfibfngaa
