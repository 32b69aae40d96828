/-
  What the reference's Decimal hands back, for the numbers that args can be.
-/
import Derived.Test.YtjjjopopalcokaaDoorWordInts
import Derived.Test.YtjjjopopalcokaaDoorWordMath
import Derived.Laws.IdiomStrings
import Derived.Lib.ItoaLen
namespace Go.Proofs.YtjjjopopalcokaaDoor
open Go.RowKit
open WM
set_option linter.unusedVariables false
set_option linter.unusedSimpArgs false

theorem run_sub (s : ByteArray) (i j : Int) (a b : Nat) (ha : i = a) (hb : j = b) (hab : a ≤ b) (hbs : b ≤ s.size) (wx : World) :
    (Instr.slice 9 (.string s) (some (.int .i64 i)) (some (.int .i64 j)) none).run Tryd.prog wx = .ok (.string (s.extract a b)) wx := by
  have := run_slice_string (P := Tryd.prog) wx 9 s .i64 .i64 i j Tryd.underlying9 (by omega) (by omega) (by omega)
  rw [this]; subst ha hb; simp
def dgS : ByteArray := ⟨#[48, 49, 50, 51, 52, 53, 54, 55, 56, 57]⟩
def digS (d : Nat) : ByteArray := dgS.extract d (d + 1)
theorem digS_eq {d : Nat} (h : d < 10) : lA (digS d) = [UInt8.ofNat (48 + d)] := by
  have : ∀ d : Fin 10, lA (digS d.1) = [UInt8.ofNat (48 + d.1)] := by decide +kernel
  exact this ⟨d, h⟩
theorem digS_size {d : Nat} (h : d < 10) : (digS d).size = 1 := by rw [← lA_len, digS_eq h]; rfl
theorem digS_run (d : Nat) (i : Int) (hi : i = d) (h : d < 10) (w : World) : (Instr.slice 9 (.string ⟨#[48, 49, 50, 51, 52, 53, 54, 55, 56, 57]⟩) (some (.int .i64 i)) (some (.int .i64 (i + 1))) none).run Tryd.prog w = .ok (.string (digS d)) w := by
  subst hi
  exact run_sub dgS d (d + 1) d (d + 1) rfl (by omega) (by omega) (by show d + 1 ≤ 10; omega) w
theorem lA_append (a b : ByteArray) : lA (a ++ b) = lA a ++ lA b := by unfold lA; rw [ByteArray.data_append]; simp
theorem dec_step {m : Nat} {t : List UInt8} : Lib.decDigits m ++ t = (if m / 10 = 0 then [] else Lib.decDigits (m / 10)) ++ (UInt8.ofNat (48 + m % 10) :: t) := by
  by_cases hm : m < 10
  · rw [if_pos (by omega), Lib.decDigits_one hm, Nat.mod_eq_of_lt hm]; rfl
  · rw [if_neg (by omega), Lib.decDigits, dif_neg hm]; simp
set_option maxHeartbeats 800000 in
theorem decimal_pos (N : Nat) (hN : N ≤ 1000000000) (w : World) :
    Calls Tryd.prog 37 #[.int .i64 (N : Int)] w fun e w' => e = .returned (.string (bA (Lib.decDigits N))) ∧ w = w' := by
  have h1 : N % 10 < 10 := Nat.mod_lt _ (by omega)
  have r1 := fun w => digS_run (N % 10) ((N : Int) % 10) (by omega) h1 w
  have s1 := digS_size h1
  have HS : Hid (Lib.decDigits N = (if N / 10 = 0 then [] else Lib.decDigits (N / 10)) ++ lA (digS (N % 10))) := Lib.hid (by
    have := dec_step (m := N) (t := [])
    rw [List.append_nil] at this
    rw [this, digS_eq h1])
  generalize digS (N % 10) = d0 at r1 s1 HS
  have c0 : ¬ (N : Int) < 0 := by omega
  go_enter Tryd.func37, Tryd.ntmps37
  go_wp2_with fail
  go_loop [0, 4] (fun n s => ∃ (m : Nat) (t : ByteArray), m ≤ N / 10 ∧ t.size ≤ 100 ∧ n = .int .i64 (m : Int) ∧ s = .string t ∧ Lib.decDigits N = (if m = 0 then [] else Lib.decDigits m) ++ lA t) (fun n _ => (intOf n).toNat)
  case atStart => exact ⟨N / 10, d0, Nat.le_refl _, by omega, by simp, rfl, HS.out⟩
  case round =>
    obtain ⟨m, t, hm, ht, rfl, rfl, hd⟩ := hrel
    have HD := Lib.hid hd
    have hlen : t.size ≤ 30 := by
      have e1 := congrArg List.length hd
      have e2 := Lib.itoa_length_le (N : Int) (by omega) (by omega)
      rw [Lib.itoa_nonneg] at e2
      rw [List.length_append, lA_len] at e1
      omega
    clear hd r1 s1 HS
    by_cases h0 : m = 0
    · subst h0
      go_wp2_with fail
      go_ret
      refine ⟨ret_str ?_, rfl⟩
      have h9 : Lib.decDigits N = lA t := HD.out
      rw [h9, bA_lA]
    · have h1 : m % 10 < 10 := Nat.mod_lt _ (by omega)
      have r1 := fun w => digS_run (m % 10) ((m : Int) % 10) (by omega) h1 w
      have s1 := digS_size h1
      have hpos : (0 : Int) < (m : Int) := by omega
      have HG : Hid (Lib.decDigits N = (if m / 10 = 0 then [] else Lib.decDigits (m / 10)) ++ lA (digS (m % 10) ++ t)) := Lib.hid (by
        have := dec_step (m := m) (t := lA t)
        have h2 := HD.out
        rw [if_neg h0] at h2
        rw [h2, this, lA_append, digS_eq h1]; rfl)
      have hs2 : (digS (m % 10) ++ t).size ≤ 100 := by rw [ByteArray.size_append]; omega
      generalize digS (m % 10) = d1 at r1 s1 HG hs2
      go_wp2_with fail
      go_round
      case rel => exact ⟨m / 10, d1 ++ t, by omega, hs2, by simp, rfl, HG.out⟩
      case measure => simp [intOf]; omega
theorem decimal_neg (N : Nat) (h0 : 0 < N) (hN : N ≤ 1000000000) (w : World) :
    Calls Tryd.prog 37 #[.int .i64 (-(N : Int))] w fun e w' => e = .returned (.string (bA (45 :: Lib.decDigits N))) ∧ w = w' := by
  have c0 : -(N : Int) < 0 := by omega
  have hl : (bA (Lib.decDigits N)).size ≤ 30 := by
    have h2 := Lib.itoa_length_le (N : Int) (by omega) (by omega)
    rw [Lib.itoa_nonneg] at h2
    rw [← lA_len, lA_bA]; omega
  have hcat : (⟨#[45]⟩ : ByteArray) ++ bA (Lib.decDigits N) = bA (45 :: Lib.decDigits N) := by apply lA_inj; rw [lA_append, lA_bA, lA_bA]; rfl
  have HC := Lib.hid hcat
  have HD := Lib.hid (fun w => decimal_pos N hN w)
  clear hcat
  generalize bA (Lib.decDigits N) = S at hl HC HD
  go_enter Tryd.func37, Tryd.ntmps37
  go_wp2_with fail
  refine (HD.out _).mono ?_
  rintro e w1 ⟨rfl, rfl⟩
  go_wp2_with fail
  go_ret
  exact ⟨ret_str HC.out, rfl⟩
theorem decimal_any (n : Int) (h1 : -1000000000 ≤ n) (h2 : n ≤ 1000000000) (w : World) :
    Calls Tryd.prog 37 #[.int .i64 n] w fun e w' => e = .returned (.string (bA (Lib.itoa n))) ∧ w = w' := by
  by_cases hn : n < 0
  · have := decimal_neg n.natAbs (by omega) (by omega) w
    rw [show (-(n.natAbs : Int)) = n by omega, show (45 :: Lib.decDigits n.natAbs) = Lib.itoa n by unfold Lib.itoa; rw [if_pos hn]] at this
    exact this
  · have := decimal_pos n.toNat (by omega) w
    rw [show ((n.toNat : Nat) : Int) = n by omega, show Lib.decDigits n.toNat = Lib.itoa n by unfold Lib.itoa; rw [if_neg hn]] at this
    exact this
end Go.Proofs.YtjjjopopalcokaaDoor
