/-
  What the numbers of seeds and paths come to in the walk: the reference's Of, and the package's begin, along, number and Of.
-/
import Derived.Test.YtglnajjbbhokpaaDoorSeedMath
import Derived.Test.YtglnajjbbhokpaaDoorRatKept
import Derived.Test.YtglnajjbbhokpaaDoorChecked
import Derived.WalkKit
import Derived.WalkSmall
import Derived.Lib.Hide
import Derived.Laws.BitsAllLaws
namespace Go.Proofs.YtglnajjbbhokpaaDoor
open Go.RowKit
open SM
set_option linter.unusedVariables false
set_option linter.unusedSimpArgs false

/-- A string's bytes as a list, and a list as a string. -/
def lA (s : ByteArray) : Bs := s.data.toList
def bA (l : Bs) : ByteArray := ⟨l.toArray⟩
theorem lA_bA (l : Bs) : lA (bA l) = l := by simp [lA, bA]
theorem bA_lA (s : ByteArray) : bA (lA s) = s := rfl
theorem lA_len (s : ByteArray) : (lA s).length = s.size := by simp only [lA, Array.length_toList]; rfl
theorem lA_get (s : ByteArray) (k : Nat) (h : k < s.size) (h' : k < (lA s).length) : (lA s)[k]'h' = s[k]'h := rfl
theorem lA_inj {a b : ByteArray} (h : lA a = lA b) : a = b := ByteArray.ext (Array.toList_inj.1 h)
theorem lA_snoc (s : ByteArray) (k : Nat) (h : k < s.size) : (lA s).take (k + 1) = (lA s).take k ++ [s[k]] := by
  have hl : k < (lA s).length := by rw [lA_len]; exact h
  rw [List.take_add_one, List.getElem?_eq_getElem hl, lA_get s k h hl]; rfl
theorem lA_all (s : ByteArray) : (lA s).take s.size = lA s := by rw [← lA_len]; exact List.take_length
theorem ret_bool {a b : Bool} (h : a = b) : Ending.returned (.bool a) = .returned (.bool b) := by rw [h]
theorem ret_int {k : IntKind} {a b : Int} (h : a = b) : Ending.returned (.int k a) = .returned (.int k b) := by rw [h]
theorem ret_str {a b : ByteArray} (h : a = b) : Ending.returned (.string a) = .returned (.string b) := by rw [h]

theorem begin_eq (s : Int) : bits .xor .u64 (IntKind.u64.wrap s) 11400714819323198485 = (begN s : Int) := by
  have h : IntKind.u64.wrap s = ((s % 18446744073709551616).toNat : Int) := by rw [IntKind.wrap_u64]; omega
  rw [h]
  exact bits_xor_u64_nat _ 11400714819323198485 (by omega) (by decide)
theorem begin_any (s : Int) (w : World) : Calls Tryd.prog 22 #[.int .i64 s] w fun e w' => e = .returned (.int .u64 (begN s)) ∧ w = w' := by
  go_enter Tryd.func22, Tryd.ntmps22
  go_wp2_with fail
  go_ret
  exact ⟨ret_int (begin_eq s), rfl⟩

theorem step_eq (m : Nat) (hm : m < 18446744073709551616) (b : UInt8) :
    IntKind.u64.wrap (bits .xor .u64 (m : Int) (IntKind.u64.wrap (b.toNat : Int)) * 1099511628211) = (stepN m b : Int) := by
  have hb : IntKind.u64.wrap (b.toNat : Int) = ((b.toNat : Nat) : Int) := by rw [IntKind.wrap_u64]; have := b.toNat_lt; omega
  rw [hb, bits_xor_u64_nat m b.toNat hm (byte_lt64 b), IntKind.wrap_u64]
  exact (Int.natCast_emod ((m ^^^ b.toNat) * 1099511628211) 18446744073709551616 ▸ rfl)
theorem mixA_eq (m : Nat) (hm : m < 18446744073709551616) : IntKind.u64.wrap (bits .xor .u64 (m : Int) ((m : Int) / 1073741824) * 13787848793156543929) = (mixA m : Int) := mixStep_u64 m 1073741824 13787848793156543929 hm
theorem mixB_eq (m : Nat) (hm : m < 18446744073709551616) : IntKind.u64.wrap (bits .xor .u64 (m : Int) ((m : Int) / 134217728) * 10723151780598845931) = (mixB m : Int) := mixStep_u64 m 134217728 10723151780598845931 hm
theorem mixC_eq (m : Nat) (hm : m < 18446744073709551616) : bits .xor .u64 (m : Int) ((m : Int) / 2147483648) = (mixC m : Int) := xorShift_u64 m 2147483648 hm
theorem along_any (h : Nat) (hh : h < 18446744073709551616) (s : ByteArray) (hs : s.size ≤ 9223372036854775807) (w : World) :
    Calls Tryd.prog 23 #[.int .u64 h, .string s] w fun e w' => e = .returned (.int .u64 (alongN h (lA s))) ∧ w = w' := by
  go_enter Tryd.func23, Tryd.ntmps23
  go_wp2_with fail
  go_loop [0, 8] (fun x i => ∃ k m : Nat, k ≤ s.size ∧ i = .int .i64 k ∧ x = .int .u64 m ∧ m < 18446744073709551616 ∧ m = alongN h ((lA s).take k)) (fun _ i => s.size - (intOf i).toNat)
  case atStart => exact ⟨0, h, Nat.zero_le _, rfl, rfl, hh, rfl⟩
  case round =>
    obtain ⟨k, m, hk, rfl, rfl, hm, hn⟩ := hrel
    have HN := Lib.hid hn
    have HM := Lib.hid hm
    clear hn hm
    by_cases hlt : k < s.size
    · have HS : Hid (stepN m s[k] = alongN h ((lA s).take (k + 1))) := Lib.hid (by rw [lA_snoc s k hlt, alongN_snoc, ← HN.out])
      go_wp2_with fail
      go_round
      case rel => exact ⟨k + 1, stepN m s[k], by omega, by go_num, by rw [step_eq m HM.out], stepN_lt _ _, HS.out⟩
      case measure => simp [intOf]; omega
    · obtain rfl : k = s.size := by omega
      go_wp2_with fail
      go_ret
      rw [lA_all] at HN
      refine ⟨?_, rfl⟩
      rw [← HN.out]; rfl
theorem number_any (h : Nat) (hh : h < 18446744073709551616) (w : World) :
    Calls Tryd.prog 27 #[.int .u64 h] w fun e w' => e = .returned (.int .u64 (numN h)) ∧ w = w' := by
  go_enter Tryd.func27, Tryd.ntmps27
  go_wp2_with fail
  go_ret
  exact ⟨ret_int (by rw [mixA_eq h hh, mixB_eq _ (mixA_lt h), mixC_eq _ (mixB_lt _)]; rfl), rfl⟩
theorem of_any (s : Int) (x : ByteArray) (hx : x.size ≤ 9223372036854775807) (w : World) :
    Calls Tryd.prog 17 #[.int .i64 s, .string x] w fun e w' => e = .returned (.int .u64 (ofN s (lA x))) ∧ w = w' := by
  have h1 := begN_lt s
  have h2 := alongN_lt h1 (lA x)
  go_enter Tryd.func17, Tryd.ntmps17
  go_wp2_with (first | (go_at_call 22; refine (begin_any _ _).mono ?_; rintro e w' ⟨rfl, rfl⟩) | (go_at_call 23; refine (along_any _ h1 _ hx _).mono ?_; rintro e w' ⟨rfl, rfl⟩) | (go_at_call 27; refine (number_any _ h2 _).mono ?_; rintro e w' ⟨rfl, rfl⟩))
  go_ret
  exact ⟨rfl, rfl⟩
theorem refof_any (s : Int) (x : ByteArray) (hx : x.size ≤ 9223372036854775807) (w : World) :
    Calls Tryd.prog 25 #[.int .i64 s, .string x] w fun e w' => e = .returned (.int .u64 (ofN s (lA x))) ∧ w = w' := by
  have hb := begin_eq s
  have h1 := begN_lt s
  go_enter Tryd.func25, Tryd.ntmps25
  go_wp2_with fail
  go_loop [5, 6] (fun m i => ∃ k h : Nat, k ≤ x.size ∧ i = .int .i64 k ∧ m = .int .u64 h ∧ h < 18446744073709551616 ∧ h = alongN (begN s) ((lA x).take k)) (fun _ i => x.size - (intOf i).toNat)
  case atStart => exact ⟨0, begN s, Nat.zero_le _, rfl, rfl, h1, rfl⟩
  case round =>
    obtain ⟨k, m, hk, rfl, rfl, hm, hn⟩ := hrel
    have HN := Lib.hid hn
    have HM := Lib.hid hm
    clear hn hm hb
    by_cases hlt : k < x.size
    · have HS : Hid (stepN m x[k] = alongN (begN s) ((lA x).take (k + 1))) := Lib.hid (by rw [lA_snoc x k hlt, alongN_snoc, ← HN.out])
      go_wp2_with fail
      go_round
      case rel => exact ⟨k + 1, stepN m x[k], by omega, by go_num, by rw [step_eq m HM.out], stepN_lt _ _, HS.out⟩
      case measure => simp [intOf]; omega
    · obtain rfl : k = x.size := by omega
      go_wp2_with fail
      go_ret
      rw [lA_all] at HN
      refine ⟨ret_int ?_, rfl⟩
      rw [mixA_eq m HM.out, mixB_eq _ (mixA_lt m), mixC_eq _ (mixB_lt _), HN.out]; rfl
theorem modulo_any (h n : Nat) (hh : h < 18446744073709551616) (hn : 1 ≤ n) (hn2 : n ≤ 9223372036854775807) (w : World) :
    Calls Tryd.prog 18 #[.int .u64 h, .int .i64 n] w fun e w' => e = .returned (.int .i64 (h % n : Nat)) ∧ w = w' := by
  go_enter Tryd.func18, Tryd.ntmps18
  go_wp2_with fail
  go_ret
  refine ⟨ret_int ?_, rfl⟩
  have h1 : h % n < n := Nat.mod_lt _ hn
  rw [← Int.natCast_emod]
  unfold wrap64; omega
end Go.Proofs.YtglnajjbbhokpaaDoor
