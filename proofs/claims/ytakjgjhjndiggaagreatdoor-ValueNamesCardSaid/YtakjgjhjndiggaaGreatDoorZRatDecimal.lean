/-
  What the reference's Decimal hands back.
-/
import Derived.Test.YtakjgjhjndiggaaGreatDoorZRatStr
import Derived.Laws.IdiomStrings
namespace Go.Proofs.YtakjgjhjndiggaaGreatDoor
open Go.RowKit
open RM
set_option linter.unusedVariables false
set_option linter.unusedSimpArgs false

theorem byte_string (m : Nat) (w : World) : (convert 123 9 (.slice (some ⟨w.heap.size, 0, none⟩) 1 1)).run Tryz.prog (w.alloc (.cells #[.int .u8 (48 + (m : Int) % 10)] 5)) =
    .ok (.string ⟨#[UInt8.ofNat (48 + m % 10)]⟩) (w.alloc (.cells #[.int .u8 (48 + (m : Int) % 10)] 5)) := by
  have := run_convert_bytes_back (P := Tryz.prog) (w.alloc (.cells #[.int .u8 (48 + (m : Int) % 10)] 5)) 123 9 5 ⟨w.heap.size, 0, none⟩ 1 [UInt8.ofNat (48 + m % 10)] Tryz.underlying123 Tryz.underlying5 Tryz.underlying9 (by
    intro j hj
    obtain rfl : j = 0 := by simpa using hj
    have e := heap_alloc_new w (.cells #[.int .u8 (48 + (m : Int) % 10)] 5)
    have e2 : ((UInt8.ofNat (48 + m % 10)).toNat : Int) = 48 + (m : Int) % 10 := by rw [ofNat_dig (Nat.mod_lt _ (by omega))]; omega
    have c := cell_of_one e
    rw [show (⟨w.heap.size, 0, none⟩ : Addr).add 0 = ⟨w.heap.size, 0, none⟩ by simp [Addr.add], c, ← e2]; rfl)
  exact this

set_option maxRecDepth 20000 in
set_option maxHeartbeats 400000 in
theorem decimal_pos (N : Nat) (hN : N ≤ 9223372036854775807) (w : World) :
    Calls Tryz.prog 101 #[.int .i64 (N : Int)] w fun e w' => e = .returned (.string ⟨(Lib.decDigits N).toArray⟩) ∧ Below w.heap.size w w' := by
  have c0 : ¬ (N : Int) < 0 := by omega
  go_enter Tryz.func101, Tryz.ntmps101
  go_wp2_with fail
  go_loopw [0, 3] (fun n s wr => ∃ (m : Nat) (t : List UInt8), m ≤ 9223372036854775807 ∧ n = .int .i64 (m : Int) ∧ s = .string ⟨t.toArray⟩ ∧ Lib.decDigits N = Lib.decDigits m ++ t ∧ Below w.heap.size w wr) (fun n s _ => (intOf n).toNat)
  case atStart => exact ⟨N, [], hN, rfl, rfl, by simp, Below.refl _ _⟩
  case round =>
    obtain ⟨m, t, hm, rfl, rfl, hd, hb⟩ := hrel
    have HD := Lib.hid hd
    have HB := Lib.hid hb
    have ht : t.length ≤ 20 := by
      have h1 := congrArg List.length hd
      have h2 := Lib.itoa_length_le (N : Int) (by omega) (by omega)
      rw [Lib.itoa_nonneg] at h2
      have h4 : 1 ≤ (Lib.decDigits m).length := by rw [Lib.decDigits_length]; exact Lib.nDigits_pos m
      rw [List.length_append] at h1
      omega
    clear hd hb
    obtain ⟨S, hS, hcv⟩ : ∃ S : ByteArray, S = ⟨#[UInt8.ofNat (48 + m % 10)]⟩ ∧ (convert 123 9 (.slice (some ⟨wr.heap.size, 0, none⟩) 1 1)).run Tryz.prog (wr.alloc (.cells #[.int .u8 (48 + (m : Int) % 10)] 5)) = .ok (.string S) (wr.alloc (.cells #[.int .u8 (48 + (m : Int) % 10)] 5)) := ⟨_, rfl, byte_string m wr⟩
    have hS1 : S.size = 1 := by rw [hS]; rfl
    have HS := Lib.hid hS
    have hcat : S ++ (⟨t.toArray⟩ : ByteArray) = ⟨(UInt8.ofNat (48 + m % 10) :: t).toArray⟩ := by rw [hS]; apply ByteArray.ext; simp [ByteArray.data_append]
    have HC := Lib.hid hcat
    clear hS hcat
    by_cases hz : m < 10
    · have hq : ((m : Int) / 10 == 0) = true := by rw [beq_iff_eq]; omega
      go_wp2_with fail
      go_ret
      refine ⟨?_, HB.out.alloc HB.out.size _⟩
      have e : Lib.decDigits N = UInt8.ofNat (48 + m % 10) :: t := by rw [HD.out, Lib.decDigits_one hz, Nat.mod_eq_of_lt hz]; rfl
      rw [e, ← HC.out]; rfl
    · have hq : ((m : Int) / 10 == 0) = false := by rw [beq_eq_false_iff_ne]; omega
      go_wp2_with fail
      go_roundw
      case rel =>
        refine ⟨m / 10, UInt8.ofNat (48 + m % 10) :: t, by omega, by simp, by rw [← HC.out], ?_, HB.out.alloc HB.out.size _⟩
        rw [HD.out, show Lib.decDigits m = Lib.decDigits (m / 10) ++ [UInt8.ofNat (48 + m % 10)] by rw [Lib.decDigits, dif_neg hz]]; simp
      case measure => simp [intOf]; omega

set_option maxHeartbeats 400000 in
theorem decimal_neg (N : Nat) (h1 : 1 ≤ N) (hN : N ≤ 9223372036854775807) (w : World) :
    Calls Tryz.prog 101 #[.int .i64 (-(N : Int))] w fun e w' => e = .returned (.string ⟨(45 :: Lib.decDigits N).toArray⟩) ∧ Below w.heap.size w w' := by
  have c0 : -(N : Int) < 0 := by omega
  have hl : (Lib.decDigits N).length ≤ 21 := by
    have h2 := Lib.itoa_length_le (N : Int) (by omega) (by omega)
    rwa [Lib.itoa_nonneg] at h2
  have hcat : (⟨#[45]⟩ : ByteArray) ++ (⟨(Lib.decDigits N).toArray⟩ : ByteArray) = ⟨(45 :: Lib.decDigits N).toArray⟩ := by apply ByteArray.ext; simp [ByteArray.data_append]
  have HC := Lib.hid hcat
  clear hcat
  go_enter Tryz.func101, Tryz.ntmps101
  go_wp2_with fail
  refine (decimal_pos N hN _).mono ?_
  rintro e w1 ⟨rfl, hb⟩
  have HB := Lib.hid hb
  clear hb
  go_wp2_with fail
  go_ret
  exact ⟨by rw [← HC.out]; rfl, HB.out⟩

theorem decimal_any (n : Int) (h1 : -9223372036854775807 ≤ n) (h2 : n ≤ 9223372036854775807) (w : World) :
    Calls Tryz.prog 101 #[.int .i64 n] w fun e w' => e = .returned (.string ⟨(Lib.itoa n).toArray⟩) ∧ Below w.heap.size w w' := by
  by_cases hn : n < 0
  · have := decimal_neg n.natAbs (by omega) (by omega) w
    rw [show (-(n.natAbs : Int)) = n by omega, show (45 :: Lib.decDigits n.natAbs) = Lib.itoa n by unfold Lib.itoa; rw [if_pos hn]] at this
    exact this
  · have := decimal_pos n.toNat (by omega) w
    rw [show ((n.toNat : Nat) : Int) = n by omega, show Lib.decDigits n.toNat = Lib.itoa n by unfold Lib.itoa; rw [if_neg hn]] at this
    exact this
end Go.Proofs.YtakjgjhjndiggaaGreatDoor
