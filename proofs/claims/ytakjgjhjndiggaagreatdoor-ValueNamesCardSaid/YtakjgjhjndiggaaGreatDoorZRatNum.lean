/-
  What number of package ratio hands back, for any string.
-/
import Derived.Test.YtakjgjhjndiggaaGreatDoorZRatText
import Derived.Laws.RangeAny
import Derived.Laws.RangeString
namespace Go.Proofs.YtakjgjhjndiggaaGreatDoor
open Go.RowKit
open RM
set_option linter.unusedVariables false
set_option linter.unusedSimpArgs false

/-- One digit more. -/
def digN (acc r : Int) : Int := wrap64 (wrap64 (acc * 10) + wrap64 (wrap32 (r - 48)))
/-- The number read from a place on. -/
def numF (s : ByteArray) : Nat → Nat → Int → Int
  | 0, _, acc => acc
  | b + 1, i, acc => if i < s.size then numF s b (i + (Utf8.decode s i).2) (digN acc (Utf8.decode s i).1) else acc
def numV (s : ByteArray) : Int := numF s s.size 0 0
theorem width_pos (s : ByteArray) (pos : Nat) (h : pos < s.size) : 1 ≤ (Utf8.decode s pos).2 := by
  by_cases ha : (s[pos]'h).toNat < 128
  · rw [decode_ascii s pos h ha]
    exact Nat.le_refl _
  · exact (decode_high s pos h (by omega)).2
theorem numF_end (s : ByteArray) (b pos : Nat) (acc : Int) (h : ¬ pos < s.size) : numF s b pos acc = acc := by
  cases b with
  | zero => rfl
  | succ b => simp [numF, h]

set_option maxHeartbeats 400000 in
theorem number_any (s : ByteArray) (w : World) :
    Calls Tryz.prog 126 #[.string s] w fun e w' => e = .returned (.int .i64 (numV s)) ∧ Below w.heap.size w w' := by
  go_enter Tryz.func126, Tryz.ntmps126
  go_wp2_with fail
  go_loopw [3] (fun n w' => ∃ (pos b : Nat) (acc : Int), w' = w.iter s pos ∧ n = .int .i64 acc ∧ numF s b pos acc = numV s ∧ s.size ≤ pos + b) (fun _ w' => s.size - w'.iterPos w.heap.size)
  case atStart => exact ⟨0, s.size, 0, rfl, rfl, rfl, by omega⟩
  case round =>
    obtain ⟨pos, b, acc, rfl, rfl, hc, hb⟩ := hrel
    have Hc := Lib.hid hc
    clear hc
    by_cases hp : pos < s.size
    · have hnx : ∀ ty, (Instr.next (.pointer (some ⟨w.heap.size, 0, none⟩)) true ty).run Tryz.prog (w.iter s pos) = _ := fun ty => run_next_any w s pos ty hp
      go_wp2_with fail
      have hwd := width_pos s pos hp
      go_roundw
      case rel =>
        cases b with
        | zero => omega
        | succ b =>
          refine ⟨pos + (Utf8.decode s pos).2, b, _, rfl, rfl, ?_, by omega⟩
          have hc := Hc.out
          rw [← hc]
          simp [numF, hp, digN]
      case measure =>
        simp
        omega
    · have hnx : ∀ ty, (Instr.next (.pointer (some ⟨w.heap.size, 0, none⟩)) true ty).run Tryz.prog (w.iter s pos) = _ := fun ty => run_next_end w s pos ty hp
      go_wp2_with fail
      go_ret
      have hc := Hc.out
      rw [numF_end s b pos acc hp] at hc
      refine ⟨by rw [hc]; rfl, ?_⟩
      exact (Below.refl _ _).alloc (Nat.le_refl _) _
end Go.Proofs.YtakjgjhjndiggaaGreatDoor
