/-
  What printable and sound hand back.
-/
import Derived.Test.YtakjgjhjndiggaaGreatDoorValSeq
import Derived.Test.YtakjgjhjndiggaaGreatDoorValFine
import Derived.Laws.RangeAny
import Derived.Lib.OthersKept
namespace Go.Proofs.YtakjgjhjndiggaaGreatDoor
open Go.RowKit
open VM
open RM (vld chk chk_valid chk_not)
set_option linter.unusedVariables false
set_option linter.unusedSimpArgs false

theorem iter_new (w : World) (s : ByteArray) : (w.iter s 0).heap[w.heap.size]? = some (.stringIter s 0) := World.iter_heap w s 0
theorem pr_long {s : ByteArray} (h : 60 < s.size) : prB s = false := by
  unfold prB; rw [Bool.and_eq_false_iff]; left; rw [decide_eq_false_iff_not]; omega

set_option maxHeartbeats 1000000 in
theorem printable_any (s : ByteArray) (w : World) : Calls Tryz.prog 65 #[.string s] w fun e w' => e = .returned (.bool (prB s)) ∧ Below w.heap.size w w' := by
  by_cases hs : 60 < s.size
  · have HP := Lib.hid (pr_long hs)
    have hs2 : (60 : Int) < s.size := by omega
    go_enter Tryz.func65, Tryz.ntmps65
    go_wp2_with fail
    go_ret
    exact ⟨ret_bool HP.out.symm, Below.refl _ _⟩
  · have hs2 : ¬ (60 : Int) < s.size := by omega
    have HY := Lib.hid (fun h => pr_all (s := s) (by omega) h)
    have HN := Lib.hid (fun k h h2 => pr_none (s := s) (k := k) h h2)
    go_enter Tryz.func65, Tryz.ntmps65
    go_wp2_with fail
    go_loopw [] (fun wr => ∃ pos : Nat, pos ≤ s.size ∧ (∀ k, k < pos → (h : k < s.size) → prC s[k] = true) ∧ wr.heap[w.heap.size]? = some (.stringIter s pos) ∧ Below w.heap.size w wr) (fun wr => s.size - wr.iterPos w.heap.size)
    case atStart =>
      refine ⟨0, Nat.zero_le _, fun k hk => by omega, iter_new w s, ?_⟩
      exact (Below.refl _ _).alloc (Nat.le_refl _) _
    case round =>
      obtain ⟨pos, hpos, hall, hit, hB⟩ := hrel
      have HA := Lib.hid hall
      have HB := Lib.hid hB
      have HI := Lib.hid hit
      clear hall hB
      by_cases hp : pos < s.size
      · have hbw2 := Lib.hid (Lib.below_iterAt HB.out (k := w.heap.size) (Nat.le_refl _) s (pos + 1))
        have hit2 := Lib.hid (Lib.iterAt_heap wr w.heap.size s pos (pos + 1) hit)
        have HF := Lib.hid (HN.out pos hp)
        by_cases ha : (s[pos]'hp).toNat < 128
        · have hnx : ∀ ty, (Instr.next (.pointer (some ⟨w.heap.size, 0, none⟩)) true ty).run Tryz.prog wr = _ := fun ty => Lib.run_next_ascii_at wr w.heap.size s pos ty hit hp ha
          have HT : Hid (prC s[pos] = true → ∀ k, k < pos + 1 → (h : k < s.size) → prC s[k] = true) := Lib.hid fun e k hk h => by
            rcases Nat.lt_or_ge k pos with hk2 | hk2
            · exact HA.out k hk2 h
            · obtain rfl : k = pos := by omega
              exact e
          have HC := Lib.hid (@prC_iff s[pos])
          have HC2 := Lib.hid (@prC_no s[pos])
          clear hit
          by_cases c1 : (s[pos]'hp).toNat < 32
          · have c1' : (((s[pos]'hp).toNat : Nat) : Int) < 32 := by omega
            have HG := Lib.hid (HF.out (HC2.out.2 (.inl c1)))
            clear c1
            go_wp2_with fail
            go_ret
            exact ⟨ret_bool HG.out.symm, hbw2.out⟩
          · by_cases c2 : 126 < (s[pos]'hp).toNat
            · have c1' : ¬ (((s[pos]'hp).toNat : Nat) : Int) < 32 := by omega
              have c2' : (126 : Int) < (((s[pos]'hp).toNat : Nat) : Int) := by omega
              have HG := Lib.hid (HF.out (HC2.out.2 (.inr c2)))
              clear c1 c2
              go_wp2_with fail
              go_ret
              exact ⟨ret_bool HG.out.symm, hbw2.out⟩
            · have c1' : ¬ (((s[pos]'hp).toNat : Nat) : Int) < 32 := by omega
              have c2' : ¬ (126 : Int) < (((s[pos]'hp).toNat : Nat) : Int) := by omega
              have HG := Lib.hid (HT.out (HC.out.2 ⟨by omega, by omega⟩))
              clear c1 c2
              go_wp2_with fail
              go_roundw
              case rel => exact ⟨pos + 1, by omega, HG.out, hit2.out, hbw2.out⟩
              case measure =>
                simp only [World.iterPos, hit2.out, HI.out]
                omega
        · have hd := decode_high s pos hp (by omega)
          have hnx : ∀ ty, (Instr.next (.pointer (some ⟨w.heap.size, 0, none⟩)) true ty).run Tryz.prog wr = _ := fun ty => Lib.run_next_any_at wr w.heap.size s pos ty hit hp
          have hbw3 := Lib.hid (Lib.below_iterAt HB.out (k := w.heap.size) (Nat.le_refl _) s (pos + (Utf8.decode s pos).2))
          have HG := Lib.hid (HF.out (prC_no.2 (.inr (by omega))))
          have c1' : ¬ (((Utf8.decode s pos).1 : Nat) : Int) < 32 := by omega
          have c2' : (126 : Int) < (((Utf8.decode s pos).1 : Nat) : Int) := by omega
          clear hit ha hd
          go_wp2_with fail
          go_ret
          exact ⟨ret_bool HG.out.symm, hbw3.out⟩
      · have hnx : ∀ ty, (Instr.next (.pointer (some ⟨w.heap.size, 0, none⟩)) true ty).run Tryz.prog wr = _ := fun ty => Lib.run_next_end_at wr w.heap.size s pos ty hit hp
        have HG := Lib.hid (HY.out fun k hk => HA.out k (by omega) hk)
        clear hit
        go_wp2_with fail
        go_ret
        exact ⟨ret_bool HG.out.symm, HB.out⟩
end Go.Proofs.YtakjgjhjndiggaaGreatDoor
