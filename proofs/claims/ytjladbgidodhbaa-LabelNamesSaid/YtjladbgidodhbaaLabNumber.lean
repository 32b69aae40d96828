/-
  What number of package label hands back.
-/
import Derived.Test.YtjladbgidodhbaaLabName
namespace Go.Proofs.Ytjladbgidodhbaa
open Go.RowKit
open LM
set_option linter.unusedVariables false
set_option linter.unusedSimpArgs false

def nuV (l : Bs) : Int := if numB l = true then (valF 0 l : Int) else 0
/-- How number ends. -/
def NuEnd (l : Bs) (w : World) (e : Ending) (w' : World) : Prop := e = .returned (.tuple #[.int .i64 (nuV l), .bool (numB l)]) ∧ Below w.heap.size w w'
theorem nu_no {l : Bs} (h : numB l = false) {w w' : World} (hb : Below w.heap.size w w') : NuEnd l w (.returned (.tuple #[.int .i64 0, .bool false])) w' :=
  ⟨by rw [nuV, h]; rfl, hb⟩
theorem nu_yes {l : Bs} (h : numB l = true) {n : Int} (hn : n = valF 0 l) {w w' : World} (hb : Below w.heap.size w w') : NuEnd l w (.returned (.tuple #[.int .i64 n, .bool true])) w' :=
  ⟨by rw [nuV, h, hn]; rfl, hb⟩
/-- Where number's loop stands. -/
structure NumAt (s : ByteArray) (k n : Nat) : Prop where
  hi : k ≤ s.size
  dig : ∀ c ∈ (lA s).take k, digB c = true
  val : n = valF 0 ((lA s).take k)
  few : n ≤ 9999
theorem NumAt.start (s : ByteArray) : NumAt s 0 0 := ⟨Nat.zero_le _, by simp, by simp [valF], by omega⟩
theorem num_step {s : ByteArray} {k n : Nat} (h : NumAt s k n) (hk : k < s.size) (hb : digB s[k] = true) :
    (∀ c ∈ (lA s).take (k + 1), digB c = true) ∧ n * 10 + (s[k].toNat - 48) = valF 0 ((lA s).take (k + 1)) := by
  constructor
  · rw [lA_snoc s k hk]; intro c hc
    rw [List.mem_append, List.mem_singleton] at hc
    rcases hc with hc | rfl
    · exact h.dig c hc
    · exact hb
  · rw [lA_snoc s k hk, valF_snoc, ← h.val]
theorem NumAt.step {s : ByteArray} {k n : Nat} (h : NumAt s k n) (hk : k < s.size) (hb : digB s[k] = true) (h9 : n * 10 + (s[k].toNat - 48) ≤ 9999) : NumAt s (k + 1) (n * 10 + (s[k].toNat - 48)) :=
  ⟨hk, (num_step h hk hb).1, (num_step h hk hb).2, h9⟩
theorem num_great {s : ByteArray} {k n : Nat} (h : NumAt s k n) (hk : k < s.size) (hb : digB s[k] = true) (h9 : 9999 < n * 10 + (s[k].toNat - 48)) : numB (lA s) = false := by
  cases hv : numB (lA s)
  · rfl
  · have hl := (numB_iff.1 hv).2.2.1
    have := few_digits (num_step h hk hb).1 (by rw [List.length_take]; omega)
    rw [← (num_step h hk hb).2] at this; omega
theorem num_end {s : ByteArray} {n : Nat} (h : NumAt s s.size n) (h0 : 0 < s.size) (h1 : (lA s).head? ≠ some 48 ∨ lA s = [48]) : numB (lA s) = true ∧ n = valF 0 (lA s) := by
  have hd := h.dig
  have hv := h.val
  rw [lA_all] at hd hv
  exact ⟨numB_iff.2 ⟨lA_ne h0, hd, many_digits hd h1 (by rw [← hv]; exact h.few), h1⟩, hv⟩
theorem num_two {s : ByteArray} (h : 1 < s.size) (h0 : s[0] = 48) : numB (lA s) = false := num_bad_zero h h0
theorem is_zero {s : ByteArray} (h : s.size = 1) (h0 : s[0] = 48) : lA s = [48] := by
  have := lA_drop s 0 (by omega)
  rw [List.drop_zero, h0, List.drop_of_length_le (by rw [lA_len]; omega)] at this
  exact this

set_option maxHeartbeats 2000000 in
theorem number_any (s : ByteArray) (hs : s.size ≤ 200000) (w : World) : Calls Try.prog 58 #[.string s] w (NuEnd (lA s) w) := by
  by_cases h0 : 0 < s.size
  · have hem := str_ne h0
    by_cases hz : s[0] = 48
    · by_cases h1 : 1 < s.size
      · have HV := Lib.hid (num_two h1 hz)
        have z1 : ((s[0].toNat : Int) == 48) = true := by rw [hz]; rfl
        have z2 : (s.toList == [48]) = false := by
          rw [beq_eq_false_iff_ne]; intro e
          have := congrArg List.length e
          rw [ByteArray.toList_eq] at this
          have h2 := lA_len s
          unfold lA at h2
          rw [h2] at this; simp at this; omega
        have z3 : (!s.toList == [48]) = true := by rw [z2]; rfl
        clear hz
        go_enter Try.func58, Try.ntmps58
        go_wp2
        go_ret2
        exact nu_no HV.out (Below.refl _ _)
      · have hlz := is_zero (by omega) hz
        have H1 := Lib.hid (show (lA s).head? ≠ some 48 ∨ lA s = [48] from .inr hlz)
        have z1 : ((s[0].toNat : Int) == 48) = true := by rw [hz]; rfl
        have z2 : s.toList = [48] := by rw [ByteArray.toList_eq]; exact hlz
        have z3 : (!s.toList == [48]) = false := by rw [z2]; rfl
        clear hz hlz
        go_enter Try.func58, Try.ntmps58
        go_wp2
        go_loopw [4] (fun nv wr => ∃ k n : Nat, nv = .int .i64 n ∧ wr = w.iter s k ∧ NumAt s k n) (fun _ wr => s.size - wr.iterPos w.heap.size)
        case atStart => exact ⟨0, 0, rfl, rfl, NumAt.start s⟩
        case round =>
          obtain ⟨k, n, rfl, rfl, hn⟩ := hrel
          have HN := Lib.hid hn
          have n1 := hn.hi
          have n2 := hn.few
          clear hn
          by_cases hlt : k < s.size
          · by_cases ha : s[k].toNat < 128
            · have hnx := next_byte w s k hlt ha
              obtain ⟨b, hb⟩ : ∃ b : Nat, s[k].toNat = b := ⟨_, rfl⟩
              simp only [hb] at hnx
              have HB := Lib.hid hb
              have hbl : b < 128 := by omega
              clear hb ha
              by_cases c1 : b ≤ 47
              · have HV := Lib.hid (num_bad_digit hlt (by have := HB.out; simp [digB]; omega))
                have b1 : (b : Int) < 48 := by omega
                go_wp2_with fail
                go_ret2
                exact nu_no HV.out (iter_below _ _ _)
              · by_cases c2 : b ≤ 57
                · have hd : digB s[k] = true := by have := HB.out; simp [digB]; omega
                  have b1 : (48 : Int) ≤ b := by omega
                  have b2 : (b : Int) ≤ 57 := by omega
                  have b3 : decide (57 < (b : Int)) = false := by rw [decide_eq_false_iff_not]; omega
                  by_cases c3 : 9999 < n * 10 + (b - 48)
                  · have HV := Lib.hid (num_great HN.out hlt hd (by have := HB.out; omega))
                    have b4 : (9999 : Int) < n * 10 + (b - 48) := by omega
                    clear hd
                    go_wp2_with fail
                    go_ret2
                    exact nu_no HV.out (iter_below _ _ _)
                  · have HG := Lib.hid (HN.out.step hlt hd (by have := HB.out; omega))
                    have b4 : (n : Int) * 10 + (b - 48) ≤ 9999 := by omega
                    clear hd
                    go_wp2_with fail
                    go_roundw
                    case rel => exact ⟨k + 1, n * 10 + (s[k].toNat - 48), by have := HB.out; congr 1; omega, rfl, HG.out⟩
                    case measure => simp; omega
                · have HV := Lib.hid (num_bad_digit hlt (by have := HB.out; simp [digB]; omega))
                  have b1 : (57 : Int) < b := by omega
                  have b2 : decide (57 < (b : Int)) = true := by rw [decide_eq_true_iff]; omega
                  go_wp2_with fail
                  go_ret2
                  exact nu_no HV.out (iter_below _ _ _)
            · obtain ⟨r, d, hr, hnx⟩ := next_high w s k hlt ha
              have HV := Lib.hid (num_bad_digit hlt (by simp [digB]; omega))
              have d1 : decide (57 < r) = true := by rw [decide_eq_true_iff]; omega
              clear ha
              go_wp2_with fail
              go_ret2
              exact nu_no HV.out (iter_below _ _ _)
          · obtain rfl : k = s.size := by omega
            have hnx := fun ty => run_next_end (P := Try.prog) w s s.size ty hlt
            have HE := Lib.hid (num_end HN.out h0 H1.out)
            go_wp2_with fail
            go_ret2
            exact nu_yes HE.out.1 (by rw [HE.out.2]) (iter_below _ _ _)
    · have H1 := Lib.hid (show (lA s).head? ≠ some 48 ∨ lA s = [48] from .inl (by rw [head_of h0]; intro e; exact hz (Option.some.inj e)))
      have z1 : ((s[0].toNat : Int) == 48) = false := by rw [beq_eq_false_iff_ne]; intro e; exact hz (UInt8.toNat_inj.1 (by simpa using Int.ofNat.inj e))
      clear hz
      go_enter Try.func58, Try.ntmps58
      go_wp2
      go_loopw [4] (fun nv wr => ∃ k n : Nat, nv = .int .i64 n ∧ wr = w.iter s k ∧ NumAt s k n) (fun _ wr => s.size - wr.iterPos w.heap.size)
      case atStart => exact ⟨0, 0, rfl, rfl, NumAt.start s⟩
      case round =>
        obtain ⟨k, n, rfl, rfl, hn⟩ := hrel
        have HN := Lib.hid hn
        have n1 := hn.hi
        have n2 := hn.few
        clear hn
        by_cases hlt : k < s.size
        · by_cases ha : s[k].toNat < 128
          · have hnx := next_byte w s k hlt ha
            obtain ⟨b, hb⟩ : ∃ b : Nat, s[k].toNat = b := ⟨_, rfl⟩
            simp only [hb] at hnx
            have HB := Lib.hid hb
            have hbl : b < 128 := by omega
            clear hb ha
            by_cases c1 : b ≤ 47
            · have HV := Lib.hid (num_bad_digit hlt (by have := HB.out; simp [digB]; omega))
              have b1 : (b : Int) < 48 := by omega
              go_wp2_with fail
              go_ret2
              exact nu_no HV.out (iter_below _ _ _)
            · by_cases c2 : b ≤ 57
              · have hd : digB s[k] = true := by have := HB.out; simp [digB]; omega
                have b1 : (48 : Int) ≤ b := by omega
                have b2 : (b : Int) ≤ 57 := by omega
                have b3 : decide (57 < (b : Int)) = false := by rw [decide_eq_false_iff_not]; omega
                by_cases c3 : 9999 < n * 10 + (b - 48)
                · have HV := Lib.hid (num_great HN.out hlt hd (by have := HB.out; omega))
                  have b4 : (9999 : Int) < n * 10 + (b - 48) := by omega
                  clear hd
                  go_wp2_with fail
                  go_ret2
                  exact nu_no HV.out (iter_below _ _ _)
                · have HG := Lib.hid (HN.out.step hlt hd (by have := HB.out; omega))
                  have b4 : (n : Int) * 10 + (b - 48) ≤ 9999 := by omega
                  clear hd
                  go_wp2_with fail
                  go_roundw
                  case rel => exact ⟨k + 1, n * 10 + (s[k].toNat - 48), by have := HB.out; congr 1; omega, rfl, HG.out⟩
                  case measure => simp; omega
              · have HV := Lib.hid (num_bad_digit hlt (by have := HB.out; simp [digB]; omega))
                have b1 : (57 : Int) < b := by omega
                have b2 : decide (57 < (b : Int)) = true := by rw [decide_eq_true_iff]; omega
                go_wp2_with fail
                go_ret2
                exact nu_no HV.out (iter_below _ _ _)
          · obtain ⟨r, d, hr, hnx⟩ := next_high w s k hlt ha
            have HV := Lib.hid (num_bad_digit hlt (by simp [digB]; omega))
            have d1 : decide (57 < r) = true := by rw [decide_eq_true_iff]; omega
            clear ha
            go_wp2_with fail
            go_ret2
            exact nu_no HV.out (iter_below _ _ _)
        · obtain rfl : k = s.size := by omega
          have hnx := fun ty => run_next_end (P := Try.prog) w s s.size ty hlt
          have HE := Lib.hid (num_end HN.out h0 H1.out)
          go_wp2_with fail
          go_ret2
          exact nu_yes HE.out.1 (by rw [HE.out.2]) (iter_below _ _ _)
  · obtain rfl := str_nil h0
    go_enter Try.func58, Try.ntmps58
    go_wp2
    go_ret2
    exact nu_no rfl (Below.refl _ _)
end Go.Proofs.Ytjladbgidodhbaa
