/-
  What Name and number of package label hand back.
-/
import Derived.Test.YtjladbgidodhbaaLabLib
import Derived.Laws.RangeAny
import Derived.Laws.RangeString
namespace Go.Proofs.Ytjladbgidodhbaa
open Go.RowKit
open LM
set_option linter.unusedVariables false
set_option linter.unusedSimpArgs false

theorem next_byte (w : World) (s : ByteArray) (k : Nat) (h : k < s.size) (ha : (s[k]'h).toNat < 128) (ty : TypeId) :
    (Instr.next (.pointer (some ⟨w.heap.size, 0, none⟩)) true ty).run Try.prog (w.iter s k) = .ok (.tuple #[.bool true, .int .i64 k, .int .i32 (s[k]'h).toNat]) (w.iter s (k + 1)) := by
  have := run_next_any (P := Try.prog) w s k ty h
  rw [decode_ascii s k h ha] at this; exact this
theorem next_high (w : World) (s : ByteArray) (k : Nat) (h : k < s.size) (ha : ¬ (s[k]'h).toNat < 128) : ∃ (r : Int) (d : Nat), 128 ≤ r ∧ ∀ ty : TypeId,
    (Instr.next (.pointer (some ⟨w.heap.size, 0, none⟩)) true ty).run Try.prog (w.iter s k) = .ok (.tuple #[.bool true, .int .i64 k, .int .i32 r]) (w.iter s d) := by
  have h2 := decode_high s k h (by omega)
  exact ⟨(Utf8.decode s k).1, _, by omega, fun ty => run_next_any w s k ty h⟩
theorem letB_no {c : UInt8} (h : c.toNat < 97 ∨ 122 < c.toNat) : letB c = false := by simp [letB]; omega
theorem letB_yes {c : UInt8} (h : 97 ≤ c.toNat ∧ c.toNat ≤ 122) : letB c = true := by simp [letB]; omega
theorem innB_no {c : UInt8} (h : c.toNat < 97 ∨ 122 < c.toNat) (h2 : c.toNat < 48 ∨ 57 < c.toNat) (h3 : c.toNat ≠ 45) : innB c = false := by simp [innB, letB, digB, h3]; omega
theorem innB_yes {c : UInt8} (h2 : (48 ≤ c.toNat ∧ c.toNat ≤ 57) ∨ c.toNat = 45) : innB c = true := by rw [innB_iff]; omega
theorem let_good {c : UInt8} (k : Nat) (h : letB c = true) : (if k = 0 then letB c else innB c) = true := by
  split
  · exact h
  · exact letB_inn h
theorem iter_below (w : World) (s : ByteArray) (k : Nat) : Below w.heap.size w (w.iter s k) := (Below.refl _ _).alloc (Nat.le_refl _) _

set_option maxHeartbeats 2000000 in
theorem name_any (s : ByteArray) (hs : s.size ≤ 200000) (w : World) : Calls Try.prog 17 #[.string s] w fun e w' => e = .returned (.bool (nameB (lA s))) ∧ Below w.heap.size w w' := by
  by_cases h0 : 0 < s.size
  · have hem := str_ne h0
    by_cases hbig : (40 : Int) < s.size
    · have HV : Hid (nameB (lA s) = false) := Lib.hid (by simp [nameB, lA_len]; omega)
      go_enter Try.func17, Try.ntmps17
      go_wp2
      go_ret
      exact ⟨ret_bool HV.out.symm, Below.refl _ _⟩
    · go_enter Try.func17, Try.ntmps17
      go_wp2
      go_loopw [3] (fun _ wr => ∃ k : Nat, wr = w.iter s k ∧ k ≤ s.size ∧ nam0 ((lA s).take k) = true) (fun _ wr => s.size - wr.iterPos w.heap.size)
      case atStart => exact ⟨0, rfl, Nat.zero_le _, rfl⟩
      case round =>
        obtain ⟨k, rfl, hk, hn⟩ := hrel
        have HN := Lib.hid hn
        clear hn
        by_cases hlt : k < s.size
        · by_cases ha : s[k].toNat < 128
          · have hnx := next_byte w s k hlt ha
            obtain ⟨b, hb⟩ : ∃ b : Nat, s[k].toNat = b := ⟨_, rfl⟩
            simp only [hb] at hnx
            have HB := Lib.hid hb
            clear hb
            by_cases c0 : b ≤ 44
            · have b1 : (0 : Int) ≤ b := by omega
              have b2 : (b : Int) ≤ 44 := by omega
              have b3 : ((b : Int) == 45) = false := by rw [beq_eq_false_iff_ne]; omega
              by_cases hk0 : k = 0
              · subst hk0
                have HV := Lib.hid (nam0_bad hlt (by have := HB.out; rw [if_pos rfl]; exact letB_no (by omega)))
                go_wp2_with fail
                go_ret
                exact ⟨ret_bool HV.out.symm, iter_below _ _ _⟩
              · have k0 : ((k : Int) == 0) = false := by rw [beq_eq_false_iff_ne]; omega
                have HV := Lib.hid (nam0_bad hlt (by have := HB.out; rw [if_neg hk0]; exact innB_no (by omega) (by omega) (by omega)))
                go_wp2_with fail
                go_ret
                exact ⟨ret_bool HV.out.symm, iter_below _ _ _⟩
            · have z0 : True := trivial
              by_cases c1 : b ≤ 45
              · have b1 : (45 : Int) ≤ b := by omega
                have b2 : (b : Int) ≤ 45 := by omega
                have b3 : ((b : Int) == 45) = true := by rw [beq_iff_eq]; omega
                by_cases hk0 : k = 0
                · subst hk0
                  have HV := Lib.hid (nam0_bad hlt (by have := HB.out; rw [if_pos rfl]; exact letB_no (by omega)))
                  go_wp2_with fail
                  go_ret
                  exact ⟨ret_bool HV.out.symm, iter_below _ _ _⟩
                · have k0 : ((k : Int) == 0) = false := by rw [beq_eq_false_iff_ne]; omega
                  have HG := Lib.hid (nam0_good hlt HN.out (by have := HB.out; rw [if_neg hk0]; exact innB_yes (by omega)))
                  go_wp2_with fail
                  go_roundw
                  case rel => exact ⟨k + 1, rfl, by omega, HG.out⟩
                  case measure => simp; omega
              · have z1 : True := trivial
                by_cases c2 : b ≤ 47
                · have b1 : (46 : Int) ≤ b := by omega
                  have b2 : (b : Int) ≤ 47 := by omega
                  have b3 : ((b : Int) == 45) = false := by rw [beq_eq_false_iff_ne]; omega
                  by_cases hk0 : k = 0
                  · subst hk0
                    have HV := Lib.hid (nam0_bad hlt (by have := HB.out; rw [if_pos rfl]; exact letB_no (by omega)))
                    go_wp2_with fail
                    go_ret
                    exact ⟨ret_bool HV.out.symm, iter_below _ _ _⟩
                  · have k0 : ((k : Int) == 0) = false := by rw [beq_eq_false_iff_ne]; omega
                    have HV := Lib.hid (nam0_bad hlt (by have := HB.out; rw [if_neg hk0]; exact innB_no (by omega) (by omega) (by omega)))
                    go_wp2_with fail
                    go_ret
                    exact ⟨ret_bool HV.out.symm, iter_below _ _ _⟩
                · have z2 : True := trivial
                  by_cases c3 : b ≤ 57
                  · have b1 : (48 : Int) ≤ b := by omega
                    have b2 : (b : Int) ≤ 57 := by omega
                    have b3 : ((b : Int) == 45) = false := by rw [beq_eq_false_iff_ne]; omega
                    by_cases hk0 : k = 0
                    · subst hk0
                      have HV := Lib.hid (nam0_bad hlt (by have := HB.out; rw [if_pos rfl]; exact letB_no (by omega)))
                      go_wp2_with fail
                      go_ret
                      exact ⟨ret_bool HV.out.symm, iter_below _ _ _⟩
                    · have k0 : ((k : Int) == 0) = false := by rw [beq_eq_false_iff_ne]; omega
                      have HG := Lib.hid (nam0_good hlt HN.out (by have := HB.out; rw [if_neg hk0]; exact innB_yes (by omega)))
                      go_wp2_with fail
                      go_roundw
                      case rel => exact ⟨k + 1, rfl, by omega, HG.out⟩
                      case measure => simp; omega
                  · have z3 : True := trivial
                    by_cases c4 : b ≤ 96
                    · have b1 : (58 : Int) ≤ b := by omega
                      have b2 : (b : Int) ≤ 96 := by omega
                      have d1 : decide ((b : Int) ≤ 57) = false := by rw [decide_eq_false_iff_not]; omega
                      have b3 : ((b : Int) == 45) = false := by rw [beq_eq_false_iff_ne]; omega
                      by_cases hk0 : k = 0
                      · subst hk0
                        have HV := Lib.hid (nam0_bad hlt (by have := HB.out; rw [if_pos rfl]; exact letB_no (by omega)))
                        go_wp2_with fail
                        go_ret
                        exact ⟨ret_bool HV.out.symm, iter_below _ _ _⟩
                      · have k0 : ((k : Int) == 0) = false := by rw [beq_eq_false_iff_ne]; omega
                        have HV := Lib.hid (nam0_bad hlt (by have := HB.out; rw [if_neg hk0]; exact innB_no (by omega) (by omega) (by omega)))
                        go_wp2_with fail
                        go_ret
                        exact ⟨ret_bool HV.out.symm, iter_below _ _ _⟩
                    · have z4 : True := trivial
                      by_cases c5 : b ≤ 122
                      · have b1 : (97 : Int) ≤ b := by omega
                        have b2 : (b : Int) ≤ 122 := by omega
                        have d1 : decide ((b : Int) ≤ 57) = false := by rw [decide_eq_false_iff_not]; omega
                        have b3 : ((b : Int) == 45) = false := by rw [beq_eq_false_iff_ne]; omega
                        have HG := Lib.hid (nam0_good hlt HN.out (let_good _ (letB_yes (by have := HB.out; omega))))
                        go_wp2_with fail
                        go_roundw
                        case rel => exact ⟨k + 1, rfl, by omega, HG.out⟩
                        case measure => simp; omega
                      · have z5 : True := trivial
                        have b1 : (123 : Int) ≤ b := by omega
                        have d1 : decide ((b : Int) ≤ 57) = false := by rw [decide_eq_false_iff_not]; omega
                        have d2 : decide ((b : Int) ≤ 122) = false := by rw [decide_eq_false_iff_not]; omega
                        have b3 : ((b : Int) == 45) = false := by rw [beq_eq_false_iff_ne]; omega
                        by_cases hk0 : k = 0
                        · subst hk0
                          have HV := Lib.hid (nam0_bad hlt (by have := HB.out; rw [if_pos rfl]; exact letB_no (by omega)))
                          go_wp2_with fail
                          go_ret
                          exact ⟨ret_bool HV.out.symm, iter_below _ _ _⟩
                        · have k0 : ((k : Int) == 0) = false := by rw [beq_eq_false_iff_ne]; omega
                          have HV := Lib.hid (nam0_bad hlt (by have := HB.out; rw [if_neg hk0]; exact innB_no (by omega) (by omega) (by omega)))
                          go_wp2_with fail
                          go_ret
                          exact ⟨ret_bool HV.out.symm, iter_below _ _ _⟩
          · obtain ⟨r, d, hr, hnx⟩ := next_high w s k hlt ha
            have b3 : (r == 45) = false := by rw [beq_eq_false_iff_ne]; omega
            have d1 : decide (r ≤ 57) = false := by rw [decide_eq_false_iff_not]; omega
            have d2 : decide (r ≤ 122) = false := by rw [decide_eq_false_iff_not]; omega
            by_cases hk0 : k = 0
            · subst hk0
              have HV := Lib.hid (nam0_bad hlt (by rw [if_pos rfl]; exact letB_no (by omega)))
              clear ha
              go_wp2_with fail
              go_ret
              exact ⟨ret_bool HV.out.symm, iter_below _ _ _⟩
            · have k0 : ((k : Int) == 0) = false := by rw [beq_eq_false_iff_ne]; omega
              have HV := Lib.hid (nam0_bad hlt (by rw [if_neg hk0]; exact innB_no (by omega) (by omega) (by omega)))
              clear ha
              go_wp2_with fail
              go_ret
              exact ⟨ret_bool HV.out.symm, iter_below _ _ _⟩
        · obtain rfl : k = s.size := by omega
          have hnx := fun ty => run_next_end (P := Try.prog) w s s.size ty hlt
          have hn := HN.out
          rw [lA_all] at hn
          have HV : Hid (nameB (lA s) = true) := Lib.hid (by simp [nameB, hn, lA_len]; omega)
          clear hn HN
          go_wp2_with fail
          go_ret
          exact ⟨ret_bool HV.out.symm, iter_below _ _ _⟩
  · obtain rfl := str_nil h0
    go_enter Try.func17, Try.ntmps17
    go_wp2
    go_ret
    exact ⟨rfl, Below.refl _ _⟩
end Go.Proofs.Ytjladbgidodhbaa
