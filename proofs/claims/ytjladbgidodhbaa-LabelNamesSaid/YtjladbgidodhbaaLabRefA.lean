/-
  What the reference's letter, digit, Name, sign and Long hand back.
-/
import Derived.Test.YtjladbgidodhbaaLabStep
import Derived.Test.YtjladbgidodhbaaChecked
import Derived.WalkKit
import Derived.WalkSmall
import Derived.Lib.Hide
namespace Go.Proofs.Ytjladbgidodhbaa
open Go.RowKit
open LM
set_option linter.unusedVariables false
set_option linter.unusedSimpArgs false

/-- A string's bytes as a list, and a list as a string. -/
def lA (s : ByteArray) : Bs := s.data.toList
def bA (l : Bs) : ByteArray := ⟨l.toArray⟩
theorem lA_bA (l : Bs) : lA (bA l) = l := by simp [lA, bA]
theorem bA_lA (s : ByteArray) : bA (lA s) = s := rfl
theorem lA_len (s : ByteArray) : (lA s).length = s.size := by simp only [lA, Array.length_toList]; rfl
theorem lA_get (s : ByteArray) (k : Nat) (h : k < s.size) (h' : k < (lA s).length) : (lA s)[k]'h' = s[k]'h := rfl
theorem lA_inj {a b : ByteArray} (h : lA a = lA b) : a = b := ByteArray.ext (Array.toList_inj.1 h)
theorem lA_ext (s : ByteArray) (a b : Nat) : lA (s.extract a b) = ((lA s).drop a).take (b - a) := Lib.extract_data s a b
theorem lA_take (s : ByteArray) (k : Nat) : lA (s.extract 0 k) = (lA s).take k := by rw [lA_ext]; simp
theorem lA_snoc (s : ByteArray) (k : Nat) (h : k < s.size) : (lA s).take (k + 1) = (lA s).take k ++ [s[k]] := by
  have hl : k < (lA s).length := by rw [lA_len]; exact h
  rw [List.take_add_one, List.getElem?_eq_getElem hl, lA_get s k h hl]; rfl
theorem lA_all (s : ByteArray) : (lA s).take s.size = lA s := by rw [← lA_len]; exact List.take_length
theorem lA_drop (s : ByteArray) (k : Nat) (h : k < s.size) : (lA s).drop k = s[k] :: (lA s).drop (k + 1) := by
  have hl : k < (lA s).length := by rw [lA_len]; exact h
  rw [List.drop_eq_getElem_cons hl, lA_get s k h hl]
theorem ret_bool {a b : Bool} (h : a = b) : Ending.returned (.bool a) = .returned (.bool b) := by rw [h]
theorem ret_int {k : IntKind} {a b : Int} (h : a = b) : Ending.returned (.int k a) = .returned (.int k b) := by rw [h]
theorem ret_str {a b : ByteArray} (h : a = b) : Ending.returned (.string a) = .returned (.string b) := by rw [h]
theorem byte_no {x y : UInt8} (h : x ≠ y) : ((x.toNat : Int) != y.toNat) = true := by rw [bne_iff_ne]; intro e; exact h (UInt8.toNat_inj.1 (by omega))
theorem byte_is {x y : UInt8} (h : x = y) : ((x.toNat : Int) != y.toNat) = false := by subst h; simp
theorem byte_ne {x y : UInt8} (h : x ≠ y) : (x == y) = false := beq_eq_false_iff_ne.2 h
theorem byte_ne2 {x y : UInt8} (h : x ≠ y) : (x != y) = true := bne_iff_ne.2 h

theorem letter_any (x : UInt8) (w : World) : Calls Try.prog 41 #[.int .u8 x.toNat] w fun e w' => e = .returned (.bool (letB x)) ∧ w = w' := by
  have hx := x.toNat_lt
  by_cases h1 : (97 : Int) ≤ x.toNat
  · by_cases h2 : (x.toNat : Int) ≤ 122
    · go_enter Try.func41, Try.ntmps41
      go_wp2
      go_ret
      exact ⟨ret_bool (by simp [letB]; omega), rfl⟩
    · go_enter Try.func41, Try.ntmps41
      go_wp2
      go_ret
      exact ⟨ret_bool (by simp [letB]; omega), rfl⟩
  · go_enter Try.func41, Try.ntmps41
    go_wp2
    go_ret
    exact ⟨ret_bool (by simp [letB]; omega), rfl⟩
theorem digit_any (x : UInt8) (w : World) : Calls Try.prog 42 #[.int .u8 x.toNat] w fun e w' => e = .returned (.bool (digB x)) ∧ w = w' := by
  have hx := x.toNat_lt
  by_cases h1 : (48 : Int) ≤ x.toNat
  · by_cases h2 : (x.toNat : Int) ≤ 57
    · go_enter Try.func42, Try.ntmps42
      go_wp2
      go_ret
      exact ⟨ret_bool (by simp [digB]; omega), rfl⟩
    · go_enter Try.func42, Try.ntmps42
      go_wp2
      go_ret
      exact ⟨ret_bool (by simp [digB]; omega), rfl⟩
  · go_enter Try.func42, Try.ntmps42
    go_wp2
    go_ret
    exact ⟨ret_bool (by simp [digB]; omega), rfl⟩

theorem name_fails {l : Bs} (h : nam0 l = false) : nameB l = false := by simp [nameB, h]
theorem nam0_bad {s : ByteArray} {k : Nat} (h : k < s.size) (hb : (if k = 0 then letB s[k] else innB s[k]) = false) : nameB (lA s) = false := by
  apply name_fails
  cases hv : nam0 (lA s)
  · rfl
  · exfalso
    split at hb
    · rename_i h0
      subst h0
      have := lA_drop s 0 h
      rw [List.drop_zero] at this
      rw [this] at hv
      simp [nam0, hb] at hv
    · have hm : s[k] ∈ lA s := by
        have hl : k < (lA s).length := by rw [lA_len]; exact h
        rw [← lA_get s k h hl]; exact List.getElem_mem _
      rw [nam0_all hv _ hm] at hb
      exact absurd hb (by simp)
theorem nam0_good {s : ByteArray} {k : Nat} (h : k < s.size) (h0 : nam0 ((lA s).take k) = true) (hb : (if k = 0 then letB s[k] else innB s[k]) = true) : nam0 ((lA s).take (k + 1)) = true := by
  rw [lA_snoc s k h]
  by_cases hk : k = 0
  · subst hk; simp at hb; simp [nam0, hb]
  · rw [if_neg hk] at hb
    rw [nam0_snoc _ (by intro e; have := congrArg List.length e; rw [List.length_take, lA_len, List.length_nil] at this; omega), h0, hb]; rfl

set_option maxHeartbeats 400000 in
theorem refname_any (s : ByteArray) (hs : s.size ≤ 100000) (w : World) : Calls Try.prog 18 #[.string s] w fun e w' => e = .returned (.bool (nameB (lA s))) ∧ w = w' := by
  go_enter Try.func18, Try.ntmps18
  go_wp2
  go_loop [3] (fun i => ∃ k : Nat, k ≤ s.size ∧ i = .int .i64 k ∧ nam0 ((lA s).take k) = true) (fun i => s.size - (intOf i).toNat)
  case atStart => exact ⟨0, Nat.zero_le _, rfl, rfl⟩
  case round =>
    obtain ⟨k, hk, rfl, hn⟩ := hrel
    have HN := Lib.hid hn
    clear hn
    by_cases hlt : k < s.size
    · cases hb : (if k = 0 then letB s[k] else innB s[k])
      · have HB := Lib.hid (nam0_bad hlt hb)
        have hl : letB s[k] = false := by
          cases h : letB s[k]
          · rfl
          · split at hb
            · exact h ▸ hb
            · rw [letB_inn h] at hb; exact absurd hb (by simp)
        by_cases h0 : k = 0
        · subst h0
          clear hb
          go_wp2_with (go_at_call 41; refine (letter_any _ _).mono ?_; rintro e w' ⟨rfl, rfl⟩)
          go_ret
          exact ⟨ret_bool HB.out.symm, rfl⟩
        · rw [if_neg h0] at hb
          have h0' : ((k : Int) == 0) = false := by rw [beq_eq_false_iff_ne]; omega
          have h1 : s[k] ≠ 45 := fun e => by rw [e] at hb; simp [innB, letB, digB] at hb
          have h2 : digB s[k] = false := by
            cases h : digB s[k]
            · rfl
            · simp [innB, h] at hb
          clear hb
          have h3 : ((s[k].toNat : Int) != 45) = true := byte_no h1
          go_wp2_with (first | (go_at_call 41; refine (letter_any _ _).mono ?_; rintro e w' ⟨rfl, rfl⟩) | (go_at_call 42; refine (digit_any _ _).mono ?_; rintro e w' ⟨rfl, rfl⟩))
          go_ret
          exact ⟨ret_bool HB.out.symm, rfl⟩
      · have HG := Lib.hid (nam0_good hlt HN.out hb)
        clear HN
        cases hl : letB s[k]
        · have h0 : ¬ k = 0 := fun e => by rw [if_pos e, hl] at hb; exact absurd hb (by simp)
          rw [if_neg h0] at hb
          have h0' : ((k : Int) == 0) = false := by rw [beq_eq_false_iff_ne]; omega
          by_cases h1 : s[k] = 45
          · have h3 : ((s[k].toNat : Int) != 45) = false := byte_is h1
            clear hb h1
            go_wp2_with (first | (go_at_call 41; refine (letter_any _ _).mono ?_; rintro e w' ⟨rfl, rfl⟩) | (go_at_call 42; refine (digit_any _ _).mono ?_; rintro e w' ⟨rfl, rfl⟩))
            go_round
            case rel => exact ⟨k + 1, by omega, by go_num, HG.out⟩
            case measure => simp [intOf]; omega
          · have h2 : digB s[k] = true := by
              cases h : digB s[k]
              · have h5 : s[k].toNat ≠ 45 := fun e => h1 (UInt8.toNat_inj.1 e)
                simp [innB, hl, h, h5] at hb
              · rfl
            have h3 : ((s[k].toNat : Int) != 45) = true := byte_no h1
            clear hb h1
            go_wp2_with (first | (go_at_call 41; refine (letter_any _ _).mono ?_; rintro e w' ⟨rfl, rfl⟩) | (go_at_call 42; refine (digit_any _ _).mono ?_; rintro e w' ⟨rfl, rfl⟩))
            go_round
            case rel => exact ⟨k + 1, by omega, by go_num, HG.out⟩
            case measure => simp [intOf]; omega
        · clear hb
          go_wp2_with (first | (go_at_call 41; refine (letter_any _ _).mono ?_; rintro e w' ⟨rfl, rfl⟩) | (go_at_call 42; refine (digit_any _ _).mono ?_; rintro e w' ⟨rfl, rfl⟩))
          go_round
          case rel => exact ⟨k + 1, by omega, by go_num, HG.out⟩
          case measure => simp [intOf]; omega
    · obtain rfl : k = s.size := by omega
      have hn := HN.out
      rw [lA_all] at hn
      clear HN
      have hv : nameB (lA s) = (decide (1 ≤ s.size) && decide (s.size ≤ 40)) := by simp [nameB, hn, lA_len]
      have HV := Lib.hid hv
      clear hn hv
      by_cases h1 : (1 : Int) ≤ s.size
      · by_cases h2 : (s.size : Int) ≤ 40
        · go_wp2_with fail
          go_ret
          exact ⟨ret_bool (by rw [HV.out]; simp; omega), rfl⟩
        · go_wp2_with fail
          go_ret
          exact ⟨ret_bool (by rw [HV.out]; simp; omega), rfl⟩
      · go_wp2_with fail
        go_ret
        exact ⟨ret_bool (by rw [HV.out]; simp; omega), rfl⟩
end Go.Proofs.Ytjladbgidodhbaa
