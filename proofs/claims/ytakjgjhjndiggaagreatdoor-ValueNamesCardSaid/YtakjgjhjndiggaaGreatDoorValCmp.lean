/-
  What the library's Compare and compare of package value hand back.
-/
import Derived.Test.YtakjgjhjndiggaaGreatDoorValSame
import Derived.Test.YtakjgjhjndiggaaGreatDoorValCheck
import Derived.Test.YtakjgjhjndiggaaGreatDoorZRatDoorAll
namespace Go.Proofs.YtakjgjhjndiggaaGreatDoor
open Go.RowKit
open VM
open RM (vld)
set_option linter.unusedVariables false
set_option linter.unusedSimpArgs false

theorem isnan_str (s : ByteArray) (w : World) : Calls Tryz.prog 113 #[.string s] w fun e w' => e = .returned (.bool false) ∧ w' = w := by
  go_enter Tryz.func113, Tryz.ntmps113
  go_wp2_with fail
  go_ret
  exact ⟨rfl, rfl⟩
/-- Strings in order. -/
def cmpS (x y : ByteArray) : Int := if Op.bytesLess x.toList y.toList = true then -1 else if (x.toList == y.toList) = true then 0 else 1
theorem cmpstr_any (x y : ByteArray) (w : World) : Calls Tryz.prog 85 #[.string x, .string y] w fun e w' => e = .returned (.int .i64 (cmpS x y)) ∧ w' = w := by
  cases hl : Op.bytesLess x.toList y.toList
  · cases he : (x.toList == y.toList)
    · have HC : Hid (cmpS x y = 1) := Lib.hid (by unfold cmpS; rw [hl, he]; rfl)
      have he2 : ¬ x.toList = y.toList := by simpa using he
      go_enter Tryz.func85, Tryz.ntmps85
      go_wp2_with fail
      refine (isnan_str _ _).mono ?_
      rintro e ws ⟨rfl, rfl⟩
      go_wp2_with fail
      refine (isnan_str _ _).mono ?_
      rintro e ws ⟨rfl, rfl⟩
      go_wp2_with fail
      go_ret
      exact ⟨ret_int HC.out.symm, rfl⟩
    · have HC : Hid (cmpS x y = 0) := Lib.hid (by unfold cmpS; rw [hl, he]; rfl)
      obtain rfl : x = y := by
        have h2 : x.toList = y.toList := by simpa using he
        rw [ByteArray.toList_eq, ByteArray.toList_eq] at h2
        exact ByteArray.ext (Array.toList_inj.1 h2)
      clear he
      go_enter Tryz.func85, Tryz.ntmps85
      go_wp2_with fail
      refine (isnan_str _ _).mono ?_
      rintro e ws ⟨rfl, rfl⟩
      go_wp2_with fail
      refine (isnan_str _ _).mono ?_
      rintro e ws ⟨rfl, rfl⟩
      go_wp2_with fail
      go_ret
      exact ⟨ret_int HC.out.symm, rfl⟩
  · have HC : Hid (cmpS x y = -1) := Lib.hid (by unfold cmpS; rw [hl]; rfl)
    go_enter Tryz.func85, Tryz.ntmps85
    go_wp2_with fail
    refine (isnan_str _ _).mono ?_
    rintro e ws ⟨rfl, rfl⟩
    go_wp2_with fail
    refine (isnan_str _ _).mono ?_
    rintro e ws ⟨rfl, rfl⟩
    go_wp2_with fail
    go_ret
    exact ⟨ret_int HC.out.symm, rfl⟩
theorem isnan_int (x : Int) (w : World) : Calls Tryz.prog 130 #[.int .i64 x] w fun e w' => e = .returned (.bool false) ∧ w' = w := by
  go_enter Tryz.func130, Tryz.ntmps130
  go_wp2_with fail
  go_ret
  exact ⟨rfl, rfl⟩
theorem cmpint_any (x y : Int) (w : World) : Calls Tryz.prog 114 #[.int .i64 x, .int .i64 y] w fun e w' => e = .returned (.int .i64 (cmpI x y)) ∧ w' = w := by
  obtain ⟨c, hc⟩ : ∃ c, cmpI x y = c := ⟨_, rfl⟩
  have HC := Lib.hid hc
  have hh : (x < y ∧ c = -1) ∨ (x = y ∧ c = 0) ∨ (y < x ∧ c = 1) := by
    unfold cmpI at hc; split at hc
    · left; omega
    split at hc
    · right; right; omega
    · right; left; omega
  clear hc
  rcases hh with ⟨h1, rfl⟩ | ⟨rfl, rfl⟩ | ⟨h1, rfl⟩
  · have h2 : decide (x < y) = true := decide_eq_true h1
    go_enter Tryz.func114, Tryz.ntmps114
    go_wp2_with fail
    refine (isnan_int _ _).mono ?_
    rintro e ws ⟨rfl, rfl⟩
    go_wp2_with fail
    refine (isnan_int _ _).mono ?_
    rintro e ws ⟨rfl, rfl⟩
    go_wp2_with fail
    go_ret
    exact ⟨ret_int HC.out.symm, rfl⟩
  · go_enter Tryz.func114, Tryz.ntmps114
    go_wp2_with fail
    refine (isnan_int _ _).mono ?_
    rintro e ws ⟨rfl, rfl⟩
    go_wp2_with fail
    refine (isnan_int _ _).mono ?_
    rintro e ws ⟨rfl, rfl⟩
    go_wp2_with fail
    go_ret
    exact ⟨ret_int HC.out.symm, rfl⟩
  · have h2 : decide (x < y) = false := decide_eq_false (by omega)
    have h3 : ¬ x < y := by omega
    go_enter Tryz.func114, Tryz.ntmps114
    go_wp2_with fail
    refine (isnan_int _ _).mono ?_
    rintro e ws ⟨rfl, rfl⟩
    go_wp2_with fail
    refine (isnan_int _ _).mono ?_
    rintro e ws ⟨rfl, rfl⟩
    go_wp2_with fail
    go_ret
    exact ⟨ret_int HC.out.symm, rfl⟩
/-- Truth values in order. -/
def cmpT (x y : Bool) : Int := if x = y then 0 else if y = true then -1 else 1
theorem cmptruths_any (x y : Bool) (w : World) : Calls Tryz.prog 84 #[.bool x, .bool y] w fun e w' => e = .returned (.int .i64 (cmpT x y)) ∧ w' = w := by
  cases x <;> cases y
  all_goals
    go_enter Tryz.func84, Tryz.ntmps84
    go_wp2_with fail
    go_ret
    exact ⟨rfl, rfl⟩
/-! ### Values in order -/
mutual
def cmpV : V → V → Int × Int
  | .mk a l, .mk b m =>
    if a.k ≠ b.k then (0, 20) else if a.k = 1 then (okN (vld a.n a.d && vld b.n b.d) (cmpI (a.n * b.d) (b.n * a.d)), okE (vld a.n a.d && vld b.n b.d))
    else if a.k = 2 then (cmpT a.t b.t, 0) else if a.k = 3 then (cmpS a.s b.s, 0) else cmpL l m
def cmpL : List V → List V → Int × Int
  | [], [] => (0, 0)
  | [], _ :: _ => (-1, 0)
  | _ :: _, [] => (1, 0)
  | x :: l, y :: m => if (cmpV x y).1 ≠ 0 ∨ (cmpV x y).2 ≠ 0 then cmpV x y else cmpL l m
end
theorem cmpL_stop : ∀ (l m : List V) (k : Nat) (h1 : k < l.length) (h2 : k < m.length), (∀ j, j < k → (a : j < l.length) → (b : j < m.length) → cmpV l[j] m[j] = (0, 0)) → ((cmpV l[k] m[k]).1 ≠ 0 ∨ (cmpV l[k] m[k]).2 ≠ 0) → cmpL l m = cmpV l[k] m[k]
  | x :: l, y :: m, 0, _, _, _, h => by
    rw [cmpL]; simp only [List.getElem_cons_zero] at h ⊢; rw [if_pos h]
  | x :: l, y :: m, k + 1, h1, h2, ha, h => by
    have h0 := ha 0 (by omega) (by simp) (by simp)
    simp only [List.getElem_cons_zero] at h0
    rw [cmpL, h0]
    simp only [ne_eq, not_true_eq_false, or_self, if_false, List.getElem_cons_succ]
    exact cmpL_stop l m k (by simpa using h1) (by simpa using h2) (fun j hj a b => by have := ha (j + 1) (by omega) (by simp; omega) (by simp; omega); simpa using this) (by simpa using h)
theorem cmpL_all : ∀ (l m : List V), (∀ j, (a : j < l.length) → (b : j < m.length) → cmpV l[j] m[j] = (0, 0)) → cmpL l m = (cmpI l.length m.length, 0)
  | [], [], _ => by rw [cmpL]; rfl
  | [], y :: m, _ => by rw [cmpL]; simp [cmpI] <;> omega
  | x :: l, [], _ => by rw [cmpL]; simp [cmpI] <;> omega
  | x :: l, y :: m, ha => by
    have h0 := ha 0 (by simp) (by simp)
    simp only [List.getElem_cons_zero] at h0
    rw [cmpL, h0]
    simp only [ne_eq, not_true_eq_false, or_self, if_false]
    rw [cmpL_all l m (fun j a b => by have := ha (j + 1) (by simp; omega) (by simp; omega); simpa using this)]
    congr 1
    unfold cmpI
    simp only [List.length_cons]
    split <;> split <;> (try split) <;> (try split) <;> omega
end Go.Proofs.YtakjgjhjndiggaaGreatDoor
