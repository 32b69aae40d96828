/-
  Plain mathematics of ratios: what Make gives does not depend on how a fraction is written, is valid, and is the only one.
-/
import Derived.Test.YtakjgjhjndiggaaGreatDoorRatMath
namespace Go.Proofs.YtakjgjhjndiggaaGreatDoor.RM

theorem gcd_pos {n d : Int} (hd : d ≠ 0) : 0 < Nat.gcd n.natAbs d.natAbs := Nat.gcd_pos_of_pos_right _ (by omega)

theorem am_coprime {n d : Int} (hd : d ≠ 0) : Nat.gcd (amN n d) (amD n d) = 1 :=
  (Nat.coprime_div_gcd_div_gcd (gcd_pos hd)).gcd_eq_one

theorem amN_mul {n d : Int} : amN n d * Nat.gcd n.natAbs d.natAbs = n.natAbs := Nat.div_mul_cancel (Nat.gcd_dvd_left _ _)
theorem amD_mul {n d : Int} : amD n d * Nat.gcd n.natAbs d.natAbs = d.natAbs := Nat.div_mul_cancel (Nat.gcd_dvd_right _ _)
theorem amD_pos {n d : Int} (hd : d ≠ 0) : 1 ≤ amD n d := by
  rcases Nat.eq_zero_or_pos (amD n d) with h | h
  · have := amD_mul (n := n) (d := d); rw [h] at this; omega
  · exact h

theorem tdiv_gcd {n d : Int} : n.tdiv (gcdI n d) = if n < 0 then -(amN n d : Int) else amN n d := by
  have key : ∀ m : Int, 0 ≤ m → m.natAbs = n.natAbs → m.tdiv (gcdI n d) = (amN n d : Int) := by
    intro m hm e
    rw [Int.tdiv_eq_ediv_of_nonneg hm]
    unfold gcdI amN
    rw [← e]
    obtain ⟨k, rfl⟩ := Int.eq_ofNat_of_zero_le hm
    rfl
  by_cases h : n < 0
  · rw [if_pos h, show n = -(-n) by omega, Int.neg_tdiv]
    have := key (-n) (by omega) (by omega)
    rw [show (- -n : Int) = n by omega, this]
  · rw [if_neg h]; exact key n (by omega) rfl

theorem tdiv_gcd_den {n d : Int} (hd : 1 ≤ d) : d.tdiv (gcdI n d) = amD n d := by
  rw [Int.tdiv_eq_ediv_of_nonneg (by omega)]
  unfold gcdI amD
  obtain ⟨k, rfl⟩ := Int.eq_ofNat_of_zero_le (show 0 ≤ d by omega)
  rfl

theorem tdiv_valid {n d : Int} (hd : 1 ≤ d) : vld (n.tdiv (gcdI n d)) (d.tdiv (gcdI n d)) = fits n d := by
  have hp := amD_pos (n := n) (d := d) (by omega)
  have hc := am_coprime (n := n) (d := d) (by omega)
  rw [Bool.eq_iff_iff, vld_iff, tdiv_gcd_den hd, tdiv_gcd]
  have e : gcdI (if n < 0 then -(amN n d : Int) else amN n d) (amD n d) = 1 := by
    unfold gcdI
    split <;> simp [hc]
  simp only [fits, decide_eq_true_eq]
  constructor
  · rintro ⟨_, h2, h3, h4, _⟩
    refine ⟨by omega, ?_, by omega⟩
    split at h3 <;> split at h4 <;> omega
  · rintro ⟨_, h2, h3⟩
    exact ⟨by omega, by omega, by split <;> omega, by split <;> omega, e⟩

theorem mk_tdiv_ok {n d : Int} (hd : 1 ≤ d) (h : vld (n.tdiv (gcdI n d)) (d.tdiv (gcdI n d)) = true) :
    mkN n d = n.tdiv (gcdI n d) ∧ mkD n d = d.tdiv (gcdI n d) ∧ mkE n d = 0 := by
  rw [tdiv_valid hd] at h
  refine ⟨?_, ?_, ?_⟩
  · have hd2 : ¬ d < 0 := by omega
    by_cases hn : n < 0 <;> simp [mkN, h, tdiv_gcd, hn, hd2]
  · simp [mkD, h, tdiv_gcd_den hd]
  · simp [mkE, h]
theorem mk_tdiv_bad {n d : Int} (hd : 1 ≤ d) (h : vld (n.tdiv (gcdI n d)) (d.tdiv (gcdI n d)) = false) :
    mkN n d = 0 ∧ mkD n d = 0 ∧ mkE n d = 16 := by
  rw [tdiv_valid hd] at h
  have : d ≠ 0 := by omega
  simp [mkN, mkD, mkE, h, this]

theorem mk_negneg (n d : Int) : mkN (-n) (-d) = mkN n d ∧ mkD (-n) (-d) = mkD n d ∧ mkE (-n) (-d) = mkE n d := by
  have e1 : amN (-n) (-d) = amN n d := by simp [amN]
  have e2 : amD (-n) (-d) = amD n d := by simp [amD]
  have e3 : fits (-n) (-d) = fits n d := by
    rw [Bool.eq_iff_iff]; simp only [fits, e1, e2, decide_eq_true_eq]; omega
  refine ⟨?_, ?_, ?_⟩
  · unfold mkN
    rw [e1, e3]
    by_cases hf : fits n d = true
    · rw [if_pos hf, if_pos hf]
      have hd : d ≠ 0 := by simp [fits] at hf; exact hf.1
      by_cases hn : n = 0
      · subst hn
        have : amN 0 d = 0 := by simp [amN]
        simp [this]
      · have h1 : decide (-n < 0) = !decide (n < 0) := by rw [Bool.eq_iff_iff]; simp; omega
        have h2 : decide (-d < 0) = !decide (d < 0) := by rw [Bool.eq_iff_iff]; simp; omega
        rw [h1, h2]
        cases decide (n < 0) <;> cases decide (d < 0) <;> rfl
    · rw [if_neg hf, if_neg hf]
  · unfold mkD; rw [e2, e3]
  · unfold mkE; rw [e3]; simp [show (-d = 0) ↔ (d = 0) by omega]

/-- A common factor changes nothing. -/
theorem mk_scale (k n d : Int) (hk : 0 < k) : mkN (k * n) (k * d) = mkN n d ∧ mkD (k * n) (k * d) = mkD n d ∧ mkE (k * n) (k * d) = mkE n d := by
  have hk' : 0 < k.natAbs := by omega
  have g : Nat.gcd (k * n).natAbs (k * d).natAbs = k.natAbs * Nat.gcd n.natAbs d.natAbs := by
    rw [Int.natAbs_mul, Int.natAbs_mul, Nat.gcd_mul_left]
  have e1 : amN (k * n) (k * d) = amN n d := by
    unfold amN; rw [g, Int.natAbs_mul, Nat.mul_div_mul_left _ _ hk']
  have e2 : amD (k * n) (k * d) = amD n d := by
    unfold amD; rw [g, Int.natAbs_mul, Nat.mul_div_mul_left _ _ hk']
  have z : (k * d = 0) ↔ (d = 0) := by
    constructor
    · intro h; rcases Int.mul_eq_zero.1 h with h | h <;> omega
    · intro h; rw [h, Int.mul_zero]
  have sg : ∀ x : Int, decide (k * x < 0) = decide (x < 0) := by
    intro x
    rw [Bool.eq_iff_iff]; simp only [decide_eq_true_eq]
    constructor
    · intro h
      rcases Int.lt_or_le x 0 with hx | hx
      · exact hx
      · have := Int.mul_nonneg (Int.le_of_lt hk) hx; omega
    · intro h; exact Int.mul_neg_of_pos_of_neg hk h
  have e3 : fits (k * n) (k * d) = fits n d := by
    rw [Bool.eq_iff_iff]; simp only [fits, e1, e2, decide_eq_true_eq, z, ne_eq]
  refine ⟨?_, ?_, ?_⟩
  · unfold mkN; rw [e1, e3, sg, sg]
  · unfold mkD; rw [e2, e3]
  · unfold mkE; rw [e3]; simp only [z]

end Go.Proofs.YtakjgjhjndiggaaGreatDoor.RM
