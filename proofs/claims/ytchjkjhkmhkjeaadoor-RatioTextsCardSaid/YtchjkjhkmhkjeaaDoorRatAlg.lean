/-
  The algebra of ratios: what a valid ratio of X / Y is, that there is one alone, and the laws of a field within the range.
-/
import Derived.Test.YtchjkjhkmhkjeaaDoorRatLaw
namespace Go.Proofs.YtchjkjhkmhkjeaaDoor.RM
set_option linter.unusedVariables false
set_option linter.unusedSimpArgs false

theorem mk_self' {n d : Int} (h : vld n d = true) : mkN n d = n ∧ mkD n d = d ∧ mkE n d = 0 := by
  obtain ⟨h1, h2, h3, h4, h5⟩ := vld_iff.1 h
  have g : Nat.gcd n.natAbs d.natAbs = 1 := by unfold gcdI at h5; omega
  have eN : amN n d = n.natAbs := by unfold amN; rw [g, Nat.div_one]
  have eD : amD n d = d.natAbs := by unfold amD; rw [g, Nat.div_one]
  have hf : fits n d = true := by simp only [fits, eN, eD, decide_eq_true_eq]; omega
  have hd : ¬ d < 0 := by omega
  refine ⟨?_, ?_, ?_⟩
  · by_cases hn : n < 0 <;> simp [mkN, hf, eN, hn, hd] <;> omega
  · simp [mkD, hf, eD]; omega
  · simp [mkE, hf]

/-- A valid ratio that stands for X / Y is what Make gives. -/
theorem mk_unique {n d X Y : Int} (h : vld n d = true) (hY : Y ≠ 0) (e : X * d = n * Y) : mkN X Y = n ∧ mkD X Y = d ∧ mkE X Y = 0 := by
  obtain ⟨h1, h2, h3, h4, h5⟩ := vld_iff.1 h
  have g : Nat.Coprime d.natAbs n.natAbs := by unfold gcdI at h5; rw [Nat.coprime_comm]; unfold Nat.Coprime; omega
  have dv : d.natAbs ∣ Y.natAbs := by
    refine g.dvd_of_dvd_mul_left (n := Y.natAbs) ?_
    rw [← Int.natAbs_mul, ← e, Int.natAbs_mul]; exact Nat.dvd_mul_left _ _
  obtain ⟨k, hk⟩ := Int.natAbs_dvd_natAbs.1 dv
  subst hk
  have hX : X = k * n := by
    have : X * d = (k * n) * d := by rw [e]; grind
    exact Int.eq_of_mul_eq_mul_right (by omega) this
  subst hX
  have hk0 : k ≠ 0 := by intro hk; subst hk; simp at hY
  obtain ⟨s1, s2, s3⟩ := mk_self' h
  rw [Int.mul_comm d k]
  rcases Int.lt_or_gt_of_ne hk0 with hk | hk
  · obtain ⟨r1, r2, r3⟩ := mk_negneg (k * n) (k * d)
    rw [← Int.neg_mul, ← Int.neg_mul] at r1 r2 r3
    obtain ⟨t1, t2, t3⟩ := mk_scale (-k) n d (by omega)
    rw [← r1, ← r2, ← r3, t1, t2, t3]; exact ⟨s1, s2, s3⟩
  · obtain ⟨t1, t2, t3⟩ := mk_scale k n d hk
    rw [t1, t2, t3]; exact ⟨s1, s2, s3⟩

/-- What Make gives is valid, and stands for the fraction. -/
theorem mk_spec {X Y : Int} (h : mkE X Y = 0) : Y ≠ 0 ∧ vld (mkN X Y) (mkD X Y) = true ∧ X * mkD X Y = mkN X Y * Y := by
  have hf : fits X Y = true := by
    cases hf : fits X Y with
    | true => rfl
    | false =>
      exfalso
      unfold mkE at h
      rw [hf] at h
      by_cases hY : Y = 0
      · rw [if_pos hY] at h; simp at h
      · rw [if_neg hY] at h; simp at h
  have hf' := hf
  simp only [fits, decide_eq_true_eq] at hf'
  obtain ⟨hY, b1, b2⟩ := hf'
  have hp := amD_pos (n := X) (d := Y) hY
  have hc := am_coprime (n := X) (d := Y) hY
  have m1 := amN_mul (n := X) (d := Y)
  have m2 := amD_mul (n := X) (d := Y)
  have hD : mkD X Y = amD X Y := by simp [mkD, hf]
  have hNabs : (mkN X Y).natAbs = amN X Y := by
    simp only [mkN, hf, if_true]; split <;> omega
  refine ⟨hY, vld_iff.2 ⟨by omega, by omega, by omega, by omega, ?_⟩, ?_⟩
  · unfold gcdI; rw [hNabs, hD]; simp [hc]
  · generalize Nat.gcd X.natAbs Y.natAbs = g at m1 m2
    have eX : (amN X Y : Int) * g = X.natAbs := by rw [← m1]; simp
    have eY : (amD X Y : Int) * g = Y.natAbs := by rw [← m2]; simp
    rw [hD]
    by_cases sx : X < 0 <;> by_cases sy : Y < 0
    · have hN : mkN X Y = amN X Y := by simp [mkN, hf, sx, sy]
      rw [hN]
      have e1 : X = -((amN X Y : Int) * g) := by omega
      have e2 : Y = -((amD X Y : Int) * g) := by omega
      generalize (amN X Y : Int) = p at *; generalize (amD X Y : Int) = q at *
      subst e1; subst e2; grind
    · have hN : mkN X Y = -(amN X Y : Int) := by simp [mkN, hf, sx, sy]
      rw [hN]
      have e1 : X = -((amN X Y : Int) * g) := by omega
      have e2 : Y = (amD X Y : Int) * g := by omega
      generalize (amN X Y : Int) = p at *; generalize (amD X Y : Int) = q at *
      subst e1; subst e2; grind
    · have hN : mkN X Y = -(amN X Y : Int) := by simp [mkN, hf, sx, sy]
      rw [hN]
      have e1 : X = (amN X Y : Int) * g := by omega
      have e2 : Y = -((amD X Y : Int) * g) := by omega
      generalize (amN X Y : Int) = p at *; generalize (amD X Y : Int) = q at *
      subst e1; subst e2; grind
    · have hN : mkN X Y = (amN X Y : Int) := by simp [mkN, hf, sx, sy]
      rw [hN]
      have e1 : X = (amN X Y : Int) * g := by omega
      have e2 : Y = (amD X Y : Int) * g := by omega
      generalize (amN X Y : Int) = p at *; generalize (amD X Y : Int) = q at *
      subst e1; subst e2; grind

/-- Two valid ratios that stand for one number are one. -/
theorem ratio_eq {n d m c : Int} (h1 : vld n d = true) (h2 : vld m c = true) (e : n * c = m * d) : n = m ∧ d = c := by
  have hc := (vld_iff.1 h2).1
  obtain ⟨a1, a2, _⟩ := mk_unique (X := m) (Y := c) h1 (by omega) e.symm
  obtain ⟨b1, b2, _⟩ := mk_self' h2
  exact ⟨a1.symm.trans b1, a2.symm.trans b2⟩

/-- An error of Make: 18 if the denominator is 0, else 16. -/
theorem mkE_cases {X Y : Int} (hY : Y ≠ 0) : mkE X Y = 0 ∨ mkE X Y = 16 := by
  unfold mkE; split <;> simp_all
theorem mkE_zero (X : Int) : mkE X 0 = 18 := by simp [mkE, fits]

/-! ### The laws -/
/-- A difference added gives the number again. -/
theorem sub_add {an ad bn bd : Int} (ha : vld an ad = true) (hb : vld bn bd = true) (h : mkE (an * bd - bn * ad) (ad * bd) = 0) :
    mkN (mkN (an * bd - bn * ad) (ad * bd) * bd + bn * mkD (an * bd - bn * ad) (ad * bd)) (mkD (an * bd - bn * ad) (ad * bd) * bd) = an ∧
    mkD (mkN (an * bd - bn * ad) (ad * bd) * bd + bn * mkD (an * bd - bn * ad) (ad * bd)) (mkD (an * bd - bn * ad) (ad * bd) * bd) = ad ∧
    mkE (mkN (an * bd - bn * ad) (ad * bd) * bd + bn * mkD (an * bd - bn * ad) (ad * bd)) (mkD (an * bd - bn * ad) (ad * bd) * bd) = 0 := by
  obtain ⟨hY, hv, e⟩ := mk_spec h
  generalize mkN (an * bd - bn * ad) (ad * bd) = kn at *
  generalize mkD (an * bd - bn * ad) (ad * bd) = kd at *
  have k1 := (vld_iff.1 hv).1
  have b1 := (vld_iff.1 hb).1
  have hne : kd * bd ≠ 0 := Int.mul_ne_zero (by omega) (by omega)
  refine mk_unique ha hne ?_
  refine Int.eq_of_mul_eq_mul_right (a := bd) (by omega) ?_
  grind
/-- A quotient multiplied gives the number again. -/
theorem div_mul {an ad bn bd : Int} (ha : vld an ad = true) (hb : vld bn bd = true) (hb0 : bn ≠ 0) (h : mkE (an * bd) (ad * bn) = 0) :
    mkN (mkN (an * bd) (ad * bn) * bn) (mkD (an * bd) (ad * bn) * bd) = an ∧ mkD (mkN (an * bd) (ad * bn) * bn) (mkD (an * bd) (ad * bn) * bd) = ad ∧ mkE (mkN (an * bd) (ad * bn) * bn) (mkD (an * bd) (ad * bn) * bd) = 0 := by
  obtain ⟨hY, hv, e⟩ := mk_spec h
  generalize mkN (an * bd) (ad * bn) = kn at *
  generalize mkD (an * bd) (ad * bn) = kd at *
  have k1 := (vld_iff.1 hv).1
  have b1 := (vld_iff.1 hb).1
  have hne : kd * bd ≠ 0 := Int.mul_ne_zero (by omega) (by omega)
  refine mk_unique ha hne ?_
  grind

/-- A sum with a sum that stands for S / T. -/
theorem chain_add {pn pd cn cd ln ld S T : Int} (hp : pd ≠ 0) (h1 : S * pd = pn * T) (h2 : (pn * cd + cn * pd) * ld = ln * (pd * cd)) : (S * cd + cn * T) * ld = ln * (T * cd) := by
  refine Int.eq_of_mul_eq_mul_left hp ?_
  grind
theorem chain_mul {pn pd cn cd ln ld S T : Int} (hp : pd ≠ 0) (h1 : S * pd = pn * T) (h2 : (pn * cn) * ld = ln * (pd * cd)) : (S * cn) * ld = ln * (T * cd) := by
  refine Int.eq_of_mul_eq_mul_left hp ?_
  grind
/-- Two ratios that stand for N / D. -/
theorem chain_eq {ln ld rn rd N D : Int} (hD : D ≠ 0) (h1 : N * ld = ln * D) (h2 : N * rd = rn * D) : ln * rd = rn * ld := by
  refine Int.eq_of_mul_eq_mul_left hD ?_
  grind

end Go.Proofs.YtchjkjhkmhkjeaaDoor.RM
