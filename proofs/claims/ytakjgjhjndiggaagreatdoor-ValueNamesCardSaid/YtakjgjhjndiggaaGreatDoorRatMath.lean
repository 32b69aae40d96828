/-
  The plain mathematics of exact ratios: what Check, Make and the four operations come to, in integers alone. No program in sight.
-/
namespace Go.Proofs.YtakjgjhjndiggaaGreatDoor.RM

/-- The greatest common divisor of two numbers' amounts, as an integer. -/
def gcdI (n d : Int) : Int := (Nat.gcd n.natAbs d.natAbs : Int)

/-- Valid ratios. -/
def vld (n d : Int) : Bool := decide (1 ≤ d ∧ d ≤ 1000000000 ∧ -1000000000 ≤ n ∧ n ≤ 1000000000 ∧ gcdI n d = 1)

/-- Check's answer. -/
def chk (n d : Int) : Int := if vld n d = true then 0 else 8

theorem chk_valid {n d : Int} (h : vld n d = true) : chk n d = 0 := by simp [chk, h]
theorem chk_not {n d : Int} (h : vld n d = false) : chk n d = 8 := by simp [chk, h]

theorem vld_iff {n d : Int} : vld n d = true ↔ (1 ≤ d ∧ d ≤ 1000000000 ∧ -1000000000 ≤ n ∧ n ≤ 1000000000 ∧ gcdI n d = 1) := by
  simp [vld]

/-- The two amounts without their common divisor. -/
def amN (n d : Int) : Nat := n.natAbs / Nat.gcd n.natAbs d.natAbs
def amD (n d : Int) : Nat := d.natAbs / Nat.gcd n.natAbs d.natAbs
/-- There is a valid ratio of n / d. -/
def fits (n d : Int) : Bool := decide (d ≠ 0 ∧ amN n d ≤ 1000000000 ∧ amD n d ≤ 1000000000)
/-- What Make gives: numerator, denominator, error. -/
def mkN (n d : Int) : Int := if fits n d = true then (if (decide (n < 0) != decide (d < 0)) = true then -(amN n d : Int) else amN n d) else 0
def mkD (n d : Int) : Int := if fits n d = true then amD n d else 0
def mkE (n d : Int) : Int := if fits n d = true then 0 else if d = 0 then 18 else 16

theorem mk_zero (n : Int) : mkN n 0 = 0 ∧ mkD n 0 = 0 ∧ mkE n 0 = 18 := by simp [mkN, mkD, mkE, fits]
theorem mk_big {n d : Int} (hd : d ≠ 0) (h : 1000000000 < amN n d ∨ 1000000000 < amD n d) : mkN n d = 0 ∧ mkD n d = 0 ∧ mkE n d = 16 := by
  have hf : fits n d = false := by simp [fits, hd]; omega
  simp [mkN, mkD, mkE, hf, hd]
theorem mk_neg {n d : Int} (hd : d ≠ 0) (h1 : amN n d ≤ 1000000000) (h2 : amD n d ≤ 1000000000) (hs : (decide (n < 0) != decide (d < 0)) = true) :
    mkN n d = -(amN n d : Int) ∧ mkD n d = amD n d ∧ mkE n d = 0 := by
  have hf : fits n d = true := by simp [fits, hd, h1, h2]
  simp only [mkN, mkD, mkE, hf, hs, if_true, and_self]
theorem mk_pos {n d : Int} (hd : d ≠ 0) (h1 : amN n d ≤ 1000000000) (h2 : amD n d ≤ 1000000000) (hs : (decide (n < 0) != decide (d < 0)) = false) :
    mkN n d = (amN n d : Int) ∧ mkD n d = amD n d ∧ mkE n d = 0 := by
  have hf : fits n d = true := by simp [fits, hd, h1, h2]
  simp [mkN, mkD, mkE, hf, hs]

end Go.Proofs.YtakjgjhjndiggaaGreatDoor.RM
