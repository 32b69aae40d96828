/-
  What the reference's Number accepts: exactly the decimals that Decimal writes.
-/
import Derived.Test.YtchjkjhkmhkjeaaDoorRatNumber
import Derived.Test.YtchjkjhkmhkjeaaDoorRatParse
namespace Go.Proofs.YtchjkjhkmhkjeaaDoor
open Go.RowKit
open RM
set_option linter.unusedVariables false
set_option linter.unusedSimpArgs false

/-- What Number says of a string. -/
def NumSays (s : ByteArray) (v : Int) (b : Bool) : Prop :=
  (b = true → s = ⟨(Lib.itoa v).toArray⟩ ∧ -10000000000 ≤ v ∧ v ≤ 10000000000) ∧
  (∀ u : Int, -1000000000 ≤ u → u ≤ 1000000000 → s = ⟨(Lib.itoa u).toArray⟩ → b = true ∧ v = u)
theorem digits_few {u : Nat} (h : u ≤ 1000000000) : (Lib.decDigits u).length ≤ 10 := by
  rw [Lib.decDigits_length]
  refine Nat.not_lt.1 fun hl => ?_
  have h1 : ∀ k u, k < Lib.nDigits u → 10 ^ k ≤ u ∨ k = 0 := by
    intro k
    induction k with
    | zero => intro u _; exact .inr rfl
    | succ k ih =>
      intro u hk
      by_cases hu : u < 10
      · rw [Lib.nDigits_small hu] at hk; omega
      · rw [Lib.nDigits_big hu] at hk
        rcases ih (u / 10) (by omega) with h | h
        · left; rw [Nat.pow_succ]; omega
        · left; subst h; omega
  rcases h1 10 u hl with h | h <;> omega
theorem dec_ne (u : Nat) : Lib.decDigits u ≠ [] := fun e => by
  have := congrArg List.length e
  rw [Lib.decDigits_length] at this
  have := Lib.nDigits_pos u
  simp at *; omega
theorem first_digit {s : ByteArray} {u : Int} (hu : ¬ u < 0) (e : s = ⟨(Lib.itoa u).toArray⟩) (h0 : 0 < s.size) : s[0] ≠ 45 := by
  subst e
  have e2 : Lib.itoa u = Lib.decDigits u.toNat := by unfold Lib.itoa; rw [if_neg hu]
  intro h
  have hm : (⟨(Lib.itoa u).toArray⟩ : ByteArray)[0] ∈ Lib.itoa u := by
    show (Lib.itoa u).toArray[0] ∈ _
    simp
  rw [h, e2] at hm
  have := (dec_digits _ _ hm).1
  simp at this
theorem minus_first {s : ByteArray} {u : Int} (hu : u < 0) (e : s = ⟨(Lib.itoa u).toArray⟩) : ∃ h0 : 0 < s.size, s[0] = 45 := by
  subst e
  have e2 : Lib.itoa u = 45 :: Lib.decDigits u.natAbs := by unfold Lib.itoa; rw [if_pos hu]
  have hl : 0 < (Lib.itoa u).toArray.size := by rw [e2]; simp
  refine ⟨hl, ?_⟩
  show (Lib.itoa u).toArray[0]'hl = 45
  simp [e2]
theorem size_list (l : List UInt8) : (⟨l.toArray⟩ : ByteArray).size = l.length := by simp [ByteArray.size]
/-- A decimal's digits behind its minus. -/
theorem behind {s : ByteArray} {u : Int} {fr : Nat} (hfr : fr = if u < 0 then 1 else 0) (e : s = ⟨(Lib.itoa u).toArray⟩) : s.data.toList.drop fr = Lib.decDigits u.natAbs ∧ s.size = fr + (Lib.decDigits u.natAbs).length := by
  subst e
  rw [size_list]
  show (Lib.itoa u).drop fr = _ ∧ _
  by_cases hu : u < 0
  · have e2 : Lib.itoa u = 45 :: Lib.decDigits u.natAbs := by unfold Lib.itoa; rw [if_pos hu]
    rw [if_pos hu] at hfr; subst hfr
    rw [e2]; exact ⟨rfl, by simp; omega⟩
  · have e2 : Lib.itoa u = Lib.decDigits u.natAbs := by unfold Lib.itoa; rw [if_neg hu, show u.toNat = u.natAbs by omega]
    rw [if_neg hu] at hfr; subst hfr
    rw [e2]; exact ⟨rfl, by simp⟩
theorem says_stop {s : ByteArray} {fr k : Nat} (hfr : ∀ u : Int, s = ⟨(Lib.itoa u).toArray⟩ → fr = if u < 0 then 1 else 0) (hlo : fr ≤ k) (hk : k < s.size) (hb : ¬ isDig s[k] ∨ fr + 9 < k) : NumSays s 0 false := by
  refine ⟨fun h => by simp at h, fun u h1 h2 e => ?_⟩
  obtain ⟨e1, e2⟩ := behind (hfr u e) e
  have hl := digits_few (u := u.natAbs) (by omega)
  rcases hb with hb | hb
  · refine absurd (dec_digits u.natAbs s[k] ?_) hb
    rw [← e1]
    have hk' : k < s.data.toList.length := hk
    have : s[k] = (s.data.toList.drop fr)[k - fr]'(by rw [List.length_drop]; omega) := by
      rw [List.getElem_drop]; simp only [show fr + (k - fr) = k by omega]; rfl
    rw [this]; exact List.getElem_mem _
  · omega
theorem says_done {s : ByteArray} {fr n : Nat} {v : Int} (hfr : ∀ u : Int, s = ⟨(Lib.itoa u).toArray⟩ → fr = if u < 0 then 1 else 0) (hv : ∀ u : Int, s = ⟨(Lib.itoa u).toArray⟩ → n = u.natAbs → v = u) (hb : -10000000000 ≤ v ∧ v ≤ 10000000000) (h : NumAt s fr s.size n) :
    (fr < s.size → NumSays s v ((⟨(Lib.itoa v).toArray⟩ : ByteArray).toList == s.toList)) ∧ (¬ fr < s.size → NumSays s v false) := by
  have key : ∀ u : Int, s = ⟨(Lib.itoa u).toArray⟩ → v = u ∧ fr < s.size := by
    intro u e
    obtain ⟨e1, e2⟩ := behind (hfr u e) e
    have hp : part s fr s.size = Lib.decDigits u.natAbs := by
      unfold part; rw [e1, List.take_of_length_le (by omega)]
    have hn := h.val
    rw [hp, valF_dec] at hn
    have : 0 < (Lib.decDigits u.natAbs).length := List.length_pos_iff.2 (dec_ne _)
    exact ⟨hv u e hn, by omega⟩
  refine ⟨fun _ => ⟨fun hh => ⟨(bytes_of_list (by simpa using hh)).symm, hb⟩, fun u _ _ e => ?_⟩, fun hz => ⟨fun h => by simp at h, fun u _ _ e => absurd (key u e).2 hz⟩⟩
  have := (key u e).1
  subst this
  exact ⟨by rw [← e]; simp, rfl⟩

theorem refnumber_any (s : ByteArray) (hs : s.size ≤ 1000) (w : World) : Calls Tryd.prog 40 #[.string s] w (NumEnd (NumSays s) w) := by
  by_cases h0 : 0 < s.size
  · by_cases hm : s[0] = 45
    · have hfr : ∀ u : Int, s = ⟨(Lib.itoa u).toArray⟩ → 1 = if u < 0 then 1 else 0 := by
        intro u e
        by_cases hu : u < 0
        · rw [if_pos hu]
        · exact absurd hm (first_digit hu e h0)
      have hneg : ∀ u : Int, s = ⟨(Lib.itoa u).toArray⟩ → u < 0 := fun u e => by
        have := hfr u e
        by_cases hu : u < 0
        · exact hu
        · rw [if_neg hu] at this; omega
      exact num_minus s hs h0 hm w (NumSays s) (fun k n hN hk hb => says_stop hfr hN.lo hk hb)
        (fun n hN => by have := hN.small hN.few; exact says_done hfr (fun u e hn => by have := hneg u e; omega) (by omega) hN)
    · have hfr : ∀ u : Int, s = ⟨(Lib.itoa u).toArray⟩ → 0 = if u < 0 then 1 else 0 := by
        intro u e
        by_cases hu : u < 0
        · exact absurd (minus_first hu e).2 hm
        · rw [if_neg hu]
      have hneg : ∀ u : Int, s = ⟨(Lib.itoa u).toArray⟩ → ¬ u < 0 := fun u e hu => by
        have := hfr u e
        rw [if_pos hu] at this; omega
      exact num_plain s hs h0 hm w (NumSays s) (fun k n hN hk hb => says_stop hfr hN.lo hk hb)
        (fun n hN => by have := hN.small hN.few; exact says_done hfr (fun u e hn => by have := hneg u e; omega) (by omega) hN)
  · have hfr : ∀ u : Int, s = ⟨(Lib.itoa u).toArray⟩ → 0 = if u < 0 then 1 else 0 := by
      intro u e
      by_cases hu : u < 0
      · exact absurd (minus_first hu e).1 h0
      · rw [if_neg hu]
    have hneg : ∀ u : Int, s = ⟨(Lib.itoa u).toArray⟩ → ¬ u < 0 := fun u e hu => by
      have := hfr u e
      rw [if_pos hu] at this; omega
    exact num_empty s hs h0 w (NumSays s) (fun k n hN hk hb => says_stop hfr hN.lo hk hb)
      (fun n hN => by have := hN.small hN.few; exact says_done hfr (fun u e hn => by have := hneg u e; omega) (by omega) hN)
end Go.Proofs.YtchjkjhkmhkjeaaDoor
