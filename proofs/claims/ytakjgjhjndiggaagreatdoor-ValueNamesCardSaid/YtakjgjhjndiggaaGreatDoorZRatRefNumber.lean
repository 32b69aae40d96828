/-
  What the reference's Number hands back. What the reference's Number accepts: exactly the decimals that Decimal writes. How the reference's Parse ends, by what Number says of the parts. The reference's Parse hands back what the package's does.
-/
import Derived.Test.YtakjgjhjndiggaaGreatDoorZRatDecimal
import Derived.Test.YtakjgjhjndiggaaGreatDoorZRatLooseParse
import Derived.Test.YtakjgjhjndiggaaGreatDoorZRatRefAll
namespace Go.Proofs.YtakjgjhjndiggaaGreatDoor
open Go.RowKit
open RM
set_option linter.unusedVariables false
set_option linter.unusedSimpArgs false

/-- The bytes from 'fr' up to k. -/
def part (s : ByteArray) (fr k : Nat) : List UInt8 := (s.data.toList.drop fr).take (k - fr)
/-- Where Number's loop stands. -/
structure NumAt (s : ByteArray) (fr k n : Nat) : Prop where
  lo : fr ≤ k
  hi : k ≤ s.size
  few : k ≤ fr + 10
  val : n = valF 0 (part s fr k)
  dig : ∀ c ∈ part s fr k, isDig c
  lt : n < 10 ^ (k - fr)
theorem NumAt.start (s : ByteArray) (fr : Nat) (h : fr ≤ s.size) : NumAt s fr fr 0 :=
  ⟨Nat.le_refl _, h, by omega, by simp [part, valF], by simp [part], by simp⟩
theorem part_succ {s : ByteArray} {fr k : Nat} (h1 : fr ≤ k) (h2 : k < s.size) : part s fr (k + 1) = part s fr k ++ [s[k]] := by
  have hl : k < s.data.toList.length := h2
  unfold part
  rw [show k + 1 - fr = (k - fr) + 1 by omega, List.take_add_one]
  congr 1
  rw [List.getElem?_drop, show fr + (k - fr) = k by omega, List.getElem?_eq_getElem hl]
  rfl
theorem NumAt.step {s : ByteArray} {fr k n : Nat} (h : NumAt s fr k n) (h2 : k < s.size) (h3 : k ≤ fr + 9) (hc : isDig s[k]) : NumAt s fr (k + 1) (n * 10 + (s[k].toNat - 48)) := by
  refine ⟨by have := h.lo; omega, h2, by omega, ?_, ?_, ?_⟩
  · rw [part_succ h.lo h2, h.val]; simp [valF]
  · rw [part_succ h.lo h2]; intro c hm
    rw [List.mem_append, List.mem_singleton] at hm
    rcases hm with hm | rfl
    · exact h.dig c hm
    · exact hc
  · have := h.lt; have := hc.2; have := h.lo
    rw [show k + 1 - fr = (k - fr) + 1 by omega, Nat.pow_succ]; omega
theorem NumAt.small {s : ByteArray} {fr k n : Nat} (h : NumAt s fr k n) (h3 : k ≤ fr + 10) : n < 10000000000 :=
  Nat.lt_of_lt_of_le h.lt (Nat.pow_le_pow_right (by decide) (show k - fr ≤ 10 by omega))
/-- How Number ends. -/
def NumEnd (Q : Int → Bool → Prop) (w : World) (e : Ending) (w' : World) : Prop := (∃ v b, e = .returned (.tuple #[.int .i64 v, .bool b]) ∧ Q v b) ∧ Below w.heap.size w w'

set_option maxHeartbeats 1000000 in
theorem num_minus (s : ByteArray) (hs : s.size ≤ 10000) (h0 : 0 < s.size) (hm : s[0] = 45) (w : World) (Q : Int → Bool → Prop)
    (stop : ∀ k n, NumAt s 1 k n → (h : k < s.size) → (¬ isDig s[k] ∨ 1 + 9 < k) → Q 0 false)
    (done : ∀ n, NumAt s 1 s.size n → (1 < s.size → Q (-(n : Int)) ((⟨(Lib.itoa (-(n : Int))).toArray⟩ : ByteArray).toList == s.toList)) ∧ (¬ 1 < s.size → Q (-(n : Int)) false)) :
    Calls Tryz.prog 127 #[.string s] w (NumEnd Q w) := by
  have HS := Lib.hid stop
  have HD := Lib.hid done
  clear stop done
  go_enter Tryz.func127, Tryz.ntmps127
  go_wp2_with fail
  go_loopw [5, 6] (fun nv iv wr => ∃ k n : Nat, nv = .int .i64 (n : Int) ∧ iv = .int .i64 (k : Int) ∧ NumAt s 1 k n ∧ wr = w) (fun nv iv _ => s.size - (intOf iv).toNat)
  case atStart => exact ⟨1, 0, by simp, by simp, NumAt.start s 1 (by omega), rfl⟩
  case round =>
    obtain ⟨k, n, rfl, rfl, hN, rfl⟩ := hrel
    have HN := Lib.hid hN
    have n1 := hN.lo
    have n2 := hN.hi
    have n3 := hN.few
    have n4 := hN.small hN.few
    clear hN
    by_cases hk : k < s.size
    · have k1 : (k : Int) < (s.size : Int) := by omega
      have hb := s[k].toNat_lt
      by_cases d1 : (s[k].toNat : Int) < 48
      · go_wp2_with fail
        refine bodyPost_ret (v := .tuple #[.int .i64 0, .bool false]) (by simp [results, Tryz.results127, go_sem]) rfl ?_
        exact ⟨⟨0, false, rfl, HS.out k n HN.out hk (.inl fun h => by have := h.1; omega)⟩, Below.refl _ _⟩
      · by_cases d2 : (57 : Int) < (s[k].toNat : Int)
        · go_wp2_with fail
          refine bodyPost_ret (v := .tuple #[.int .i64 0, .bool false]) (by simp [results, Tryz.results127, go_sem]) rfl ?_
          exact ⟨⟨0, false, rfl, HS.out k n HN.out hk (.inl fun h => by have := h.2; omega)⟩, Below.refl _ _⟩
        · by_cases d3 : (1 + 9 : Int) < (k : Int)
          · have d4 : (10 : Int) < (k : Int) := by omega
            go_wp2_with fail
            refine bodyPost_ret (v := .tuple #[.int .i64 0, .bool false]) (by simp [results, Tryz.results127, go_sem]) rfl ?_
            exact ⟨⟨0, false, rfl, HS.out k n HN.out hk (.inr (by omega))⟩, Below.refl _ _⟩
          · have d4 : ¬ (10 : Int) < (k : Int) := by omega
            go_wp2_with fail
            go_roundw
            case rel => exact ⟨k + 1, n * 10 + (s[k].toNat - 48), by congr 1; omega, by go_num, HN.out.step hk (by omega) ⟨by omega, by omega⟩, by simp⟩
            case measure => simp [intOf]; omega
    · obtain rfl : k = s.size := by omega
      have KD := Lib.hid (fun w => decimal_any (-(n : Int)) (by omega) (by omega) w)
      by_cases hf : 1 < s.size
      · have hf1 : (1 : Int) < (s.size : Int) := by omega
        have hq := (HD.out n HN.out).1 hf
        have HQ := Lib.hid hq
        clear hq
        go_wp2_with fail
        refine (KD.out _).mono ?_
        rintro e w1 ⟨rfl, hb⟩
        have HB := Lib.hid hb
        clear hb
        go_wp2_with fail
        refine bodyPost_ret (v := .tuple #[.int .i64 (-(n : Int)), .bool ((⟨(Lib.itoa (-(n : Int))).toArray⟩ : ByteArray).toList == s.toList)]) (by simp [results, Tryz.results127, go_sem]) rfl ?_
        exact ⟨⟨_, _, rfl, HQ.out⟩, HB.out⟩
      · have hf1 : ¬ (1 : Int) < (s.size : Int) := by omega
        have HQ := Lib.hid ((HD.out n HN.out).2 hf)
        go_wp2_with fail
        refine bodyPost_ret (v := .tuple #[.int .i64 (-(n : Int)), .bool false]) (by simp [results, Tryz.results127, go_sem]) rfl ?_
        exact ⟨⟨_, _, rfl, HQ.out⟩, Below.refl _ _⟩

set_option maxHeartbeats 1000000 in
theorem num_plain (s : ByteArray) (hs : s.size ≤ 10000) (h0 : 0 < s.size) (hm : ¬ s[0] = 45) (w : World) (Q : Int → Bool → Prop)
    (stop : ∀ k n, NumAt s 0 k n → (h : k < s.size) → (¬ isDig s[k] ∨ 0 + 9 < k) → Q 0 false)
    (done : ∀ n, NumAt s 0 s.size n → (0 < s.size → Q (n : Int) ((⟨(Lib.itoa (n : Int)).toArray⟩ : ByteArray).toList == s.toList)) ∧ (¬ 0 < s.size → Q (n : Int) false)) :
    Calls Tryz.prog 127 #[.string s] w (NumEnd Q w) := by
  have HS := Lib.hid stop
  have HD := Lib.hid done
  clear stop done
  have hm1 : ((s[0].toNat : Int) == 45) = false := by rw [beq_eq_false_iff_ne]; intro h; exact hm (UInt8.toNat_inj.1 (by have : (45 : UInt8).toNat = 45 := rfl; omega))
  have hm2 : (s[0] == 45) = false := beq_eq_false_iff_ne.2 hm
  go_enter Tryz.func127, Tryz.ntmps127
  go_wp2_with fail
  go_loopw [5, 6] (fun nv iv wr => ∃ k n : Nat, nv = .int .i64 (n : Int) ∧ iv = .int .i64 (k : Int) ∧ NumAt s 0 k n ∧ wr = w) (fun nv iv _ => s.size - (intOf iv).toNat)
  case atStart => exact ⟨0, 0, by simp, by simp, NumAt.start s 0 (by omega), rfl⟩
  case round =>
    obtain ⟨k, n, rfl, rfl, hN, rfl⟩ := hrel
    have HN := Lib.hid hN
    have n1 := hN.lo
    have n2 := hN.hi
    have n3 := hN.few
    have n4 := hN.small hN.few
    clear hN
    by_cases hk : k < s.size
    · have k1 : (k : Int) < (s.size : Int) := by omega
      have hb := s[k].toNat_lt
      by_cases d1 : (s[k].toNat : Int) < 48
      · go_wp2_with fail
        refine bodyPost_ret (v := .tuple #[.int .i64 0, .bool false]) (by simp [results, Tryz.results127, go_sem]) rfl ?_
        exact ⟨⟨0, false, rfl, HS.out k n HN.out hk (.inl fun h => by have := h.1; omega)⟩, Below.refl _ _⟩
      · by_cases d2 : (57 : Int) < (s[k].toNat : Int)
        · go_wp2_with fail
          refine bodyPost_ret (v := .tuple #[.int .i64 0, .bool false]) (by simp [results, Tryz.results127, go_sem]) rfl ?_
          exact ⟨⟨0, false, rfl, HS.out k n HN.out hk (.inl fun h => by have := h.2; omega)⟩, Below.refl _ _⟩
        · by_cases d3 : (0 + 9 : Int) < (k : Int)
          · have d4 : (9 : Int) < (k : Int) := by omega
            go_wp2_with fail
            refine bodyPost_ret (v := .tuple #[.int .i64 0, .bool false]) (by simp [results, Tryz.results127, go_sem]) rfl ?_
            exact ⟨⟨0, false, rfl, HS.out k n HN.out hk (.inr (by omega))⟩, Below.refl _ _⟩
          · have d4 : ¬ (9 : Int) < (k : Int) := by omega
            go_wp2_with fail
            go_roundw
            case rel => exact ⟨k + 1, n * 10 + (s[k].toNat - 48), by congr 1; omega, by go_num, HN.out.step hk (by omega) ⟨by omega, by omega⟩, by simp⟩
            case measure => simp [intOf]; omega
    · obtain rfl : k = s.size := by omega
      have KD := Lib.hid (fun w => decimal_any (n : Int) (by omega) (by omega) w)
      by_cases hf : 0 < s.size
      · have hf1 : (0 : Int) < (s.size : Int) := by omega
        have hq := (HD.out n HN.out).1 hf
        have HQ := Lib.hid hq
        clear hq
        go_wp2_with fail
        refine (KD.out _).mono ?_
        rintro e w1 ⟨rfl, hb⟩
        have HB := Lib.hid hb
        clear hb
        go_wp2_with fail
        refine bodyPost_ret (v := .tuple #[.int .i64 (n : Int), .bool ((⟨(Lib.itoa (n : Int)).toArray⟩ : ByteArray).toList == s.toList)]) (by simp [results, Tryz.results127, go_sem]) rfl ?_
        exact ⟨⟨_, _, rfl, HQ.out⟩, HB.out⟩
      · exact absurd h0 hf

set_option maxHeartbeats 1000000 in
theorem num_empty (s : ByteArray) (hs : s.size ≤ 10000) (h0 : ¬ 0 < s.size) (w : World) (Q : Int → Bool → Prop)
    (stop : ∀ k n, NumAt s 0 k n → (h : k < s.size) → (¬ isDig s[k] ∨ 0 + 9 < k) → Q 0 false)
    (done : ∀ n, NumAt s 0 s.size n → (0 < s.size → Q (n : Int) ((⟨(Lib.itoa (n : Int)).toArray⟩ : ByteArray).toList == s.toList)) ∧ (¬ 0 < s.size → Q (n : Int) false)) :
    Calls Tryz.prog 127 #[.string s] w (NumEnd Q w) := by
  have HS := Lib.hid stop
  have HD := Lib.hid done
  clear stop done
  go_enter Tryz.func127, Tryz.ntmps127
  go_wp2_with fail
  go_loopw [5, 6] (fun nv iv wr => ∃ k n : Nat, nv = .int .i64 (n : Int) ∧ iv = .int .i64 (k : Int) ∧ NumAt s 0 k n ∧ wr = w) (fun nv iv _ => s.size - (intOf iv).toNat)
  case atStart => exact ⟨0, 0, by simp, by simp, NumAt.start s 0 (by omega), rfl⟩
  case round =>
    obtain ⟨k, n, rfl, rfl, hN, rfl⟩ := hrel
    have HN := Lib.hid hN
    have n1 := hN.lo
    have n2 := hN.hi
    have n3 := hN.few
    have n4 := hN.small hN.few
    clear hN
    by_cases hk : k < s.size
    · have k1 : (k : Int) < (s.size : Int) := by omega
      have hb := s[k].toNat_lt
      by_cases d1 : (s[k].toNat : Int) < 48
      · go_wp2_with fail
        refine bodyPost_ret (v := .tuple #[.int .i64 0, .bool false]) (by simp [results, Tryz.results127, go_sem]) rfl ?_
        exact ⟨⟨0, false, rfl, HS.out k n HN.out hk (.inl fun h => by have := h.1; omega)⟩, Below.refl _ _⟩
      · by_cases d2 : (57 : Int) < (s[k].toNat : Int)
        · go_wp2_with fail
          refine bodyPost_ret (v := .tuple #[.int .i64 0, .bool false]) (by simp [results, Tryz.results127, go_sem]) rfl ?_
          exact ⟨⟨0, false, rfl, HS.out k n HN.out hk (.inl fun h => by have := h.2; omega)⟩, Below.refl _ _⟩
        · by_cases d3 : (0 + 9 : Int) < (k : Int)
          · have d4 : (9 : Int) < (k : Int) := by omega
            go_wp2_with fail
            refine bodyPost_ret (v := .tuple #[.int .i64 0, .bool false]) (by simp [results, Tryz.results127, go_sem]) rfl ?_
            exact ⟨⟨0, false, rfl, HS.out k n HN.out hk (.inr (by omega))⟩, Below.refl _ _⟩
          · have d4 : ¬ (9 : Int) < (k : Int) := by omega
            go_wp2_with fail
            go_roundw
            case rel => exact ⟨k + 1, n * 10 + (s[k].toNat - 48), by congr 1; omega, by go_num, HN.out.step hk (by omega) ⟨by omega, by omega⟩, by simp⟩
            case measure => simp [intOf]; omega
    · obtain rfl : k = s.size := by omega
      have KD := Lib.hid (fun w => decimal_any (n : Int) (by omega) (by omega) w)
      by_cases hf : 0 < s.size
      · exact absurd hf h0
      · have hf1 : ¬ (0 : Int) < (s.size : Int) := by omega
        have HQ := Lib.hid ((HD.out n HN.out).2 hf)
        go_wp2_with fail
        refine bodyPost_ret (v := .tuple #[.int .i64 (n : Int), .bool false]) (by simp [results, Tryz.results127, go_sem]) rfl ?_
        exact ⟨⟨_, _, rfl, HQ.out⟩, Below.refl _ _⟩
end Go.Proofs.YtakjgjhjndiggaaGreatDoor
namespace Go.Proofs.YtakjgjhjndiggaaGreatDoor
open Go.RowKit
open RM
set_option linter.unusedVariables false
set_option linter.unusedSimpArgs false

/-- What Number says of a string. -/
def NumSays (s : ByteArray) (v : Int) (b : Bool) : Prop :=
  (b = true → s = ⟨(Lib.itoa v).toArray⟩ ∧ -10000000000 ≤ v ∧ v ≤ 10000000000) ∧
  (∀ u : Int, -1000000000 ≤ u → u ≤ 1000000000 → s = ⟨(Lib.itoa u).toArray⟩ → b = true ∧ v = u)
theorem digits_few {u : Nat} (h : u ≤ 1000000000) : (Lib.decDigits u).length ≤ 10 := by
  rw [Lib.decDigits_length]
  refine Nat.not_lt.1 fun hl => ?_
  have h1 : ∀ k u, k < Lib.nDigits u → 10 ^ k ≤ u ∨ k = 0 := by
    intro k
    induction k with
    | zero => intro u _; exact .inr rfl
    | succ k ih =>
      intro u hk
      by_cases hu : u < 10
      · rw [Lib.nDigits_small hu] at hk; omega
      · rw [Lib.nDigits_big hu] at hk
        rcases ih (u / 10) (by omega) with h | h
        · left; rw [Nat.pow_succ]; omega
        · left; subst h; omega
  rcases h1 10 u hl with h | h <;> omega
theorem dec_ne (u : Nat) : Lib.decDigits u ≠ [] := fun e => by
  have := congrArg List.length e
  rw [Lib.decDigits_length] at this
  have := Lib.nDigits_pos u
  simp at *; omega
theorem first_digit {s : ByteArray} {u : Int} (hu : ¬ u < 0) (e : s = ⟨(Lib.itoa u).toArray⟩) (h0 : 0 < s.size) : s[0] ≠ 45 := by
  subst e
  have e2 : Lib.itoa u = Lib.decDigits u.toNat := by unfold Lib.itoa; rw [if_neg hu]
  intro h
  have hm : (⟨(Lib.itoa u).toArray⟩ : ByteArray)[0] ∈ Lib.itoa u := by
    show (Lib.itoa u).toArray[0] ∈ _
    simp
  rw [h, e2] at hm
  have := (dec_digits _ _ hm).1
  simp at this
theorem minus_first {s : ByteArray} {u : Int} (hu : u < 0) (e : s = ⟨(Lib.itoa u).toArray⟩) : ∃ h0 : 0 < s.size, s[0] = 45 := by
  subst e
  have e2 : Lib.itoa u = 45 :: Lib.decDigits u.natAbs := by unfold Lib.itoa; rw [if_pos hu]
  have hl : 0 < (Lib.itoa u).toArray.size := by rw [e2]; simp
  refine ⟨hl, ?_⟩
  show (Lib.itoa u).toArray[0]'hl = 45
  simp [e2]
theorem size_list (l : List UInt8) : (⟨l.toArray⟩ : ByteArray).size = l.length := by simp [ByteArray.size]
/-- A decimal's digits behind its minus. -/
theorem behind {s : ByteArray} {u : Int} {fr : Nat} (hfr : fr = if u < 0 then 1 else 0) (e : s = ⟨(Lib.itoa u).toArray⟩) : s.data.toList.drop fr = Lib.decDigits u.natAbs ∧ s.size = fr + (Lib.decDigits u.natAbs).length := by
  subst e
  rw [size_list]
  show (Lib.itoa u).drop fr = _ ∧ _
  by_cases hu : u < 0
  · have e2 : Lib.itoa u = 45 :: Lib.decDigits u.natAbs := by unfold Lib.itoa; rw [if_pos hu]
    rw [if_pos hu] at hfr; subst hfr
    rw [e2]; exact ⟨rfl, by simp; omega⟩
  · have e2 : Lib.itoa u = Lib.decDigits u.natAbs := by unfold Lib.itoa; rw [if_neg hu, show u.toNat = u.natAbs by omega]
    rw [if_neg hu] at hfr; subst hfr
    rw [e2]; exact ⟨rfl, by simp⟩
theorem says_stop {s : ByteArray} {fr k : Nat} (hfr : ∀ u : Int, s = ⟨(Lib.itoa u).toArray⟩ → fr = if u < 0 then 1 else 0) (hlo : fr ≤ k) (hk : k < s.size) (hb : ¬ isDig s[k] ∨ fr + 9 < k) : NumSays s 0 false := by
  refine ⟨fun h => by simp at h, fun u h1 h2 e => ?_⟩
  obtain ⟨e1, e2⟩ := behind (hfr u e) e
  have hl := digits_few (u := u.natAbs) (by omega)
  rcases hb with hb | hb
  · refine absurd (dec_digits u.natAbs s[k] ?_) hb
    rw [← e1]
    have hk' : k < s.data.toList.length := hk
    have : s[k] = (s.data.toList.drop fr)[k - fr]'(by rw [List.length_drop]; omega) := by
      rw [List.getElem_drop]; simp only [show fr + (k - fr) = k by omega]; rfl
    rw [this]; exact List.getElem_mem _
  · omega
theorem says_done {s : ByteArray} {fr n : Nat} {v : Int} (hfr : ∀ u : Int, s = ⟨(Lib.itoa u).toArray⟩ → fr = if u < 0 then 1 else 0) (hv : ∀ u : Int, s = ⟨(Lib.itoa u).toArray⟩ → n = u.natAbs → v = u) (hb : -10000000000 ≤ v ∧ v ≤ 10000000000) (h : NumAt s fr s.size n) :
    (fr < s.size → NumSays s v ((⟨(Lib.itoa v).toArray⟩ : ByteArray).toList == s.toList)) ∧ (¬ fr < s.size → NumSays s v false) := by
  have key : ∀ u : Int, s = ⟨(Lib.itoa u).toArray⟩ → v = u ∧ fr < s.size := by
    intro u e
    obtain ⟨e1, e2⟩ := behind (hfr u e) e
    have hp : part s fr s.size = Lib.decDigits u.natAbs := by
      unfold part; rw [e1, List.take_of_length_le (by omega)]
    have hn := h.val
    rw [hp, valF_dec] at hn
    have : 0 < (Lib.decDigits u.natAbs).length := List.length_pos_iff.2 (dec_ne _)
    exact ⟨hv u e hn, by omega⟩
  refine ⟨fun _ => ⟨fun hh => ⟨(bytes_of_list (by simpa using hh)).symm, hb⟩, fun u _ _ e => ?_⟩, fun hz => ⟨fun h => by simp at h, fun u _ _ e => absurd (key u e).2 hz⟩⟩
  have := (key u e).1
  subst this
  exact ⟨by rw [← e]; simp, rfl⟩

theorem refnumber_any (s : ByteArray) (hs : s.size ≤ 10000) (w : World) : Calls Tryz.prog 127 #[.string s] w (NumEnd (NumSays s) w) := by
  by_cases h0 : 0 < s.size
  · by_cases hm : s[0] = 45
    · have hfr : ∀ u : Int, s = ⟨(Lib.itoa u).toArray⟩ → 1 = if u < 0 then 1 else 0 := by
        intro u e
        by_cases hu : u < 0
        · rw [if_pos hu]
        · exact absurd hm (first_digit hu e h0)
      have hneg : ∀ u : Int, s = ⟨(Lib.itoa u).toArray⟩ → u < 0 := fun u e => by
        have := hfr u e
        by_cases hu : u < 0
        · exact hu
        · rw [if_neg hu] at this; omega
      exact num_minus s hs h0 hm w (NumSays s) (fun k n hN hk hb => says_stop hfr hN.lo hk hb)
        (fun n hN => by have := hN.small hN.few; exact says_done hfr (fun u e hn => by have := hneg u e; omega) (by omega) hN)
    · have hfr : ∀ u : Int, s = ⟨(Lib.itoa u).toArray⟩ → 0 = if u < 0 then 1 else 0 := by
        intro u e
        by_cases hu : u < 0
        · exact absurd (minus_first hu e).2 hm
        · rw [if_neg hu]
      have hneg : ∀ u : Int, s = ⟨(Lib.itoa u).toArray⟩ → ¬ u < 0 := fun u e hu => by
        have := hfr u e
        rw [if_pos hu] at this; omega
      exact num_plain s hs h0 hm w (NumSays s) (fun k n hN hk hb => says_stop hfr hN.lo hk hb)
        (fun n hN => by have := hN.small hN.few; exact says_done hfr (fun u e hn => by have := hneg u e; omega) (by omega) hN)
  · have hfr : ∀ u : Int, s = ⟨(Lib.itoa u).toArray⟩ → 0 = if u < 0 then 1 else 0 := by
      intro u e
      by_cases hu : u < 0
      · exact absurd (minus_first hu e).1 h0
      · rw [if_neg hu]
    have hneg : ∀ u : Int, s = ⟨(Lib.itoa u).toArray⟩ → ¬ u < 0 := fun u e hu => by
      have := hfr u e
      rw [if_pos hu] at this; omega
    exact num_empty s hs h0 w (NumSays s) (fun k n hN hk hb => says_stop hfr hN.lo hk hb)
      (fun n hN => by have := hN.small hN.few; exact says_done hfr (fun u e hn => by have := hneg u e; omega) (by omega) hN)
end Go.Proofs.YtakjgjhjndiggaaGreatDoor
namespace Go.Proofs.YtakjgjhjndiggaaGreatDoor
open Go.RowKit
open RM
set_option linter.unusedVariables false
set_option linter.unusedSimpArgs false

def ParEnd (P : Int → Int → Int → Prop) (w : World) (e : Ending) (w' : World) : Prop := (∃ x y f, e = .returned (.tuple #[.agg #[.int .i64 x, .int .i64 y], .int .i64 f]) ∧ P x y f) ∧ Below w.heap.size w w'
def NoSlash (s : ByteArray) (k : Nat) : Prop := ∀ j (h : j < k) (h2 : j < s.size), s[j] ≠ 47
/-- What is asked of the ways through Parse, where a slash stands at k. -/
def Cutted (s : ByteArray) (P : Int → Int → Int → Prop) : Prop := ∀ k (h : k < s.size), s[k] = 47 → NoSlash s k → ∀ v b, NumSays (s.extract 0 k) v b →
  (b = false → P 0 0 12) ∧ (b = true → ∀ u c, NumSays (s.extract (k + 1) s.size) u c → (c = false → P 0 0 12) ∧ (c = true → (u = 1 → P 0 0 12) ∧ (u ≠ 1 → chk v u ≠ 0 → P 0 0 12) ∧ (u ≠ 1 → chk v u = 0 → P v u 0)))
def Whole (s : ByteArray) (P : Int → Int → Int → Prop) : Prop := NoSlash s s.size → ∀ v b, NumSays s v b → (b = false → P 0 0 12) ∧ (b = true → (chk v 1 ≠ 0 → P 0 0 12) ∧ (chk v 1 = 0 → P v 1 0))
theorem den_setCell {w : World} {b : Nat} {x y : Value} {t : TypeId} (h : w.heap[b]? = some (.cells #[x, y] t (0, 0))) (v : Value) :
    (w.setCell ⟨b, 1, none⟩ v).heap[b]? = some (.cells #[x, v] t (0, 0)) := by
  simp only [World.setCell, Array.getElem?_modify, if_true, h]
  rfl
theorem extract_small {s : ByteArray} (hs : s.size ≤ 10000) (i j : Nat) : (s.extract i j).size ≤ 10000 := by
  simp [ByteArray.size_extract]; omega

set_option maxHeartbeats 2000000 in
theorem refparse_walk (s : ByteArray) (hs : s.size ≤ 10000) (w : World) (P : Int → Int → Int → Prop) (hcut : Cutted s P) (hall : Whole s P) :
    Calls Tryz.prog 109 #[.string s] w (ParEnd P w) := by
  have HA := Lib.hid hcut
  have HB := Lib.hid hall
  have KN := Lib.hid (fun (a : ByteArray) (ha : a.size ≤ 10000) w => refnumber_any a ha w)
  have HS := Lib.hid hs
  clear hcut hall
  go_enter Tryz.func109, Tryz.ntmps109
  go_wp2_with fail
  go_loopw [4] (fun av wr => ∃ k : Nat, av = .int .i64 (k : Int) ∧ k ≤ s.size ∧ NoSlash s k ∧ wr = w.alloc (.cells #[.int .i64 0, .int .i64 0] 25)) (fun av _ => s.size - (intOf av).toNat)
  case atStart => exact ⟨0, by simp, Nat.zero_le _, fun j h => absurd h (by omega), rfl⟩
  case round =>
    obtain ⟨k, rfl, hk, hn, rfl⟩ := hrel
    have HN := Lib.hid hn
    clear hn
    have bw : Below w.heap.size w (w.alloc (.cells #[.int .i64 0, .int .i64 0] 25)) := (Below.refl _ _).alloc (Nat.le_refl _) _
    have BW := Lib.hid bw
    clear bw
    by_cases hlt : k < s.size
    · have k1 : (k : Int) < (s.size : Int) := by omega
      by_cases hc : s[k] = 47
      · have hm : (s[k].toNat : Int) = 47 := by rw [hc]; rfl
        have k2 : (k : Int) + 1 ≤ (s.size : Int) := by omega
        have HK := Lib.hid (HA.out k hlt hc HN.out)
        clear HA HB
        go_wp2_with fail
        refine (KN.out _ (extract_small HS.out _ _) _).mono ?_
        rintro e w1 ⟨⟨v1, b1, rfl, hN1⟩, hb⟩
        have S1 := Lib.hid hN1
        have R1 := Lib.hid (below_new hb (heap_alloc_old (heap_alloc_new w (.cells #[.int .i64 0, .int .i64 0] 25)) _))
        have a0 : ((w.alloc (.cells #[.int .i64 0, .int .i64 0] 25)).alloc (.cells #[.int .i64 0, .int .i64 1] 25)).heap[w.heap.size + 1]? = some (.cells #[.int .i64 0, .int .i64 1] 25 (0, 0)) := by have := heap_alloc_new (w.alloc (.cells #[.int .i64 0, .int .i64 0] 25)) (.cells #[.int .i64 0, .int .i64 1] 25); simpa using this
        have A1 := Lib.hid (below_new hb a0)
        have b0 : Below w.heap.size w ((w.alloc (.cells #[.int .i64 0, .int .i64 0] 25)).alloc (.cells #[.int .i64 0, .int .i64 1] 25)) := BW.out.alloc BW.out.size _
        have B1 := Lib.hid (b0.trans (hb.mono b0.size))
        clear hb hN1 a0 b0
        have l1 := lt_of_block R1.out
        have p1 := cell_two0 R1.out
        have q1 := cell_two1 R1.out
        have f1 := free_two0 R1.out
        have g1 := free_two1 R1.out
        have l2 := lt_of_block A1.out
        have p2 := cell_two0 A1.out
        have q2 := cell_two1 A1.out
        have f2 := free_two0 A1.out
        have g2 := free_two1 A1.out
        cases b1
        case false =>
          go_wp2_with fail
          refine bodyPost_ret (v := .tuple #[.agg #[.int .i64 0, .int .i64 0], .int .i64 12]) (by simp [results, Tryz.results109, go_sem, p1, q1, l1]) rfl ?_
          refine ⟨⟨_, _, _, rfl, (HK.out v1 false S1.out).1 rfl⟩, ?_⟩
          repeat (with_reducible (first | exact B1.out | refine Below.setCell ?_ (by first | exact Nat.le_refl _ | exact Nat.le_succ _ | (simp; omega)) _ | refine Below.alloc ?_ (by first | exact B1.out.size | (have := B1.out.size; simp; omega)) _))
        case true =>
          have HT := Lib.hid ((HK.out v1 true S1.out).2 rfl)
          clear HK
          go_wp2_with fail
          refine (KN.out _ (extract_small HS.out _ _) _).mono ?_
          rintro e w2 ⟨⟨v2, b2, rfl, hN2⟩, hb⟩
          have S2 := Lib.hid hN2
          have R2 := Lib.hid (below_new hb (heap_set_other R1.out (by show w.heap.size ≠ w.heap.size + 1; omega) _))
          have A2 := Lib.hid (below_new hb (neg_setCell A1.out (.int .i64 v1)))
          have b1 := (B1.out.setCell (p := ⟨w.heap.size + 1, 0, none⟩) (Nat.le_succ _) (.int .i64 v1))
          have B2 := Lib.hid (b1.trans (hb.mono b1.size))
          clear hb hN2 b1 l1 p1 q1 f1 g1 l2 p2 q2 f2 g2
          have l3 := lt_of_block R2.out
          have p3 := cell_two0 R2.out
          have q3 := cell_two1 R2.out
          have f3 := free_two0 R2.out
          have g3 := free_two1 R2.out
          have l4 := lt_of_block A2.out
          have p4 := cell_two0 A2.out
          have q4 := cell_two1 A2.out
          have f4 := free_two0 A2.out
          have g4 := free_two1 A2.out
          cases b2
          case false =>
            go_wp2_with fail
            refine bodyPost_ret (v := .tuple #[.agg #[.int .i64 0, .int .i64 0], .int .i64 12]) (by simp [results, Tryz.results109, go_sem, p3, q3, l3]) rfl ?_
            refine ⟨⟨_, _, _, rfl, (HT.out v2 false S2.out).1 rfl⟩, ?_⟩
            repeat (with_reducible (first | exact B2.out | refine Below.setCell ?_ (by first | exact Nat.le_refl _ | exact Nat.le_succ _ | (simp; omega)) _ | refine Below.alloc ?_ (by first | exact B2.out.size | (have := B2.out.size; simp; omega)) _))
          case true =>
            have HU := Lib.hid ((HT.out v2 true S2.out).2 rfl)
            by_cases hu : v2 = 1
            · have hu2 : (v2 == 1) = true := by rw [hu]; rfl
              have HV := Lib.hid hu
              clear hu
              go_wp2_with fail
              refine bodyPost_ret (v := .tuple #[.agg #[.int .i64 0, .int .i64 0], .int .i64 12]) (by simp [results, Tryz.results109, go_sem, p3, q3, l3]) rfl ?_
              refine ⟨⟨_, _, _, rfl, HU.out.1 HV.out⟩, ?_⟩
              repeat (with_reducible (first | exact B2.out | refine Below.setCell ?_ (by first | exact Nat.le_refl _ | exact Nat.le_succ _ | (simp; omega)) _ | refine Below.alloc ?_ (by first | exact B2.out.size | (have := B2.out.size; simp; omega)) _))
            · have hu2 : (v2 == 1) = false := beq_eq_false_iff_ne.2 hu
              have HV := Lib.hid hu
              clear hu
              cases hch : (chk v1 v2 == 0)
              case false =>
                have hch2 : (chk v1 v2 != 0) = true := by rw [bne, hch]; rfl
                have HC := Lib.hid hch
                go_wp2_with fail
                refine (refcheck_any _ _ _).mono ?_
                rintro e wz ⟨rfl, hb⟩
                have Rz := Lib.hid (below_new hb (heap_set_other R2.out (by show w.heap.size ≠ w.heap.size + 1; omega) _))
                have Az := Lib.hid (below_new hb (den_setCell A2.out (.int .i64 v2)))
                have bz := (B2.out.setCell (p := ⟨w.heap.size + 1, 1, none⟩) (Nat.le_succ _) (.int .i64 v2))
                have Bz := Lib.hid (bz.trans (hb.mono bz.size))
                clear hb bz
                have ly := lt_of_block Rz.out
                have py := cell_two0 Rz.out
                have qy := cell_two1 Rz.out
                have fy := free_two0 Rz.out
                have gy := free_two1 Rz.out
                have lz := lt_of_block Az.out
                have pz := cell_two0 Az.out
                have qz := cell_two1 Az.out
                have fz := free_two0 Az.out
                have gz := free_two1 Az.out
                go_wp2_with fail
                refine bodyPost_ret (v := .tuple #[.agg #[.int .i64 0, .int .i64 0], .int .i64 12]) (by simp [results, Tryz.results109, go_sem, py, qy, ly]) rfl ?_
                refine ⟨⟨_, _, _, rfl, HU.out.2.1 HV.out (by have h := HC.out; rw [beq_eq_false_iff_ne] at h; exact h)⟩, ?_⟩
                repeat (with_reducible (first | exact Bz.out | refine Below.setCell ?_ (by first | exact Nat.le_refl _ | exact Nat.le_succ _ | (simp; omega)) _ | refine Below.alloc ?_ (by first | exact Bz.out.size | (have := Bz.out.size; simp; omega)) _))
              case true =>
                have hch2 : (chk v1 v2 != 0) = false := by rw [bne, hch]; rfl
                have HC := Lib.hid hch
                go_wp2_with fail
                refine (refcheck_any _ _ _).mono ?_
                rintro e wz ⟨rfl, hb⟩
                have Rz := Lib.hid (below_new hb (heap_set_other R2.out (by show w.heap.size ≠ w.heap.size + 1; omega) _))
                have Az := Lib.hid (below_new hb (den_setCell A2.out (.int .i64 v2)))
                have bz := (B2.out.setCell (p := ⟨w.heap.size + 1, 1, none⟩) (Nat.le_succ _) (.int .i64 v2))
                have Bz := Lib.hid (bz.trans (hb.mono bz.size))
                clear hb bz
                have ly := lt_of_block Rz.out
                have py := cell_two0 Rz.out
                have qy := cell_two1 Rz.out
                have fy := free_two0 Rz.out
                have gy := free_two1 Rz.out
                have lz := lt_of_block Az.out
                have pz := cell_two0 Az.out
                have qz := cell_two1 Az.out
                have fz := free_two0 Az.out
                have gz := free_two1 Az.out
                go_wp2_with fail
                refine bodyPost_ret (v := .tuple #[.agg #[.int .i64 v1, .int .i64 v2], .int .i64 0]) (by simp [results, Tryz.results109, go_sem, py, qy, pz, qz, ly, lz]) rfl ?_
                refine ⟨⟨_, _, _, rfl, HU.out.2.2 HV.out (by have h := HC.out; rw [beq_iff_eq] at h; exact h)⟩, ?_⟩
                repeat (with_reducible (first | exact Bz.out | refine Below.setCell ?_ (by first | exact Nat.le_refl _ | exact Nat.le_succ _ | (simp; omega)) _ | refine Below.alloc ?_ (by first | exact Bz.out.size | (have := Bz.out.size; simp; omega)) _))
      · have hm : ((s[k].toNat : Int) == 47) = false := by
          rw [beq_eq_false_iff_ne]; intro h; exact hc (UInt8.toNat_inj.1 (by have : (47 : UInt8).toNat = 47 := rfl; omega))
        have hm2 : (s[k] == 47) = false := beq_eq_false_iff_ne.2 hc
        have hm3 : ((s[k].toNat : Int) != 47) = true := by rw [bne, hm]; rfl
        go_wp2_with fail
        go_roundw
        case rel =>
          refine ⟨k + 1, by go_num, by omega, fun j h h2 => ?_, by simp⟩
          rcases Nat.lt_or_ge j k with h3 | h3
          · exact HN.out j h3 h2
          · obtain rfl : j = k := by omega
            exact hc
        case measure => simp [intOf]; omega
    · obtain rfl : k = s.size := by omega
      have HK := Lib.hid (HB.out HN.out)
      clear HA HB
      go_wp2_with fail
      refine (KN.out _ HS.out _).mono ?_
      rintro e w1 ⟨⟨v1, b1, rfl, hN1⟩, hb⟩
      have S1 := Lib.hid hN1
      have R1 := Lib.hid (below_new hb (heap_alloc_old (heap_alloc_new w (.cells #[.int .i64 0, .int .i64 0] 25)) _))
      have a0 : ((w.alloc (.cells #[.int .i64 0, .int .i64 0] 25)).alloc (.cells #[.int .i64 0, .int .i64 1] 25)).heap[w.heap.size + 1]? = some (.cells #[.int .i64 0, .int .i64 1] 25 (0, 0)) := by have := heap_alloc_new (w.alloc (.cells #[.int .i64 0, .int .i64 0] 25)) (.cells #[.int .i64 0, .int .i64 1] 25); simpa using this
      have A1 := Lib.hid (below_new hb a0)
      have b0 : Below w.heap.size w ((w.alloc (.cells #[.int .i64 0, .int .i64 0] 25)).alloc (.cells #[.int .i64 0, .int .i64 1] 25)) := BW.out.alloc BW.out.size _
      have B1 := Lib.hid (b0.trans (hb.mono b0.size))
      clear hb hN1 a0 b0
      have l1 := lt_of_block R1.out
      have p1 := cell_two0 R1.out
      have q1 := cell_two1 R1.out
      have f1 := free_two0 R1.out
      have g1 := free_two1 R1.out
      have l2 := lt_of_block A1.out
      have p2 := cell_two0 A1.out
      have q2 := cell_two1 A1.out
      have f2 := free_two0 A1.out
      have g2 := free_two1 A1.out
      cases b1
      case false =>
        go_wp2_with fail
        refine bodyPost_ret (v := .tuple #[.agg #[.int .i64 0, .int .i64 0], .int .i64 12]) (by simp [results, Tryz.results109, go_sem, p1, q1, l1]) rfl ?_
        refine ⟨⟨_, _, _, rfl, (HK.out v1 false S1.out).1 rfl⟩, ?_⟩
        repeat (with_reducible (first | exact B1.out | refine Below.setCell ?_ (by first | exact Nat.le_refl _ | exact Nat.le_succ _ | (simp; omega)) _ | refine Below.alloc ?_ (by first | exact B1.out.size | (have := B1.out.size; simp; omega)) _))
      case true =>
        have HT := Lib.hid ((HK.out v1 true S1.out).2 rfl)
        clear HK
        cases hch : (chk v1 1 == 0)
        case false =>
          have hch2 : (chk v1 1 != 0) = true := by rw [bne, hch]; rfl
          have HC := Lib.hid hch
          go_wp2_with fail
          refine (refcheck_any _ _ _).mono ?_
          rintro e wz ⟨rfl, hb⟩
          have Rz := Lib.hid (below_new hb (heap_set_other R1.out (by show w.heap.size ≠ w.heap.size + 1; omega) _))
          have Az := Lib.hid (below_new hb (neg_setCell A1.out (.int .i64 v1)))
          have bz := (B1.out.setCell (p := ⟨w.heap.size + 1, 0, none⟩) (Nat.le_succ _) (.int .i64 v1))
          have Bz := Lib.hid (bz.trans (hb.mono bz.size))
          clear hb bz
          have ly := lt_of_block Rz.out
          have py := cell_two0 Rz.out
          have qy := cell_two1 Rz.out
          have fy := free_two0 Rz.out
          have gy := free_two1 Rz.out
          have lz := lt_of_block Az.out
          have pz := cell_two0 Az.out
          have qz := cell_two1 Az.out
          have fz := free_two0 Az.out
          have gz := free_two1 Az.out
          go_wp2_with fail
          refine bodyPost_ret (v := .tuple #[.agg #[.int .i64 0, .int .i64 0], .int .i64 12]) (by simp [results, Tryz.results109, go_sem, py, qy, ly]) rfl ?_
          refine ⟨⟨_, _, _, rfl, HT.out.1 (by have h := HC.out; rw [beq_eq_false_iff_ne] at h; exact h)⟩, ?_⟩
          repeat (with_reducible (first | exact Bz.out | refine Below.setCell ?_ (by first | exact Nat.le_refl _ | exact Nat.le_succ _ | (simp; omega)) _ | refine Below.alloc ?_ (by first | exact Bz.out.size | (have := Bz.out.size; simp; omega)) _))
        case true =>
          have hch2 : (chk v1 1 != 0) = false := by rw [bne, hch]; rfl
          have HC := Lib.hid hch
          go_wp2_with fail
          refine (refcheck_any _ _ _).mono ?_
          rintro e wz ⟨rfl, hb⟩
          have Rz := Lib.hid (below_new hb (heap_set_other R1.out (by show w.heap.size ≠ w.heap.size + 1; omega) _))
          have Az := Lib.hid (below_new hb (neg_setCell A1.out (.int .i64 v1)))
          have bz := (B1.out.setCell (p := ⟨w.heap.size + 1, 0, none⟩) (Nat.le_succ _) (.int .i64 v1))
          have Bz := Lib.hid (bz.trans (hb.mono bz.size))
          clear hb bz
          have ly := lt_of_block Rz.out
          have py := cell_two0 Rz.out
          have qy := cell_two1 Rz.out
          have fy := free_two0 Rz.out
          have gy := free_two1 Rz.out
          have lz := lt_of_block Az.out
          have pz := cell_two0 Az.out
          have qz := cell_two1 Az.out
          have fz := free_two0 Az.out
          have gz := free_two1 Az.out
          go_wp2_with fail
          refine bodyPost_ret (v := .tuple #[.agg #[.int .i64 v1, .int .i64 1], .int .i64 0]) (by simp [results, Tryz.results109, go_sem, py, qy, pz, qz, ly, lz]) rfl ?_
          refine ⟨⟨_, _, _, rfl, HT.out.2 (by have h := HC.out; rw [beq_iff_eq] at h; exact h)⟩, ?_⟩
          repeat (with_reducible (first | exact Bz.out | refine Below.setCell ?_ (by first | exact Nat.le_refl _ | exact Nat.le_succ _ | (simp; omega)) _ | refine Below.alloc ?_ (by first | exact Bz.out.size | (have := Bz.out.size; simp; omega)) _))
end Go.Proofs.YtakjgjhjndiggaaGreatDoor
namespace Go.Proofs.YtakjgjhjndiggaaGreatDoor
open Go.RowKit
open RM
set_option linter.unusedVariables false
set_option linter.unusedSimpArgs false

def Same (s : ByteArray) (x y f : Int) : Prop := x = parN s ∧ y = parD s ∧ f = parE s
theorem same_bad {s : ByteArray} (h : parE s ≠ 0) : Same s 0 0 12 := by
  obtain ⟨a, b, c⟩ := par_bad h
  exact ⟨b.symm, c.symm, a.symm⟩
theorem same_text {s : ByteArray} {n d : Int} (hv : vld n d = true) (e : s = textB n d) : Same s n d 0 := by
  subst e
  obtain ⟨a, b, c⟩ := par_text hv
  exact ⟨b.symm, c.symm, a.symm⟩
theorem vld_of_chk {n d : Int} (h : chk n d = 0) : vld n d = true := by
  cases hv : vld n d with
  | true => rfl
  | false => rw [chk_not hv] at h; simp at h
theorem noslash_list {s : ByteArray} {k : Nat} (hk : k ≤ s.size) (h : NoSlash s k) : (47 : UInt8) ∉ s.data.toList.take k := by
  intro hm
  obtain ⟨j, hj, e⟩ := List.mem_iff_getElem.1 hm
  have hj2 : j < k := by rw [List.length_take] at hj; omega
  rw [List.getElem_take] at e
  exact h j hj2 (by omega) e

theorem whole_same (s : ByteArray) : Whole s (Same s) := by
  intro hn v b hs
  have hno := noslash_list (Nat.le_refl _) hn
  rw [List.take_of_length_le (by rw [Array.length_toList]; exact Nat.le_refl _)] at hno
  have key : parE s = 0 → b = true ∧ vld v 1 = true := by
    intro h0
    obtain ⟨hv, e⟩ := par_fine h0
    obtain ⟨h1, h2, h3, h4, _⟩ := vld_iff.1 hv
    have hd : parD s = 1 := by
      by_cases hd : parD s = 1
      · exact hd
      · refine absurd ?_ hno
        rw [← e]; show (47 : UInt8) ∈ textL _ _
        unfold textL; rw [if_neg hd]; simp
    have e2 : s = ⟨(Lib.itoa (parN s)).toArray⟩ := by
      have : textB (parN s) (parD s) = ⟨(Lib.itoa (parN s)).toArray⟩ := by unfold textB textL; rw [if_pos hd]
      rw [← this]; exact e.symm
    obtain ⟨hb, hv2⟩ := hs.2 (parN s) h3 h4 e2
    exact ⟨hb, by rw [hv2, ← hd]; exact hv⟩
  refine ⟨fun hb => same_bad fun h0 => ?_, fun hb => ⟨fun hc => same_bad fun h0 => ?_, fun hc => ?_⟩⟩
  · have := (key h0).1; rw [hb] at this; simp at this
  · exact hc (chk_valid (key h0).2)
  · refine same_text (vld_of_chk hc) ?_
    rw [(hs.1 hb).1]; unfold textB textL; rw [if_pos rfl]

theorem cutted_same (s : ByteArray) : Cutted s (Same s) := by
  intro k hk hc hn v b hs
  have hno := noslash_list (Nat.le_of_lt hk) hn
  have hk' : k < s.data.toList.length := hk
  have eA : (s.extract 0 k).data.toList = s.data.toList.take k := by simp [ByteArray.data_extract]
  have eB : (s.extract (k + 1) s.size).data.toList = s.data.toList.drop (k + 1) := by
    simp only [ByteArray.data_extract, Array.toList_extract, List.extract]
    rw [List.take_of_length_le]
    rw [List.length_drop, Array.length_toList]; exact Nat.le_refl _
  have hl : s.data.toList = s.data.toList.take k ++ 47 :: s.data.toList.drop (k + 1) := by
    have h47 : s.data.toList[k] = 47 := hc
    rw [← h47, ← List.drop_eq_getElem_cons hk', List.take_append_drop]
  have hcut : Lib.cut s.data.toList [47] = (s.data.toList.take k, s.data.toList.drop (k + 1), true) := by
    have := cut_at (s.data.toList.drop (k + 1)) hno
    rwa [← hl] at this
  have key : parE s = 0 → s.extract 0 k = ⟨(Lib.itoa (parN s)).toArray⟩ ∧ s.extract (k + 1) s.size = ⟨(Lib.itoa (parD s)).toArray⟩ ∧ parD s ≠ 1 ∧ vld (parN s) (parD s) = true := by
    intro h0
    obtain ⟨hv, e⟩ := par_fine h0
    have ht := text_cut (parN s) (parD s)
    rw [e, hcut] at ht
    by_cases hd : parD s = 1
    · rw [if_pos hd] at ht; simp at ht
    · rw [if_neg hd] at ht
      simp only [Prod.mk.injEq, and_true] at ht
      refine ⟨?_, ?_, hd, hv⟩
      · apply ByteArray.ext; apply Array.toList_inj.1; rw [eA, ht.1]
      · apply ByteArray.ext; apply Array.toList_inj.1; rw [eB, ht.2]
  refine ⟨fun hb => same_bad fun h0 => ?_, fun hb u c hs2 => ⟨fun hc2 => same_bad fun h0 => ?_, fun hc2 => ⟨fun hu => same_bad fun h0 => ?_, fun hu hch => same_bad fun h0 => ?_, fun hu hch => ?_⟩⟩⟩
  · obtain ⟨k1, k2, k3, hv⟩ := key h0
    obtain ⟨h1, h2, h3, h4, _⟩ := vld_iff.1 hv
    have := (hs.2 _ h3 h4 k1).1; rw [hb] at this; simp at this
  · obtain ⟨k1, k2, k3, hv⟩ := key h0
    obtain ⟨h1, h2, h3, h4, _⟩ := vld_iff.1 hv
    have := (hs2.2 _ (by omega) h2 k2).1; rw [hc2] at this; simp at this
  · obtain ⟨k1, k2, k3, hv⟩ := key h0
    obtain ⟨h1, h2, h3, h4, _⟩ := vld_iff.1 hv
    have := (hs2.2 _ (by omega) h2 k2).2
    exact k3 (by rw [← this]; exact hu)
  · obtain ⟨k1, k2, k3, hv⟩ := key h0
    obtain ⟨h1, h2, h3, h4, _⟩ := vld_iff.1 hv
    have e1 := (hs.2 _ h3 h4 k1).2
    have e2 := (hs2.2 _ (by omega) h2 k2).2
    exact hch (by rw [e1, e2]; exact chk_valid hv)
  · refine same_text (vld_of_chk hch) ?_
    have f1 := congrArg (fun x : ByteArray => x.data.toList) (hs.1 hb).1
    have f2 := congrArg (fun x : ByteArray => x.data.toList) (hs2.1 hc2).1
    simp only [eA, eB] at f1 f2
    apply ByteArray.ext; apply Array.toList_inj.1
    rw [hl, f1, f2]
    show _ = (textL v u).toArray.toList
    unfold textL; rw [if_neg hu]

theorem refparse_any (s : ByteArray) (hs : s.size ≤ 10000) (w : World) :
    Calls Tryz.prog 109 #[.string s] w fun e w' => e = .returned (.tuple #[.agg #[.int .i64 (parN s), .int .i64 (parD s)], .int .i64 (parE s)]) ∧ Below w.heap.size w w' := by
  refine (refparse_walk s hs w (Same s) (cutted_same s) (whole_same s)).mono ?_
  rintro e w' ⟨⟨x, y, f, rfl, rfl, rfl, rfl⟩, hb⟩
  exact ⟨rfl, hb⟩
end Go.Proofs.YtakjgjhjndiggaaGreatDoor
