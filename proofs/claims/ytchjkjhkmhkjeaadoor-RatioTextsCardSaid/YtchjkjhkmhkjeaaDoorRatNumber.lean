/-
  What the reference's Number hands back.
-/
import Derived.Test.YtchjkjhkmhkjeaaDoorRatDecimal
namespace Go.Proofs.YtchjkjhkmhkjeaaDoor
open Go.RowKit
open RM
set_option linter.unusedVariables false
set_option linter.unusedSimpArgs false

/-- The bytes from 'fr' up to k. -/
def part (s : ByteArray) (fr k : Nat) : List UInt8 := (s.data.toList.drop fr).take (k - fr)
/-- Where Number's loop stands. -/
structure NumAt (s : ByteArray) (fr k n : Nat) : Prop where
  lo : fr ≤ k
  hi : k ≤ s.size
  few : k ≤ fr + 10
  val : n = valF 0 (part s fr k)
  dig : ∀ c ∈ part s fr k, isDig c
  lt : n < 10 ^ (k - fr)
theorem NumAt.start (s : ByteArray) (fr : Nat) (h : fr ≤ s.size) : NumAt s fr fr 0 :=
  ⟨Nat.le_refl _, h, by omega, by simp [part, valF], by simp [part], by simp⟩
theorem part_succ {s : ByteArray} {fr k : Nat} (h1 : fr ≤ k) (h2 : k < s.size) : part s fr (k + 1) = part s fr k ++ [s[k]] := by
  have hl : k < s.data.toList.length := h2
  unfold part
  rw [show k + 1 - fr = (k - fr) + 1 by omega, List.take_add_one]
  congr 1
  rw [List.getElem?_drop, show fr + (k - fr) = k by omega, List.getElem?_eq_getElem hl]
  rfl
theorem NumAt.step {s : ByteArray} {fr k n : Nat} (h : NumAt s fr k n) (h2 : k < s.size) (h3 : k ≤ fr + 9) (hc : isDig s[k]) : NumAt s fr (k + 1) (n * 10 + (s[k].toNat - 48)) := by
  refine ⟨by have := h.lo; omega, h2, by omega, ?_, ?_, ?_⟩
  · rw [part_succ h.lo h2, h.val]; simp [valF]
  · rw [part_succ h.lo h2]; intro c hm
    rw [List.mem_append, List.mem_singleton] at hm
    rcases hm with hm | rfl
    · exact h.dig c hm
    · exact hc
  · have := h.lt; have := hc.2; have := h.lo
    rw [show k + 1 - fr = (k - fr) + 1 by omega, Nat.pow_succ]; omega
theorem NumAt.small {s : ByteArray} {fr k n : Nat} (h : NumAt s fr k n) (h3 : k ≤ fr + 10) : n < 10000000000 :=
  Nat.lt_of_lt_of_le h.lt (Nat.pow_le_pow_right (by decide) (show k - fr ≤ 10 by omega))
/-- How Number ends. -/
def NumEnd (Q : Int → Bool → Prop) (w : World) (e : Ending) (w' : World) : Prop := (∃ v b, e = .returned (.tuple #[.int .i64 v, .bool b]) ∧ Q v b) ∧ Below w.heap.size w w'

set_option maxHeartbeats 1000000 in
theorem num_minus (s : ByteArray) (hs : s.size ≤ 1000) (h0 : 0 < s.size) (hm : s[0] = 45) (w : World) (Q : Int → Bool → Prop)
    (stop : ∀ k n, NumAt s 1 k n → (h : k < s.size) → (¬ isDig s[k] ∨ 1 + 9 < k) → Q 0 false)
    (done : ∀ n, NumAt s 1 s.size n → (1 < s.size → Q (-(n : Int)) ((⟨(Lib.itoa (-(n : Int))).toArray⟩ : ByteArray).toList == s.toList)) ∧ (¬ 1 < s.size → Q (-(n : Int)) false)) :
    Calls Tryd.prog 40 #[.string s] w (NumEnd Q w) := by
  have HS := Lib.hid stop
  have HD := Lib.hid done
  clear stop done
  go_enter Tryd.func40, Tryd.ntmps40
  go_wp2_with fail
  go_loopw [5, 6] (fun nv iv wr => ∃ k n : Nat, nv = .int .i64 (n : Int) ∧ iv = .int .i64 (k : Int) ∧ NumAt s 1 k n ∧ wr = w) (fun nv iv _ => s.size - (intOf iv).toNat)
  case atStart => exact ⟨1, 0, by simp, by simp, NumAt.start s 1 (by omega), rfl⟩
  case round =>
    obtain ⟨k, n, rfl, rfl, hN, rfl⟩ := hrel
    have HN := Lib.hid hN
    have n1 := hN.lo
    have n2 := hN.hi
    have n3 := hN.few
    have n4 := hN.small hN.few
    clear hN
    by_cases hk : k < s.size
    · have k1 : (k : Int) < (s.size : Int) := by omega
      have hb := s[k].toNat_lt
      by_cases d1 : (s[k].toNat : Int) < 48
      · go_wp2_with fail
        refine bodyPost_ret (v := .tuple #[.int .i64 0, .bool false]) (by simp [results, Tryd.results40, go_sem]) rfl ?_
        exact ⟨⟨0, false, rfl, HS.out k n HN.out hk (.inl fun h => by have := h.1; omega)⟩, Below.refl _ _⟩
      · by_cases d2 : (57 : Int) < (s[k].toNat : Int)
        · go_wp2_with fail
          refine bodyPost_ret (v := .tuple #[.int .i64 0, .bool false]) (by simp [results, Tryd.results40, go_sem]) rfl ?_
          exact ⟨⟨0, false, rfl, HS.out k n HN.out hk (.inl fun h => by have := h.2; omega)⟩, Below.refl _ _⟩
        · by_cases d3 : (1 + 9 : Int) < (k : Int)
          · have d4 : (10 : Int) < (k : Int) := by omega
            go_wp2_with fail
            refine bodyPost_ret (v := .tuple #[.int .i64 0, .bool false]) (by simp [results, Tryd.results40, go_sem]) rfl ?_
            exact ⟨⟨0, false, rfl, HS.out k n HN.out hk (.inr (by omega))⟩, Below.refl _ _⟩
          · have d4 : ¬ (10 : Int) < (k : Int) := by omega
            go_wp2_with fail
            go_roundw
            case rel => exact ⟨k + 1, n * 10 + (s[k].toNat - 48), by congr 1; omega, by go_num, HN.out.step hk (by omega) ⟨by omega, by omega⟩, by simp⟩
            case measure => simp [intOf]; omega
    · obtain rfl : k = s.size := by omega
      have KD := Lib.hid (fun w => decimal_any (-(n : Int)) (by omega) (by omega) w)
      by_cases hf : 1 < s.size
      · have hf1 : (1 : Int) < (s.size : Int) := by omega
        have hq := (HD.out n HN.out).1 hf
        have HQ := Lib.hid hq
        clear hq
        go_wp2_with fail
        refine (KD.out _).mono ?_
        rintro e w1 ⟨rfl, hb⟩
        have HB := Lib.hid hb
        clear hb
        go_wp2_with fail
        refine bodyPost_ret (v := .tuple #[.int .i64 (-(n : Int)), .bool ((⟨(Lib.itoa (-(n : Int))).toArray⟩ : ByteArray).toList == s.toList)]) (by simp [results, Tryd.results40, go_sem]) rfl ?_
        exact ⟨⟨_, _, rfl, HQ.out⟩, HB.out⟩
      · have hf1 : ¬ (1 : Int) < (s.size : Int) := by omega
        have HQ := Lib.hid ((HD.out n HN.out).2 hf)
        go_wp2_with fail
        refine bodyPost_ret (v := .tuple #[.int .i64 (-(n : Int)), .bool false]) (by simp [results, Tryd.results40, go_sem]) rfl ?_
        exact ⟨⟨_, _, rfl, HQ.out⟩, Below.refl _ _⟩

set_option maxHeartbeats 1000000 in
theorem num_plain (s : ByteArray) (hs : s.size ≤ 1000) (h0 : 0 < s.size) (hm : ¬ s[0] = 45) (w : World) (Q : Int → Bool → Prop)
    (stop : ∀ k n, NumAt s 0 k n → (h : k < s.size) → (¬ isDig s[k] ∨ 0 + 9 < k) → Q 0 false)
    (done : ∀ n, NumAt s 0 s.size n → (0 < s.size → Q (n : Int) ((⟨(Lib.itoa (n : Int)).toArray⟩ : ByteArray).toList == s.toList)) ∧ (¬ 0 < s.size → Q (n : Int) false)) :
    Calls Tryd.prog 40 #[.string s] w (NumEnd Q w) := by
  have HS := Lib.hid stop
  have HD := Lib.hid done
  clear stop done
  have hm1 : ((s[0].toNat : Int) == 45) = false := by rw [beq_eq_false_iff_ne]; intro h; exact hm (UInt8.toNat_inj.1 (by have : (45 : UInt8).toNat = 45 := rfl; omega))
  have hm2 : (s[0] == 45) = false := beq_eq_false_iff_ne.2 hm
  go_enter Tryd.func40, Tryd.ntmps40
  go_wp2_with fail
  go_loopw [5, 6] (fun nv iv wr => ∃ k n : Nat, nv = .int .i64 (n : Int) ∧ iv = .int .i64 (k : Int) ∧ NumAt s 0 k n ∧ wr = w) (fun nv iv _ => s.size - (intOf iv).toNat)
  case atStart => exact ⟨0, 0, by simp, by simp, NumAt.start s 0 (by omega), rfl⟩
  case round =>
    obtain ⟨k, n, rfl, rfl, hN, rfl⟩ := hrel
    have HN := Lib.hid hN
    have n1 := hN.lo
    have n2 := hN.hi
    have n3 := hN.few
    have n4 := hN.small hN.few
    clear hN
    by_cases hk : k < s.size
    · have k1 : (k : Int) < (s.size : Int) := by omega
      have hb := s[k].toNat_lt
      by_cases d1 : (s[k].toNat : Int) < 48
      · go_wp2_with fail
        refine bodyPost_ret (v := .tuple #[.int .i64 0, .bool false]) (by simp [results, Tryd.results40, go_sem]) rfl ?_
        exact ⟨⟨0, false, rfl, HS.out k n HN.out hk (.inl fun h => by have := h.1; omega)⟩, Below.refl _ _⟩
      · by_cases d2 : (57 : Int) < (s[k].toNat : Int)
        · go_wp2_with fail
          refine bodyPost_ret (v := .tuple #[.int .i64 0, .bool false]) (by simp [results, Tryd.results40, go_sem]) rfl ?_
          exact ⟨⟨0, false, rfl, HS.out k n HN.out hk (.inl fun h => by have := h.2; omega)⟩, Below.refl _ _⟩
        · by_cases d3 : (0 + 9 : Int) < (k : Int)
          · have d4 : (9 : Int) < (k : Int) := by omega
            go_wp2_with fail
            refine bodyPost_ret (v := .tuple #[.int .i64 0, .bool false]) (by simp [results, Tryd.results40, go_sem]) rfl ?_
            exact ⟨⟨0, false, rfl, HS.out k n HN.out hk (.inr (by omega))⟩, Below.refl _ _⟩
          · have d4 : ¬ (9 : Int) < (k : Int) := by omega
            go_wp2_with fail
            go_roundw
            case rel => exact ⟨k + 1, n * 10 + (s[k].toNat - 48), by congr 1; omega, by go_num, HN.out.step hk (by omega) ⟨by omega, by omega⟩, by simp⟩
            case measure => simp [intOf]; omega
    · obtain rfl : k = s.size := by omega
      have KD := Lib.hid (fun w => decimal_any (n : Int) (by omega) (by omega) w)
      by_cases hf : 0 < s.size
      · have hf1 : (0 : Int) < (s.size : Int) := by omega
        have hq := (HD.out n HN.out).1 hf
        have HQ := Lib.hid hq
        clear hq
        go_wp2_with fail
        refine (KD.out _).mono ?_
        rintro e w1 ⟨rfl, hb⟩
        have HB := Lib.hid hb
        clear hb
        go_wp2_with fail
        refine bodyPost_ret (v := .tuple #[.int .i64 (n : Int), .bool ((⟨(Lib.itoa (n : Int)).toArray⟩ : ByteArray).toList == s.toList)]) (by simp [results, Tryd.results40, go_sem]) rfl ?_
        exact ⟨⟨_, _, rfl, HQ.out⟩, HB.out⟩
      · exact absurd h0 hf

set_option maxHeartbeats 1000000 in
theorem num_empty (s : ByteArray) (hs : s.size ≤ 1000) (h0 : ¬ 0 < s.size) (w : World) (Q : Int → Bool → Prop)
    (stop : ∀ k n, NumAt s 0 k n → (h : k < s.size) → (¬ isDig s[k] ∨ 0 + 9 < k) → Q 0 false)
    (done : ∀ n, NumAt s 0 s.size n → (0 < s.size → Q (n : Int) ((⟨(Lib.itoa (n : Int)).toArray⟩ : ByteArray).toList == s.toList)) ∧ (¬ 0 < s.size → Q (n : Int) false)) :
    Calls Tryd.prog 40 #[.string s] w (NumEnd Q w) := by
  have HS := Lib.hid stop
  have HD := Lib.hid done
  clear stop done
  go_enter Tryd.func40, Tryd.ntmps40
  go_wp2_with fail
  go_loopw [5, 6] (fun nv iv wr => ∃ k n : Nat, nv = .int .i64 (n : Int) ∧ iv = .int .i64 (k : Int) ∧ NumAt s 0 k n ∧ wr = w) (fun nv iv _ => s.size - (intOf iv).toNat)
  case atStart => exact ⟨0, 0, by simp, by simp, NumAt.start s 0 (by omega), rfl⟩
  case round =>
    obtain ⟨k, n, rfl, rfl, hN, rfl⟩ := hrel
    have HN := Lib.hid hN
    have n1 := hN.lo
    have n2 := hN.hi
    have n3 := hN.few
    have n4 := hN.small hN.few
    clear hN
    by_cases hk : k < s.size
    · have k1 : (k : Int) < (s.size : Int) := by omega
      have hb := s[k].toNat_lt
      by_cases d1 : (s[k].toNat : Int) < 48
      · go_wp2_with fail
        refine bodyPost_ret (v := .tuple #[.int .i64 0, .bool false]) (by simp [results, Tryd.results40, go_sem]) rfl ?_
        exact ⟨⟨0, false, rfl, HS.out k n HN.out hk (.inl fun h => by have := h.1; omega)⟩, Below.refl _ _⟩
      · by_cases d2 : (57 : Int) < (s[k].toNat : Int)
        · go_wp2_with fail
          refine bodyPost_ret (v := .tuple #[.int .i64 0, .bool false]) (by simp [results, Tryd.results40, go_sem]) rfl ?_
          exact ⟨⟨0, false, rfl, HS.out k n HN.out hk (.inl fun h => by have := h.2; omega)⟩, Below.refl _ _⟩
        · by_cases d3 : (0 + 9 : Int) < (k : Int)
          · have d4 : (9 : Int) < (k : Int) := by omega
            go_wp2_with fail
            refine bodyPost_ret (v := .tuple #[.int .i64 0, .bool false]) (by simp [results, Tryd.results40, go_sem]) rfl ?_
            exact ⟨⟨0, false, rfl, HS.out k n HN.out hk (.inr (by omega))⟩, Below.refl _ _⟩
          · have d4 : ¬ (9 : Int) < (k : Int) := by omega
            go_wp2_with fail
            go_roundw
            case rel => exact ⟨k + 1, n * 10 + (s[k].toNat - 48), by congr 1; omega, by go_num, HN.out.step hk (by omega) ⟨by omega, by omega⟩, by simp⟩
            case measure => simp [intOf]; omega
    · obtain rfl : k = s.size := by omega
      have KD := Lib.hid (fun w => decimal_any (n : Int) (by omega) (by omega) w)
      by_cases hf : 0 < s.size
      · exact absurd hf h0
      · have hf1 : ¬ (0 : Int) < (s.size : Int) := by omega
        have HQ := Lib.hid ((HD.out n HN.out).2 hf)
        go_wp2_with fail
        refine bodyPost_ret (v := .tuple #[.int .i64 (n : Int), .bool false]) (by simp [results, Tryd.results40, go_sem]) rfl ?_
        exact ⟨⟨_, _, rfl, HQ.out⟩, Below.refl _ _⟩
end Go.Proofs.YtchjkjhkmhkjeaaDoor
