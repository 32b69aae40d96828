/-
  What the reference's fine and Check hand back.
-/
import Derived.Test.YtakjgjhjndiggaaGreatDoorValSix
import Derived.Test.YtakjgjhjndiggaaGreatDoorZRatRefAll
namespace Go.Proofs.YtakjgjhjndiggaaGreatDoor
open Go.RowKit
open VM
open RM (vld chk chk_valid chk_not)
set_option linter.unusedVariables false
set_option linter.unusedSimpArgs false

theorem fine_leaf {a : Nd} {l : List V} (h : a.k ≠ 4) : fineB (.mk a l) = sndB a l.length := by rw [fineB_eq]; simp [h]
theorem fine_list {a : Nd} {l : List V} (h : a.k = 4) : fineB (.mk a l) = (decide (a.n = 0 ∧ a.d = 0) && (!a.t && decide (a.s.size = 0)) && l.all fineB) := by
  have e : sndB a l.length = (decide (a.n = 0 ∧ a.d = 0) && (!a.t && decide (a.s.size = 0))) := by
    unfold sndB; rw [if_neg (by omega), if_neg (by omega), if_neg (by omega), if_pos h]
  rw [fineB_eq, fineL_all, V.nd_mk, V.list_mk, e, h]; rfl
theorem len_beq (l : List V) : ((l.length : Int) == 0) = decide (l = []) := by
  cases l with
  | nil => rfl
  | cons x l => simp; omega
/-- The variables of fine. -/
theorem fine_start (w : World) (o1 o2 : Obj) : Below w.heap.size w ((w.alloc o1).alloc o2) := ((Below.refl _ _).alloc (Nat.le_refl _) _).alloc (by simp) _

set_option maxHeartbeats 1000000 in
theorem reffine_one (a : Nd) (l : List V) (p : Option Addr) (cap : Nat) (w : World) (hk : a.k = 1) :
    Calls Tryz.prog 71 #[.agg #[.int .u8 a.k, .int .i64 a.n, .int .i64 a.d, .bool a.t, .string a.s, .slice p l.length cap]] w fun e w' => e = .returned (.bool (fineB (.mk a l))) ∧ Below w.heap.size w w' := by
  have HE : Hid (fineB (.mk a l) = (vld a.n a.d && (!a.t && (decide (a.s.size = 0) && decide (l.length = 0))))) := Lib.hid (by rw [fine_leaf (by omega)]; simp [sndB, hk])
  have HB := Lib.hid (fine_start w)
  have k1 : (a.k == 1) = true := by simp [hk]
  clear hk
  cases hv : vld a.n a.d
  · have HV := Lib.hid hv
    have hz : (chk a.n a.d == 0) = false := by rw [chk_not hv]; rfl
    clear hv
    go_enter Tryz.func71, Tryz.ntmps71
    go_wp2_with fail
    refine (refcheck_any _ _ _).mono ?_
    rintro e w1 ⟨rfl, hb⟩
    have HB1 := Lib.hid ((HB.out _ _).trans (hb.mono (HB.out _ _).size))
    clear hb
    go_wp2_with fail
    go_ret
    exact ⟨ret_bool (by rw [HE.out, HV.out, Bool.false_and]), HB1.out⟩
  · have HV := Lib.hid hv
    have hz : (chk a.n a.d == 0) = true := by rw [chk_valid hv]; rfl
    clear hv
    go_enter Tryz.func71, Tryz.ntmps71
    go_wp2_with fail
    have S1 := Lib.hid ((Six.new w a (.slice p l.length cap)).later ((Below.refl _ _).alloc (Nat.le_refl _) (.cells #[.int .i64 0, .int .i64 0] 25)))
    refine (refcheck_any _ _ _).mono ?_
    rintro e w1 ⟨rfl, hb⟩
    have HB1 := Lib.hid ((HB.out _ _).trans (hb.mono (HB.out _ _).size))
    have l1 := (S1.out.later hb).lt
    have q2 := (S1.out.later hb).row.c3
    have q3 := (S1.out.later hb).row.c4
    have q4 := (S1.out.later hb).row.c5
    simp only [Nat.zero_add] at q2 q3 q4
    clear hb S1
    go_wp2_with fail
    all_goals
      go_ret
      exact ⟨ret_bool (by rw [HE.out, HV.out]; simp [*, len_beq]), HB1.out⟩

set_option maxHeartbeats 1000000 in
theorem reffine_two (a : Nd) (l : List V) (p : Option Addr) (cap : Nat) (w : World) (hk : a.k = 2) :
    Calls Tryz.prog 71 #[.agg #[.int .u8 a.k, .int .i64 a.n, .int .i64 a.d, .bool a.t, .string a.s, .slice p l.length cap]] w fun e w' => e = .returned (.bool (fineB (.mk a l))) ∧ Below w.heap.size w w' := by
  have HE : Hid (fineB (.mk a l) = (decide (a.n = 0 ∧ a.d = 0) && (decide (a.s.size = 0) && decide (l.length = 0)))) := Lib.hid (by rw [fine_leaf (by omega)]; simp [sndB, hk])
  have HB := Lib.hid (fine_start w)
  have k1 : (a.k == 1) = false := by simp [hk]
  have k2 : (a.k == 2) = true := by simp [hk]
  clear hk
  go_enter Tryz.func71, Tryz.ntmps71
  go_wp2_with fail
  all_goals
    go_ret
    exact ⟨ret_bool (by rw [HE.out]; simp [*, len_beq]), HB.out _ _⟩
theorem fine_other {a : Nd} {l : List V} (h1 : a.k ≠ 1) (h2 : a.k ≠ 2) (h3 : a.k ≠ 3) (h4 : a.k ≠ 4) : fineB (.mk a l) = false := by
  rw [fine_leaf h4]; simp [sndB, h1, h2, h3, h4]
set_option maxHeartbeats 1000000 in
theorem reffine_other (a : Nd) (l : List V) (p : Option Addr) (cap : Nat) (w : World) (h1 : a.k ≠ 1) (h2 : a.k ≠ 2) (h3 : a.k ≠ 3) (h4 : a.k ≠ 4) :
    Calls Tryz.prog 71 #[.agg #[.int .u8 a.k, .int .i64 a.n, .int .i64 a.d, .bool a.t, .string a.s, .slice p l.length cap]] w fun e w' => e = .returned (.bool (fineB (.mk a l))) ∧ Below w.heap.size w w' := by
  have HE := Lib.hid (fine_other (l := l) h1 h2 h3 h4)
  have HB := Lib.hid (fine_start w)
  have k1 : (a.k == 1) = false := by simp [h1]
  have k2 : (a.k == 2) = false := by simp [h2]
  have k3 : (a.k == 3) = false := by simp [h3]
  have k4 : (a.k == 4) = false := by simp [h4]
  clear h1 h2 h3 h4
  go_enter Tryz.func71, Tryz.ntmps71
  go_wp2_with fail
  go_ret
  exact ⟨ret_bool HE.out.symm, HB.out _ _⟩

theorem fine_str {a : Nd} {l : List V} (h : a.k = 3) : fineB (.mk a l) = (decide (a.n = 0 ∧ a.d = 0) && (!a.t && (prB a.s && decide (l.length = 0)))) := by
  rw [fine_leaf (by omega)]; simp [sndB, h]
theorem fine_str_no {a : Nd} {l : List V} (h : a.k = 3) (h2 : ¬ (a.n = 0 ∧ a.d = 0 ∧ a.t = false ∧ l.length = 0 ∧ a.s.size ≤ 60)) : fineB (.mk a l) = false := by
  rw [fine_str h, Bool.eq_false_iff]
  intro e
  simp only [Bool.and_eq_true, decide_eq_true_eq, Bool.not_eq_true', prB] at e
  exact h2 ⟨e.1.1, e.1.2, e.2.1, e.2.2.2, e.2.2.1.1⟩
theorem pr_all {s : ByteArray} (h : s.size ≤ 60) (h2 : ∀ k, (h : k < s.size) → prC s[k] = true) : prB s = true := by
  unfold prB
  simp only [Bool.and_eq_true, decide_eq_true_eq, List.all_eq_true]
  refine ⟨h, fun c hc => ?_⟩
  obtain ⟨k, hk, rfl⟩ := List.getElem_of_mem hc
  exact h2 k (by simpa using hk)
theorem pr_none {s : ByteArray} {k : Nat} (h : k < s.size) (h2 : prC s[k] = false) : prB s = false := by
  rw [Bool.eq_false_iff]; intro e
  unfold prB at e
  simp only [Bool.and_eq_true, decide_eq_true_eq, List.all_eq_true] at e
  have := e.2 s[k] (by
    have : s[k] = s.data.toList[k]'(by simpa using h) := rfl
    rw [this]; exact List.getElem_mem _)
  rw [h2] at this; simp at this
theorem prC_iff {c : UInt8} : prC c = true ↔ 32 ≤ c.toNat ∧ c.toNat ≤ 126 := by simp [prC]
theorem prC_no {c : UInt8} : prC c = false ↔ c.toNat < 32 ∨ 126 < c.toNat := by rw [Bool.eq_false_iff, ne_eq, prC_iff]; omega

set_option maxHeartbeats 1000000 in
theorem reffine_str_no (a : Nd) (l : List V) (p : Option Addr) (cap : Nat) (w : World) (hk : a.k = 3) (hno : ¬ (a.n = 0 ∧ a.d = 0 ∧ a.t = false ∧ l.length = 0 ∧ a.s.size ≤ 60)) :
    Calls Tryz.prog 71 #[.agg #[.int .u8 a.k, .int .i64 a.n, .int .i64 a.d, .bool a.t, .string a.s, .slice p l.length cap]] w fun e w' => e = .returned (.bool (fineB (.mk a l))) ∧ Below w.heap.size w w' := by
  have HE := Lib.hid (fine_str_no (l := l) hk hno)
  have HB := Lib.hid (fine_start w)
  have HN := Lib.hid hno
  have k1 : (a.k == 1) = false := by simp [hk]
  have k2 : (a.k == 2) = false := by simp [hk]
  have k3 : (a.k == 3) = true := by simp [hk]
  clear hk hno
  by_cases hl : l.length = 0
  · obtain rfl : l = [] := List.length_eq_zero_iff.1 hl
    by_cases hs : a.s.size ≤ 60
    · have s1 : ¬ (60 : Int) < a.s.size := by omega
      go_enter Tryz.func71, Tryz.ntmps71
      go_wp2_with fail
      all_goals first
        | (go_ret; exact ⟨ret_bool HE.out.symm, HB.out _ _⟩)
        | (have ht : ¬ a.t = true := by assumption
           exact absurd ⟨by assumption, by assumption, Bool.eq_false_iff.2 ht, rfl, hs⟩ HN.out)
    · have s1 : (60 : Int) < a.s.size := by omega
      go_enter Tryz.func71, Tryz.ntmps71
      go_wp2_with fail
      all_goals (go_ret; exact ⟨ret_bool HE.out.symm, HB.out _ _⟩)
  · have l1 : (0 : Int) < l.length := by omega
    have l2 : decide ((0 : Int) < l.length) = true := by simpa using l1
    go_enter Tryz.func71, Tryz.ntmps71
    go_wp2_with fail
    all_goals (go_ret; exact ⟨ret_bool HE.out.symm, HB.out _ _⟩)

set_option maxHeartbeats 1000000 in
theorem reffine_str_ok (a : Nd) (p : Option Addr) (cap : Nat) (w : World) (hk : a.k = 3) (hn : a.n = 0) (hd : a.d = 0) (ht : a.t = false) (hs : a.s.size ≤ 60) :
    Calls Tryz.prog 71 #[.agg #[.int .u8 a.k, .int .i64 a.n, .int .i64 a.d, .bool a.t, .string a.s, .slice p 0 cap]] w fun e w' => e = .returned (.bool (fineB (.mk a []))) ∧ Below w.heap.size w w' := by
  have HE : Hid (fineB (.mk a []) = prB a.s) := Lib.hid (by rw [fine_str hk]; simp [hn, hd, ht])
  have HB := Lib.hid (fine_start w)
  have HY := Lib.hid (fun h => pr_all hs h)
  have HN := Lib.hid (fun k h h2 => pr_none (s := a.s) (k := k) h h2)
  have k1 : (a.k == 1) = false := by simp [hk]
  have k2 : (a.k == 2) = false := by simp [hk]
  have k3 : (a.k == 3) = true := by simp [hk]
  have n1 : (a.n == 0 && a.d == 0) = true := by simp [hn, hd]
  have s1 : ¬ (60 : Int) < a.s.size := by omega
  have S1 : Hid (Six ((w.alloc (.cells #[.int .u8 a.k, .int .i64 a.n, .int .i64 a.d, .bool a.t, .string a.s, .slice p 0 cap] 28)).alloc (.cells #[.int .i64 0, .int .i64 0] 25)) w.heap.size a (.slice p 0 cap)) := Lib.hid ((Six.new w a (.slice p 0 cap)).later ((Below.refl _ _).alloc (Nat.le_refl _) _))
  rw [hn, hd, ht] at S1
  clear hk
  go_enter Tryz.func71, Tryz.ntmps71
  go_wp2_with fail
  go_loopw [4] (fun i wr => ∃ j : Nat, j ≤ a.s.size ∧ i = .int .i64 j ∧ (∀ k, k < j → (h : k < a.s.size) → prC a.s[k] = true) ∧ Six wr w.heap.size a (.slice p 0 cap) ∧ Below w.heap.size w wr) (fun i _ => a.s.size - (intOf i).toNat)
  case atStart => exact ⟨0, Nat.zero_le _, rfl, fun k hk => by omega, S1.out, HB.out _ _⟩
  case round =>
    obtain ⟨j, hj, rfl, hall, hS, hB⟩ := hrel
    have HA := Lib.hid hall
    have HS := Lib.hid hS
    have HB1 := Lib.hid hB
    have l1 := hS.lt
    have q4 := hS.row.c4
    simp only [Nat.zero_add] at q4
    clear hall hS hB
    by_cases hlt : j < a.s.size
    · have HT : Hid (prC a.s[j] = true → ∀ k, k < j + 1 → (h : k < a.s.size) → prC a.s[k] = true) := Lib.hid fun e k hk h => by
        rcases Nat.lt_or_ge k j with hk2 | hk2
        · exact HA.out k hk2 h
        · obtain rfl : k = j := by omega
          exact e
      have HF := Lib.hid (HN.out j hlt)
      by_cases c1 : a.s[j].toNat < 32
      · have c1' : ((a.s[j].toNat : Nat) : Int) < 32 := by omega
        have HG := Lib.hid (HF.out (prC_no.2 (.inl c1)))
        clear c1
        go_wp2_with fail
        go_ret
        exact ⟨ret_bool (by rw [HE.out, HG.out]), HB1.out⟩
      · by_cases c2 : 126 < a.s[j].toNat
        · have c1' : ¬ ((a.s[j].toNat : Nat) : Int) < 32 := by omega
          have c2' : (126 : Int) < ((a.s[j].toNat : Nat) : Int) := by omega
          have HG := Lib.hid (HF.out (prC_no.2 (.inr c2)))
          clear c1 c2
          go_wp2_with fail
          go_ret
          exact ⟨ret_bool (by rw [HE.out, HG.out]), HB1.out⟩
        · have c1' : ¬ ((a.s[j].toNat : Nat) : Int) < 32 := by omega
          have c2' : ¬ (126 : Int) < ((a.s[j].toNat : Nat) : Int) := by omega
          have HG := Lib.hid (HT.out (prC_iff.2 ⟨by omega, by omega⟩))
          clear c1 c2
          go_wp2_with fail
          go_roundw
          case rel => exact ⟨j + 1, by omega, by go_num, HG.out, HS.out, HB1.out⟩
          case measure => simp [intOf]; omega
    · obtain rfl : j = a.s.size := by omega
      have HG := Lib.hid (HY.out fun k hk => HA.out k hk hk)
      go_wp2_with fail
      go_ret
      exact ⟨ret_bool (by rw [HE.out, HG.out]), HB1.out⟩
end Go.Proofs.YtakjgjhjndiggaaGreatDoor
