/-
  What sound hands back.
-/
import Derived.Test.YtakjgjhjndiggaaGreatDoorValSound
namespace Go.Proofs.YtakjgjhjndiggaaGreatDoor
open Go.RowKit
open VM
open RM (vld chk chk_valid chk_not)
set_option linter.unusedVariables false
set_option linter.unusedSimpArgs false

theorem chk_beq (n d : Int) : (chk n d == 0) = vld n d := by
  cases h : vld n d
  · rw [chk_not h]; rfl
  · rw [chk_valid h]; rfl
theorem sound_start (w : World) (o1 : Obj) : Below w.heap.size w (w.alloc o1) := (Below.refl _ _).alloc (Nat.le_refl _) _
theorem snd_size (s : ByteArray) : decide (s.size = 0) = decide (s.toList = []) := by
  rw [ByteArray.toList_eq, ← ByteArray.size_data, decide_eq_decide]
  constructor
  · intro h; exact Array.toList_eq_nil_iff.2 (Array.eq_empty_of_size_eq_zero h)
  · intro h; rw [Array.toList_eq_nil_iff.1 h]; rfl

set_option maxHeartbeats 1000000 in
theorem sound_two (a : Nd) (l : List V) (p : Option Addr) (cap : Nat) (w : World) (hk : a.k = 2) :
    Calls Tryz.prog 42 #[.agg #[.int .u8 a.k, .int .i64 a.n, .int .i64 a.d, .bool a.t, .string a.s, .slice p l.length cap]] w fun e w' => e = .returned (.bool (sndB a l.length)) ∧ Below w.heap.size w w' := by
  have HE : Hid (sndB a l.length = (decide (a.n = 0 ∧ a.d = 0) && (decide (a.s.toList = []) && decide (l.length = 0)))) := Lib.hid (by rw [← snd_size]; simp [sndB, hk])
  have HB := Lib.hid (sound_start w)
  have k1 : (a.k == 1) = false := by simp [hk]
  have k2 : (a.k == 2) = true := by simp [hk]
  clear hk
  go_enter Tryz.func42, Tryz.ntmps42
  go_wp2_with fail
  all_goals
    go_ret
    exact ⟨ret_bool (by first | (rw [HE.out]; done) | (rw [HE.out]; simp [*, len_beq])), HB.out _⟩

set_option maxHeartbeats 1000000 in
theorem sound_four (a : Nd) (l : List V) (p : Option Addr) (cap : Nat) (w : World) (hk : a.k = 4) :
    Calls Tryz.prog 42 #[.agg #[.int .u8 a.k, .int .i64 a.n, .int .i64 a.d, .bool a.t, .string a.s, .slice p l.length cap]] w fun e w' => e = .returned (.bool (sndB a l.length)) ∧ Below w.heap.size w w' := by
  have HE : Hid (sndB a l.length = (decide (a.n = 0 ∧ a.d = 0) && (!a.t && decide (a.s.toList = [])))) := Lib.hid (by rw [← snd_size]; simp [sndB, hk])
  have HB := Lib.hid (sound_start w)
  have k1 : (a.k == 1) = false := by simp [hk]
  have k2 : (a.k == 2) = false := by simp [hk]
  have k3 : (a.k == 3) = false := by simp [hk]
  have k4 : (a.k == 4) = true := by simp [hk]
  clear hk
  go_enter Tryz.func42, Tryz.ntmps42
  go_wp2_with fail
  all_goals
    go_ret
    exact ⟨ret_bool (by first | (rw [HE.out]; done) | (rw [HE.out]; simp [*, len_beq])), HB.out _⟩

set_option maxHeartbeats 1000000 in
theorem sound_other (a : Nd) (l : List V) (p : Option Addr) (cap : Nat) (w : World) (h1 : a.k ≠ 1) (h2 : a.k ≠ 2) (h3 : a.k ≠ 3) (h4 : a.k ≠ 4) :
    Calls Tryz.prog 42 #[.agg #[.int .u8 a.k, .int .i64 a.n, .int .i64 a.d, .bool a.t, .string a.s, .slice p l.length cap]] w fun e w' => e = .returned (.bool (sndB a l.length)) ∧ Below w.heap.size w w' := by
  have HE : Hid (sndB a l.length = false) := Lib.hid (by simp [sndB, h1, h2, h3, h4])
  have HB := Lib.hid (sound_start w)
  have k1 : (a.k == 1) = false := by simp [h1]
  have k2 : (a.k == 2) = false := by simp [h2]
  have k3 : (a.k == 3) = false := by simp [h3]
  have k4 : (a.k == 4) = false := by simp [h4]
  clear h1 h2 h3 h4
  go_enter Tryz.func42, Tryz.ntmps42
  go_wp2_with fail
  all_goals
    go_ret
    exact ⟨ret_bool (by first | (rw [HE.out]; done) | (rw [HE.out]; simp [*, len_beq])), HB.out _⟩

set_option maxHeartbeats 1000000 in
theorem sound_one (a : Nd) (l : List V) (p : Option Addr) (cap : Nat) (w : World) (hk : a.k = 1) :
    Calls Tryz.prog 42 #[.agg #[.int .u8 a.k, .int .i64 a.n, .int .i64 a.d, .bool a.t, .string a.s, .slice p l.length cap]] w fun e w' => e = .returned (.bool (sndB a l.length)) ∧ Below w.heap.size w w' := by
  have HE : Hid (sndB a l.length = ((chk a.n a.d == 0) && (!a.t && (decide (a.s.toList = []) && decide (l.length = 0))))) := Lib.hid (by rw [← snd_size, chk_beq]; simp [sndB, hk])
  have HB := Lib.hid (sound_start w)
  have k1 : (a.k == 1) = true := by simp [hk]
  clear hk
  go_enter Tryz.func42, Tryz.ntmps42
  go_wp2_with fail
  have S1 := Lib.hid (Six.new w a (.slice p l.length cap))
  refine (check_any _ _ _).mono ?_
  rintro e w1 ⟨rfl, hb⟩
  have HB1 := Lib.hid ((HB.out _).trans (hb.mono (HB.out _).size))
  have S2 := Lib.hid (S1.out.later hb)
  have l1 := S2.out.lt
  have q0 := S2.out.row.c0
  have q1 := S2.out.row.c1
  have q2 := S2.out.row.c2
  have q3 := S2.out.row.c3
  have q4 := S2.out.row.c4
  have q5 := S2.out.row.c5
  have f1 := S2.out.free 1
  have f2 := S2.out.free 2
  have f3 := S2.out.free 3
  have f4 := S2.out.free 4
  simp only [Nat.zero_add] at q1 q2 q3 q4 q5
  have HS : Hid (∀ (o : Nat) (v : Value), Below w.heap.size w (w1.setCell ⟨w.heap.size, o, none⟩ v)) := Lib.hid fun o v => HB1.out.setCell (Nat.le_refl _) v
  have HS2 : Hid (∀ (o o2 : Nat) (v v2 : Value), Below w.heap.size w ((w1.setCell ⟨w.heap.size, o, none⟩ v).setCell ⟨w.heap.size, o2, none⟩ v2)) := Lib.hid fun o o2 v v2 => (HB1.out.setCell (Nat.le_refl _) v).setCell (Nat.le_refl _) v2
  clear hb S1 S2 HB
  go_wp2_with fail
  all_goals
    go_ret
    exact ⟨ret_bool (by rw [HE.out]; clear HE; simp [*, len_beq]), by first | exact HS.out _ _ | exact HS2.out _ _ _ _⟩

set_option maxHeartbeats 1000000 in
theorem sound_three (a : Nd) (l : List V) (p : Option Addr) (cap : Nat) (w : World) (hk : a.k = 3) :
    Calls Tryz.prog 42 #[.agg #[.int .u8 a.k, .int .i64 a.n, .int .i64 a.d, .bool a.t, .string a.s, .slice p l.length cap]] w fun e w' => e = .returned (.bool (sndB a l.length)) ∧ Below w.heap.size w w' := by
  have HE : Hid (sndB a l.length = (prB a.s && (decide (a.n = 0 ∧ a.d = 0) && (!a.t && decide (l.length = 0))))) := Lib.hid (by simp only [sndB, hk]; cases prB a.s <;> simp)
  have HB := Lib.hid (sound_start w)
  have k1 : (a.k == 1) = false := by simp [hk]
  have k2 : (a.k == 2) = false := by simp [hk]
  have k3 : (a.k == 3) = true := by simp [hk]
  clear hk
  go_enter Tryz.func42, Tryz.ntmps42
  go_wp2_with fail
  have S1 := Lib.hid (Six.new w a (.slice p l.length cap))
  refine (printable_any _ _).mono ?_
  rintro e w1 ⟨rfl, hb⟩
  have HB1 := Lib.hid ((HB.out _).trans (hb.mono (HB.out _).size))
  have S2 := Lib.hid (S1.out.later hb)
  have l1 := S2.out.lt
  have q0 := S2.out.row.c0
  have q1 := S2.out.row.c1
  have q2 := S2.out.row.c2
  have q3 := S2.out.row.c3
  have q4 := S2.out.row.c4
  have q5 := S2.out.row.c5
  have f1 := S2.out.free 1
  have f2 := S2.out.free 2
  have f3 := S2.out.free 3
  have f4 := S2.out.free 4
  simp only [Nat.zero_add] at q1 q2 q3 q4 q5
  have HS : Hid (∀ (o : Nat) (v : Value), Below w.heap.size w (w1.setCell ⟨w.heap.size, o, none⟩ v)) := Lib.hid fun o v => HB1.out.setCell (Nat.le_refl _) v
  have HS2 : Hid (∀ (o o2 : Nat) (v v2 : Value), Below w.heap.size w ((w1.setCell ⟨w.heap.size, o, none⟩ v).setCell ⟨w.heap.size, o2, none⟩ v2)) := Lib.hid fun o o2 v v2 => (HB1.out.setCell (Nat.le_refl _) v).setCell (Nat.le_refl _) v2
  clear hb S1 S2 HB
  go_wp2_with fail
  all_goals
    go_ret
    exact ⟨ret_bool (by rw [HE.out]; clear HE; simp [*, len_beq]), by first | exact HS.out _ _ | exact HS2.out _ _ _ _⟩

theorem sound_any (a : Nd) (l : List V) (p : Option Addr) (cap : Nat) (w : World) :
    Calls Tryz.prog 42 #[.agg #[.int .u8 a.k, .int .i64 a.n, .int .i64 a.d, .bool a.t, .string a.s, .slice p l.length cap]] w fun e w' => e = .returned (.bool (sndB a l.length)) ∧ Below w.heap.size w w' := by
  by_cases h1 : a.k = 1
  · exact sound_one a l p cap w h1
  by_cases h2 : a.k = 2
  · exact sound_two a l p cap w h2
  by_cases h3 : a.k = 3
  · exact sound_three a l p cap w h3
  by_cases h4 : a.k = 4
  · exact sound_four a l p cap w h4
  exact sound_other a l p cap w h1 h2 h3 h4
end Go.Proofs.YtakjgjhjndiggaaGreatDoor
