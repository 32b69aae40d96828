/-
  The iterator over a path's steps: its contract.
-/
import Derived.Test.YtjladbgidodhbaaLabParse
import Derived.RangeFuncNested
import Derived.RangeFuncBound
import Derived.RangeFuncCalls
import Derived.RangeFuncLeaves
import Derived.RangeFuncBox
import Derived.Shelf.Abstract
import Derived.Shelf.RegionOpen
import Derived.WalkKit
import Derived.OwnWalkIn
import Derived.TacticsInMore
import Derived.LoopNIn
import Derived.LoopIn
import Derived.RegionIn
namespace Go.Proofs.Ytjladbgidodhbaa
open Go.RowKit Go.Shelf
open LM
set_option linter.unusedVariables false
set_option linter.unusedSimpArgs false
attribute [local go_sem] Oper.semAt_some

theorem splitA_len_pos (cur l : Bs) : 0 < (splitA cur l).length := List.length_pos_iff.2 (splitA_ne cur l)
/-- What has come, and what is still to come. -/
structure StepsAt (p : Bs) (pre : List Bs) (rest : Bs) (more : Bool) : Prop where
  on : more = true → pre ++ splitA [] rest = cutL p
  off : more = false → pre = cutL p
  len : rest.length ≤ 100000
theorem StepsAt.next {p : Bs} {pre : List Bs} {rest : Bs} (h : StepsAt p pre rest true) : StepsAt p (pre ++ [(Lib.cut rest [47]).1]) (Lib.cut rest [47]).2.1 (Lib.cut rest [47]).2.2 := by
  have h1 := h.on rfl
  rw [splitA_cut] at h1
  refine ⟨fun e => ?_, fun e => ?_, Nat.le_trans (cut_le rest 47).2 h.len⟩
  · rw [if_pos e] at h1; rw [← h1]; simp
  · rw [if_neg (by rw [e]; simp)] at h1; exact h1
theorem StepsAt.few {p : Bs} {pre : List Bs} {rest : Bs} (h : StepsAt p pre rest true) : pre.length < (cutL p).length := by
  rw [← h.on rfl, List.length_append]
  have := splitA_len_pos [] rest; omega
theorem StepsAt.pre {p : Bs} {pre : List Bs} {rest : Bs} {more : Bool} (h : StepsAt p pre rest more) : pre <+: cutL p := by
  cases more
  · rw [h.off rfl]; exact List.prefix_rfl
  · rw [← h.on rfl]; exact List.prefix_append _ _
/-- How much is still to come. -/
def leftV (rv mv : Value) : Nat := match mv, rv with
  | .bool true, .string r => r.size + 1
  | _, _ => 0
theorem leftV_on (r : Bs) : leftV (.string (bA r)) (.bool true) = r.length + 1 := by simp [leftV, bA_size]
theorem leftV_less (r : Bs) : leftV (.string (bA (Lib.cut r [47]).2.1)) (.bool (Lib.cut r [47]).2.2) < r.length + 1 := by
  cases h : (Lib.cut r [47]).2.2
  · simp [leftV]
  · rw [leftV_on]
    have := cut_shorter r h; omega
theorem steps_any (s : ByteArray) (w : World) : Calls Try.prog 34 #[.string s] w fun e w' => e = .returned (.func (.func 53) #[] #[.pointer (some ⟨w.heap.size, 0, none⟩)]) ∧ w' = w.alloc (.cells #[.string s] 58) := by
  go_enter Try.func34, Try.ntmps34
  go_wp2
  go_ret
  exact ⟨rfl, rfl⟩

/-- A text cut off at a length that none comes near. -/
def clip (x : Bs) : Bs := x.take 200000
theorem clip_len (x : Bs) : (clip x).length ≤ 200000 := by unfold clip; rw [List.length_take]; omega
theorem clip_eq {x : Bs} (h : x.length ≤ 200000) : clip x = x := List.take_of_length_le h
theorem abides_below {α : Type} {B : Nat} {J : α → World → Prop} (h : AbidesFrom B J) {a : α} {w w1 : World} (hj : J a w) (hb : Below w.heap.size w w1) : J a w1 :=
  h a w w1 none hj (below_grows hb none) (fun r e => by cases e)

theorem abides_drew {α : Type} {B : Nat} {J : α → World → Prop} (h : AbidesFrom B J) {a : α} {w : World} (hj : J a w) : J a w.drew :=
  h a w w.drew none hj ⟨rfl, rfl, rfl, Nat.le_refl _, fun _ _ _ => rfl⟩ (fun r e => by cases e)
def ItSays (p : Bs) (J Jx : List Bs → World → Prop) (e : Ending) (W' : World) : Prop := (∃ v, e = .returned v) ∧ ((∃ ys, ys = cutL p ∧ J ys W') ∨ (∃ pre, pre <+: cutL p ∧ Jx pre W'))

set_option maxRecDepth 100000 in
set_option maxHeartbeats 2000000 in
theorem steps1_in (n l Bp n₀ B : Nat) (s : ByteArray) (hs : s.size ≤ 100000) (hg : 0 < n₀) (J Jx : List Bs → World → Prop) (hJ : AbidesFrom B J) (hJx : AbidesFrom B Jx)
    (hY : ∀ pre x W1, J pre W1 → pre.length < (cutL (lA s)).length → YieldAt Fence.wide (n - 1) Try.prog l #[sV (clip x)] W1 fun e W' =>
      (e = .returned (.bool true) ∧ J (pre ++ [x]) W' ∧ Below n₀ W1 W') ∨ (e = .returned (.bool false) ∧ Jx (pre ++ [x]) W'))
    (W : World) (hn₀ : n₀ ≤ W.heap.size) (hc : W.cell? ⟨Bp, 0, none⟩ = some (.string s)) (hl : Len W) (h0 : J [] W) :
    CallsIn Fence.wide n Try.prog 53 #[.func (.yield l) #[] #[], .pointer (some ⟨Bp, 0, none⟩)] W (ItSays (lA s) J Jx) := by
  refine callsIn_of_wp Try.func53 rfl trivial ?_ rfl
  simp only [Try.ntmps53, List.size_toArray, List.length_cons, List.length_nil, Nat.reduceAdd, Nat.reduceSub, Array.replicate_succ, Array.replicate_zero, List.push_toArray, List.append_toArray, List.nil_append, List.cons_append]
  have HY := Lib.hid hY
  have HJ := Lib.hid hJ
  have HL := Lib.hid hl
  have H0 := Lib.hid h0
  clear hY hJ hl h0
  gi_wp2
  by_cases h0s : 0 < s.size
  · have hem := str_ne h0s
    have HS0 : Hid (StepsAt (lA s) [] (lA s) true) := Lib.hid ⟨fun _ => by rw [List.nil_append, cutL_ne (lA_ne h0s)], fun e => by simp at e, by rw [lA_len]; omega⟩
    gi_region
    gi_wp2
    gi_loopw [3, 4] (fun rv mv wr => ∃ (pre : List Bs) (rest : Bs) (more : Bool), rv = .string (bA rest) ∧ mv = .bool more ∧ StepsAt (lA s) pre rest more ∧ J pre wr ∧ Below n₀ W wr) (fun rv mv _ => leftV rv mv)
    case atStart => exact ⟨[], lA s, true, rfl, rfl, HS0.out, abides_drew HJ.out H0.out, (Below.refl _ _).drew⟩
    case round =>
      obtain ⟨pre, rest, more, rfl, rfl, hSt, hj, hB⟩ := hrel
      have HS := Lib.hid hSt
      have HJp := Lib.hid hj
      have HB := Lib.hid hB
      clear hSt hj hB
      cases more
      · gi_wp2
        go_end0
        exact ⟨⟨_, rfl⟩, .inl ⟨pre, HS.out.off rfl, HJp.out⟩⟩
      · have HN := Lib.hid HS.out.next
        have HF := Lib.hid HS.out.few
        have HM := Lib.hid (leftV_less rest)
        have hrl : (bA rest).size ≤ 200000 := by rw [bA_size]; have := HS.out.len; omega
        have K1 := Lib.hid (fun w hl => cut_lib (bA rest) 47 hrl w hl)
        rw [lA_bA] at K1
        obtain ⟨x, hx⟩ : ∃ x, (Lib.cut rest [47]).1 = x := ⟨_, rfl⟩
        obtain ⟨y, hy⟩ : ∃ y, (Lib.cut rest [47]).2.1 = y := ⟨_, rfl⟩
        obtain ⟨t, ht⟩ : ∃ t, (Lib.cut rest [47]).2.2 = t := ⟨_, rfl⟩
        have HCl : Hid (clip x = x) := Lib.hid (clip_eq (by rw [← hx]; have := (cut_le rest 47).1; have := HS.out.len; omega))
        rw [hx, hy, ht] at HN K1
        rw [hy, ht] at HM
        clear hx hy ht hrl
        have HLr := Lib.hid (HL.out.below hg HB.out)
        gi_wp2_with fail
        refine ⟨trivial, (fun h => by cases h), ?_⟩
        refine (callsIn_wide.2 (K1.out _ HLr.out)).mono ?_
        rintro e w1 ⟨rfl, hb⟩
        have HJ1 := Lib.hid (abides_below HJ.out HJp.out hb)
        have HB1 := Lib.hid (HB.out.trans (hb.mono (Nat.le_trans hn₀ HB.out.size)))
        clear hb
        have hY1 := HY.out pre x w1 HJ1.out HF.out
        rw [HCl.out] at hY1
        obtain ⟨fn, tmps, assign, body, hy, hR⟩ := hY1
        gi_wp2_with fail
        refine ⟨(fun h => by cases h), ?_⟩
        refine hR.mono ?_
        rintro e W3 (⟨rfl, hJ3, hk3⟩ | ⟨rfl, hJx3⟩)
        · have HJ3 := Lib.hid hJ3
          have HB3 := Lib.hid (HB1.out.trans hk3)
          clear hJ3 hk3 hR hy
          gi_wp2_with fail
          go_roundw
          case rel => exact ⟨pre ++ [x], y, t, rfl, rfl, HN.out, HJ3.out, HB3.out⟩
          case measure =>
            have := HM.out
            show leftV _ _ < leftV (.string (bA rest)) (.bool true)
            rw [leftV_on]; exact this
        · have HJ3 := Lib.hid hJx3
          clear hJx3 hR hy
          gi_wp2_with fail
          refine bodyPost_ret (results_none rfl _ _ _) rfl ?_
          refine ⟨⟨_, rfl⟩, .inr ⟨pre ++ [x], ?_, HJ3.out⟩⟩
          exact HN.out.pre
  · obtain rfl := str_nil h0s
    gi_region
    gi_wp2
    gi_loopw [3, 4] (fun rv mv wr => mv = .bool false ∧ J [] wr) (fun rv mv _ => 0)
    case atStart => exact ⟨rfl, abides_drew HJ.out H0.out⟩
    case round =>
      obtain ⟨rfl, hj⟩ := hrel
      have HJp := Lib.hid hj
      clear hj
      gi_wp2
      go_end0
      exact ⟨⟨_, rfl⟩, .inl ⟨[], rfl, HJp.out⟩⟩
end Go.Proofs.Ytjladbgidodhbaa
