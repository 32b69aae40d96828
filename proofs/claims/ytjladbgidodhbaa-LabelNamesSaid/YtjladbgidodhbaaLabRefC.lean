/-
  Slices of strings in memory; what the reference's Cut hands back.
-/
import Derived.Test.YtjladbgidodhbaaLabRefB
import Derived.OwnWalk
import Derived.Maps.AppendAt
namespace Go.Proofs.Ytjladbgidodhbaa
open Go.RowKit
open LM
set_option linter.unusedVariables false
set_option linter.unusedSimpArgs false

/-- A string as a value. -/
abbrev sV (l : Bs) : Value := .string (bA l)
/-- Block g holds the strings xs, from its head. -/
structure Row (w : World) (g cap : Nat) (xs : List Bs) : Prop where
  cell : ∀ k (h : k < xs.length), w.cell? ⟨g, k, none⟩ = some (sV xs[k])
  le : xs.length ≤ cap
  max : cap ≤ maxLen
  lt : g < w.heap.size
theorem Row.later {w w1 : World} {g cap : Nat} {xs : List Bs} (h : Row w g cap xs) (hb : Below w.heap.size w w1) : Row w1 g cap xs :=
  ⟨fun k hk => (hb.cell (p := ⟨g, k, none⟩) h.lt).trans (h.cell k hk), h.le, h.max, Nat.lt_of_lt_of_le h.lt hb.size⟩
theorem Row.take {w : World} {g cap : Nat} {xs : List Bs} (h : Row w g cap xs) (n : Nat) : Row w g cap (xs.take n) :=
  ⟨fun k hk => by rw [List.getElem_take]; exact h.cell k (by rw [List.length_take] at hk; omega), by rw [List.length_take]; have := h.le; omega, h.max, h.lt⟩
theorem Row.at {w : World} {g cap : Nat} {xs : List Bs} (h : Row w g cap xs) (k : Nat) (hk : k < xs.length) : w.cell? ⟨g, k, none⟩ = some (sV xs[k]) := h.cell k hk
/-- The slice value v reads as xs. -/
def Strs (w : World) (v : Value) (xs : List Bs) : Prop := (v = .slice none 0 0 ∧ xs = []) ∨ ∃ g cap, v = .slice (some ⟨g, 0, none⟩) xs.length cap ∧ Row w g cap xs
theorem Strs.later {w w1 : World} {v : Value} {xs : List Bs} (h : Strs w v xs) (hb : Below w.heap.size w w1) : Strs w1 v xs := by
  rcases h with h | ⟨g, cap, h1, h2⟩
  · exact .inl h
  · exact .inr ⟨g, cap, h1, h2.later hb⟩
theorem Strs.some {w : World} {v : Value} {xs : List Bs} (h : Strs w v xs) (hx : xs ≠ []) : ∃ g cap, v = .slice (some ⟨g, 0, none⟩) xs.length cap ∧ Row w g cap xs := by
  rcases h with h | h
  · exact absurd h.2 hx
  · exact h
theorem row_of_owned {w : World} {base n : Nat} {v : Value} {xs : List Bs} (h : w.ownsRow base 9 1 v n (xs.map sV)) (hn : n ≠ 0) : ∃ g cap, v = .slice (some ⟨g, 0, none⟩) xs.length cap ∧ base ≤ g ∧ Row w g cap xs := by
  obtain ⟨h1, h2⟩ := h
  rw [List.length_map] at h1
  rcases h2 with ⟨_, h0⟩ | ⟨g, cap, cur, rfl, hb, hg, h3, h4, h5, h6⟩
  · exact absurd h0 hn
  · obtain rfl : n = xs.length := by omega
    refine ⟨g, cap, rfl, hb, ⟨fun k hk => ?_, h3, h4, (Array.getElem?_eq_some_iff.1 hg).1⟩⟩
    rw [cell_of_row w g k cur _ (0, 0) hg]
    have e : (xs.map sV)[k]? = some (sV xs[k]) := by rw [List.getElem?_map, List.getElem?_eq_getElem hk]; rfl
    rw [← h6, List.getElem?_take, if_pos (by omega)] at e
    simpa using e
theorem strs_of_owned {w : World} {base n : Nat} {v : Value} {xs : List Bs} (h : w.ownsRow base 9 1 v n (xs.map sV)) (hn : v = .slice none 0 0 ↔ xs = []) : Strs w v xs := by
  by_cases hx : xs = []
  · exact .inl ⟨hn.2 hx, hx⟩
  · have := h.1
    rw [List.length_map] at this
    obtain ⟨g, cap, h1, _, h2⟩ := row_of_owned h (fun e => by subst e; simp at this; exact hx this)
    exact .inr ⟨g, cap, h1, h2⟩

theorem info_str : (Try.prog.info? 9).map (fun i => (i.zero, i.size, i.bytes)) = some (some (.string ByteArray.empty), 1, 16) := by kernel_rfl

/-- Where Cut's loop stands. -/
structure CutAt (p : Bs) (k fr : Nat) (xs : List Bs) : Prop where
  lo : fr ≤ k
  hi : k ≤ p.length + 1
  go : k ≤ p.length → xs ++ splitA ((p.drop fr).take (k - fr)) (p.drop k) = splitA [] p
  fin : k = p.length + 1 → xs = splitA [] p
theorem CutAt.start (p : Bs) : CutAt p 0 0 [] := ⟨Nat.le_refl _, by omega, fun _ => by simp, fun h => by omega⟩
theorem CutAt.few {p : Bs} {k fr : Nat} {xs : List Bs} (h : CutAt p k fr xs) : xs.length ≤ p.length + 1 := by
  have hl := splitA_length [] p
  have hc : p.count 47 ≤ p.length := List.count_le_length
  by_cases hk : k ≤ p.length
  · have := congrArg List.length (h.go hk)
    rw [List.length_append] at this; omega
  · rw [h.fin (by have := h.hi; omega)]; omega
theorem part_more {s : ByteArray} {fr k : Nat} (h1 : fr ≤ k) (h2 : k < s.size) : ((lA s).drop fr).take (k + 1 - fr) = ((lA s).drop fr).take (k - fr) ++ [s[k]] := by
  have hl : k < (lA s).length := by rw [lA_len]; exact h2
  rw [show k + 1 - fr = (k - fr) + 1 by omega, List.take_add_one]
  congr 1
  rw [List.getElem?_drop, show fr + (k - fr) = k by omega, List.getElem?_eq_getElem hl, lA_get s k h2 hl]
  rfl
theorem CutAt.skip {s : ByteArray} {k fr : Nat} {xs : List Bs} (h : CutAt (lA s) k fr xs) (hk : k < s.size) (hb : s[k] ≠ 47) : CutAt (lA s) (k + 1) fr xs := by
  have hl := lA_len s
  have hlo := h.lo
  refine ⟨by omega, by omega, fun _ => ?_, fun e => by omega⟩
  have := h.go (by omega)
  rw [lA_drop s k hk] at this
  rw [part_more hlo hk, ← this]
  simp only [splitA, if_neg hb]
theorem CutAt.cut {s : ByteArray} {k fr : Nat} {xs : List Bs} (h : CutAt (lA s) k fr xs) (hk : k < s.size) (hb : s[k] = 47) : CutAt (lA s) (k + 1) (k + 1) (xs ++ [lA (s.extract fr k)]) := by
  have hl := lA_len s
  have hlo := h.lo
  refine ⟨by omega, by omega, fun _ => ?_, fun e => by omega⟩
  have := h.go (by omega)
  rw [lA_drop s k hk, hb, splitA_slash] at this
  rw [← this, lA_ext]; simp
theorem CutAt.done {s : ByteArray} {fr : Nat} {xs : List Bs} (h : CutAt (lA s) s.size fr xs) : CutAt (lA s) (s.size + 1) (s.size + 1) (xs ++ [lA (s.extract fr s.size)]) := by
  have hl := lA_len s
  have hlo := h.lo
  refine ⟨by omega, by omega, fun e => by omega, fun _ => ?_⟩
  have := h.go (by omega)
  have e0 : (lA s).drop s.size = [] := List.drop_of_length_le (by omega)
  rw [e0] at this
  rw [← this, lA_ext]; simp [splitA]

/-- How Cut ends. -/
def CutEnd (xs : List Bs) (w : World) (e : Ending) (w' : World) : Prop := ∃ v, e = .returned v ∧ Strs w' v xs ∧ Below w.heap.size w w'
theorem refcut_nil (w : World) : Calls Try.prog 36 #[.string ByteArray.empty] w fun e w' => e = .returned (.slice none 0 0) ∧ w = w' := by
  go_enter Try.func36, Try.ntmps36
  go_wp2
  go_ret
  exact ⟨rfl, rfl⟩
theorem grown_step {w wr w1 : World} {v : Value} {n : Nat} {xs : List Value} {e : TypeId} {tmp : Obj} (hB : Below w.heap.size w wr) (hown : wr.ownsRow w.heap.size e 1 v n xs) (hg : (wr.alloc tmp).grownBy w1 v.ownBlock) : Below w.heap.size w w1 :=
  (hB.alloc hB.size tmp).grown hg (by simp; have := hB.size; omega) fun j ej => (hown.lt j ej).1
theorem lA_ne {s : ByteArray} (h : 0 < s.size) : lA s ≠ [] := fun e => by have := lA_len s; rw [e, List.length_nil] at this; omega
theorem str_ne {s : ByteArray} (h : 0 < s.size) : s.toList.isEmpty = false := by
  have := lA_ne h
  unfold lA at this
  rw [ByteArray.toList_eq]
  cases he : s.data.toList with
  | nil => exact absurd he this
  | cons a b => rfl
set_option maxHeartbeats 1000000 in
theorem refcut_some (s : ByteArray) (hs : s.size ≤ 100000) (h0 : 0 < s.size) (w : World) : Calls Try.prog 36 #[.string s] w (CutEnd (cutL (lA s)) w) := by
  have HC : Hid (cutL (lA s) = splitA [] (lA s)) := Lib.hid (cutL_ne (lA_ne h0))
  obtain ⟨i0, hi, hz0, hz1, hz2⟩ := info_parts info_str
  have hem := str_ne h0
  have hml : maxLen = 9223372036854775807 := rfl
  have HM := Lib.hid hml
  clear hml
  go_enter Try.func36, Try.ntmps36
  go_wp2
  go_loopw [3, 4, 5] (fun v fv iv wr => ∃ (k fr : Nat) (xs : List Bs), fv = .int .i64 fr ∧ iv = .int .i64 k ∧ CutAt (lA s) k fr xs ∧ wr.ownsRow w.heap.size 9 1 v xs.length (xs.map sV) ∧ Below w.heap.size w wr) (fun _ _ iv _ => s.size + 1 - (intOf iv).toNat)
  case atStart => exact ⟨0, 0, [], rfl, rfl, CutAt.start _, World.ownsRow_nil _ _ _ _, Below.refl _ _⟩
  case round =>
    obtain ⟨k, fr, xs, rfl, rfl, hC, hown, hB⟩ := hrel
    have n1 := hC.lo
    have n2 := hC.hi
    rw [lA_len] at n2
    have n3 := hC.few
    rw [lA_len] at n3
    have HCu := Lib.hid hC
    have HB := Lib.hid hB
    clear hC hB
    by_cases hk : k ≤ s.size
    · by_cases hlt : k < s.size
      · by_cases hb : s[k] = 47
        · have HG := Lib.hid (HCu.out.cut hlt hb)
          have h3 : ((s[k].toNat : Int) == 47) = true := by rw [hb]; rfl
          clear hb HCu
          have hsz := HB.out.size
          have hrun : ∀ wx, (Instr.slice 9 (.string s) (some (.int .i64 (fr : Int))) (some (.int .i64 (k : Int))) none).run Try.prog wx = .ok (.string (s.extract fr k)) wx := fun wx => run_sub s _ _ fr k (by omega) (by omega) (by omega) (by omega) wx
          have h4 : ((k : Int) == s.size) = false := by rw [beq_eq_false_iff_ne]; omega
          go_wp2_with (at_builtin; refine wpList_append_own _ rfl _ _ 22 rfl w.heap.size 9 i0 (.string ByteArray.empty) 1 16 Try.underlying22 hi hz0 hz1 hz2 rfl (by decide) _ _ _ rfl (hown.alloc _) ⟨wr.heap.size, 0, none⟩ 1 1 [.string (s.extract fr k)] rfl rfl (cell_one_new _ _ _) (by simp [Value.oneCell']) (by rw [HM.out]; omega) (by omega) (by simp; omega) ?_; intro v' w1 hown' hgrow _)
          go_roundw
          case rel => exact ⟨k + 1, k + 1, _, by go_num, by go_num, HG.out, by rw [List.map_append, List.length_append]; exact hown', grown_step HB.out hown hgrow⟩
          case measure => simp [intOf]; omega
        · have HG := Lib.hid (HCu.out.skip hlt hb)
          have h3 : ((s[k].toNat : Int) == 47) = false := by rw [beq_eq_false_iff_ne]; intro e; exact hb (UInt8.toNat_inj.1 (by simpa using Int.ofNat.inj e))
          have h4 : ((k : Int) == s.size) = false := by rw [beq_eq_false_iff_ne]; omega
          clear hb HCu
          go_wp2_with fail
          go_roundw
          case rel => exact ⟨k + 1, fr, xs, by rfl, by go_num, HG.out, hown, HB.out⟩
          case measure => simp [intOf]; omega
      · obtain rfl : k = s.size := by omega
        have HG := Lib.hid HCu.out.done
        clear HCu
        have hsz := HB.out.size
        have hrun : ∀ wx, (Instr.slice 9 (.string s) (some (.int .i64 (fr : Int))) (some (.int .i64 (s.size : Int))) none).run Try.prog wx = .ok (.string (s.extract fr s.size)) wx := fun wx => run_sub s _ _ fr s.size (by omega) (by omega) (by omega) (by omega) wx
        go_wp2_with (at_builtin; refine wpList_append_own _ rfl _ _ 22 rfl w.heap.size 9 i0 (.string ByteArray.empty) 1 16 Try.underlying22 hi hz0 hz1 hz2 rfl (by decide) _ _ _ rfl (hown.alloc _) ⟨wr.heap.size, 0, none⟩ 1 1 [.string (s.extract fr s.size)] rfl rfl (cell_one_new _ _ _) (by simp [Value.oneCell']) (by rw [HM.out]; omega) (by omega) (by simp; omega) ?_; intro v' w1 hown' hgrow _)
        go_roundw
        case rel => exact ⟨s.size + 1, s.size + 1, _, by go_num, by go_num, HG.out, by rw [List.map_append, List.length_append]; exact hown', grown_step HB.out hown hgrow⟩
        case measure => simp [intOf]
    · have hx := HCu.out.fin (by rw [lA_len]; omega)
      subst hx
      have hk2 : (s.size : Int) < k := by omega
      clear hk n1 n2 n3 hi hz0 hz1 hz2
      obtain ⟨g, cap, hv, _, hR⟩ := row_of_owned hown (by rw [splitA_length]; omega)
      have HR := Lib.hid hR
      have HV := Lib.hid hv
      clear hR hv hown HCu
      go_wp2_with fail
      go_ret
      exact ⟨_, rfl, by rw [HC.out]; exact .inr ⟨g, cap, HV.out, HR.out⟩, HB.out⟩
end Go.Proofs.Ytjladbgidodhbaa
