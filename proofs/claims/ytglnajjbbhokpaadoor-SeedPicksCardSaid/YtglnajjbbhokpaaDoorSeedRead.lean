/-
  Lists of numbers in memory; the reference's Sum and Decimal.
-/
import Derived.Test.YtglnajjbbhokpaaDoorSeedCalc
import Derived.Lib.ItoaMem
import Derived.Lib.ItoaLen
namespace Go.Proofs.YtglnajjbbhokpaaDoor
open Go.RowKit
open SM
set_option linter.unusedVariables false
set_option linter.unusedSimpArgs false

/-- A slice's numbers, which may be none. -/
inductive Ints (w : World) : Value → List Int → Prop
  | none (p : Option Addr) (cap : Nat) : Ints w (.slice p 0 cap) []
  | some (b off cap : Nat) (l : List Int) (hpos : 0 < l.length) (hb : b < w.heap.size)
      (h : ∀ i, (h : i < l.length) → w.cell? ⟨b, off + i, Option.none⟩ = Option.some (.int .i64 l[i])) :
      Ints w (.slice (Option.some ⟨b, off, Option.none⟩) l.length cap) l
theorem Ints.later {w w1 : World} {v : Value} {l : List Int} (h : Ints w v l) (hb : Below w.heap.size w w1) : Ints w1 v l := by
  cases h with
  | none p cap => exact .none p cap
  | some b off cap _ hpos hlt hx =>
    exact .some b off cap l hpos (Nat.lt_of_lt_of_le hlt hb.size) fun i hi => (hb.cell (p := ⟨b, off + i, Option.none⟩) hlt).trans (hx i hi)
theorem Ints.slice {w : World} {v : Value} {l : List Int} (h : Ints w v l) : ∃ p cap, v = .slice p l.length cap := by
  cases h with
  | none p cap => exact ⟨p, cap, rfl⟩
  | some b off cap _ _ _ _ => exact ⟨_, cap, rfl⟩

theorem Ints.at {w : World} {v : Value} {l : List Int} (h : Ints w v l) {k : Nat} (hk : k < l.length) :
    ∃ b off cap, v = .slice (Option.some ⟨b, off, Option.none⟩) l.length cap ∧ w.cell? ⟨b, off + k, Option.none⟩ = Option.some (.int .i64 l[k]) ∧ b < w.heap.size := by
  cases h with
  | none p cap => simp at hk
  | some b off cap _ _ hb hx => exact ⟨b, off, cap, rfl, hx k hk, hb⟩
/-- A number of one of Go's ints. -/
def i64B (x : Int) : Prop := -9223372036854775808 ≤ x ∧ x ≤ 9223372036854775807

/-- Where the reference's Sum stands. -/
structure SumAt (l : List Int) (k : Nat) (n : Int) : Prop where
  hi : k ≤ l.length
  few : ∀ x ∈ l.take k, 0 ≤ x ∧ x ≤ 1000000000
  val : n = sumI (l.take k)
theorem SumAt.start (l : List Int) : SumAt l 0 0 := ⟨Nat.zero_le _, by simp, rfl⟩
theorem SumAt.step {l : List Int} {k : Nat} {n : Int} (h : SumAt l k n) (hk : k < l.length) (h0 : 0 ≤ l[k]) (h1 : l[k] ≤ 1000000000) : SumAt l (k + 1) (n + l[k]) := by
  refine ⟨hk, ?_, by rw [sumI_take_succ hk, h.val]⟩
  intro x hx
  rw [List.take_add_one, List.getElem?_eq_getElem hk, List.mem_append] at hx
  rcases hx with hx | hx
  · exact h.few x hx
  · simp at hx; subst hx; exact ⟨h0, h1⟩
theorem SumAt.range {l : List Int} {k : Nat} {n : Int} (h : SumAt l k n) (hl : l.length ≤ 200) : 0 ≤ n ∧ n ≤ 200000000000 := by
  have h1 := sumI_nonneg (allB_iff.2 fun x hx => (h.few x hx).1)
  have h2 := sumI_few (c := 1000000000) (by omega) fun x hx => (h.few x hx).2
  have h3 : (l.take k).length ≤ 200 := by rw [List.length_take]; omega
  rw [h.val]
  omega
theorem SumAt.fin {l : List Int} {n : Int} (h : SumAt l l.length n) (hl : l.length ≤ 200) : allB l = true ∧ n = sumI l := by
  have h1 := h.few
  have h2 := h.val
  rw [List.take_length] at h1 h2
  exact ⟨allB_iff.2 fun x hx => (h1 x hx).1, h2⟩
theorem sumN_big {l : List Int} (h : 1000000000 < sumI l) : sumN l = 0 := sumN_not (wOk_big (k := l.length) (by rw [List.take_length]; exact h))
theorem sumN_good {l : List Int} (hl : l.length ≤ 200) (ha : allB l = true) (h : sumI l ≤ 1000000000) : sumN l = sumI l := by
  have h0 := sumI_nonneg ha
  unfold sumN; split
  · rfl
  · rename_i hw
    rcases Int.lt_or_le 0 (sumI l) with h1 | h1
    · exact absurd (wOk_iff.2 ⟨hl, ha, h1, h⟩) hw
    · omega
theorem sumN_elem {l : List Int} {k : Nat} (h : k < l.length) (hn : 1000000000 < l[k]) : sumN l = 0 := by
  cases hw : wOk l
  · exact sumN_not hw
  · exfalso
    have h2 := wOk_iff.1 hw
    have h3 := sumI_take_succ h
    have h4 := sumI_nonneg (allB_take h2.2.1 k)
    have h5 := sumI_take h2.2.1 (k + 1)
    omega

set_option maxHeartbeats 400000 in
theorem refsum_any (v : Value) (l : List Int) (hmax : l.length ≤ 9223372036854775807) (w : World) (hv : Ints w v l) :
    Calls Tryd.prog 16 #[v] w fun e w' => e = .returned (.int .i64 (sumN l)) ∧ w = w' := by
  cases hv with
  | none p cap =>
    have HZ : Hid (sumN [] = 0) := Lib.hid rfl
    go_enter Tryd.func16, Tryd.ntmps16
    go_wp2_with fail
    go_loop [3, 4] (fun n i => n = .int .i64 0 ∧ i = .int .i64 0) (fun _ _ => 0)
    case atStart => exact ⟨rfl, rfl⟩
    case round =>
      obtain ⟨rfl, rfl⟩ := hrel
      go_wp2_with fail
      go_ret
      exact ⟨rfl, rfl⟩
  | some b off cap _ hpos hb h =>
    by_cases hlen : 200 < l.length
    · have HZ := Lib.hid (sumN_not (wOk_len hlen))
      have c1 : (200 : Int) < (l.length : Int) := by omega
      clear h
      go_enter Tryd.func16, Tryd.ntmps16
      go_wp2_with fail
      go_ret
      exact ⟨ret_int HZ.out.symm, rfl⟩
    · have HB := Lib.hid h
      have c1 : ¬ (200 : Int) < (l.length : Int) := by omega
      clear h
      go_enter Tryd.func16, Tryd.ntmps16
      go_wp2_with fail
      go_loop [3, 4] (fun n i => ∃ (k : Nat) (x : Int), i = .int .i64 k ∧ n = .int .i64 x ∧ SumAt l k x) (fun _ i => l.length - (intOf i).toNat)
      case atStart => exact ⟨0, 0, rfl, rfl, SumAt.start l⟩
      case round =>
        obtain ⟨k, x, rfl, rfl, hS⟩ := hrel
        have HS := Lib.hid hS
        have n1 := hS.hi
        obtain ⟨n2, n3⟩ := hS.range (by omega)
        clear hS
        by_cases hlt : k < l.length
        · have e1 := HB.out k hlt
          by_cases h0 : l[k] < 0
          · have HZ := Lib.hid (sumN_not (wOk_neg hlt h0))
            generalize l[k] = y at e1 h0
            go_wp2_with fail
            go_ret
            exact ⟨ret_int HZ.out.symm, rfl⟩
          · by_cases h1 : 1000000000 < l[k]
            · have HZ := Lib.hid (sumN_elem hlt h1)
              generalize l[k] = y at e1 h0 h1
              go_wp2_with fail
              go_ret
              exact ⟨ret_int HZ.out.symm, rfl⟩
            · have HG := Lib.hid (HS.out.step hlt (by omega) (by omega))
              generalize l[k] = y at e1 h0 h1 HG
              go_wp2_with fail
              go_round
              case rel => exact ⟨k + 1, x + y, by go_num, rfl, HG.out⟩
              case measure => simp [intOf]; omega
        · obtain rfl : k = l.length := by omega
          obtain ⟨ha, he⟩ := HS.out.fin (by omega)
          have HA := Lib.hid ha
          have HE := Lib.hid he
          clear ha he
          by_cases h1 : 1000000000 < x
          · have HZ := Lib.hid (sumN_big (HE.out ▸ h1))
            go_wp2_with fail
            go_ret
            exact ⟨ret_int HZ.out.symm, rfl⟩
          · have HZ := Lib.hid (sumN_good (by omega) HA.out (HE.out ▸ Int.not_lt.1 h1))
            go_wp2_with fail
            go_ret
            exact ⟨ret_int (by rw [HZ.out, HE.out]), rfl⟩
end Go.Proofs.YtglnajjbbhokpaaDoor
