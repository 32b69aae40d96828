/-
  What Order hands back: the package's.
-/
import Derived.Test.YtglnajjbbhokpaaDoorSeedDec
import Derived.Test.YtglnajjbbhokpaaDoorShelf
import Derived.Lib.AppendIntMem
import Derived.Lib.LaidTab
import Derived.BigRegion
import Derived.Laws.Pointers
namespace Go.Proofs.YtglnajjbbhokpaaDoor
open Go.RowKit
open SM
set_option linter.unusedVariables false
set_option linter.unusedSimpArgs false

/-- The table of powers of ten that the library's decimals are made with. -/
def Tab (w : World) : Prop := Lib.TabIs Tryd.prog w "internal/strconv.uint64pow10" .u64 Lib.pow10Tab
theorem tab_named : Tryd.prog.globalNamed "internal/strconv.uint64pow10" = some 0 := by kernel_rfl
theorem Tab.later {w w1 : World} (h : Tab w) (hb : Below w.heap.size w w1) : Tab w1 := by
  have hlt : 0 < w.heap.size := by
    unfold Tab Lib.TabIs World.var? at h
    simp only [tab_named, Option.bind_some] at h
    rcases Nat.lt_or_ge 0 w.heap.size with h' | h'
    · exact h'
    · simp [Array.getElem?_eq_none h'] at h
  exact var?_below hb tab_named hlt h
theorem itoa_any (n : Nat) (hn : n ≤ 1000) (w : World) (ht : Tab w) :
    Calls Tryd.prog 29 #[.int .i64 (n : Int)] w fun e w' => e = .returned (.string (bA (Lib.decDigits n))) ∧ Below w.heap.size w w' := by
  refine (Tryd.strconv_Itoa (n : Int) (by omega) (by omega) w ht).mono ?_
  rintro e w' ⟨he, k, os, rfl⟩
  rw [Lib.itoa_nonneg] at he
  exact ⟨he, Lib.below_grow _ w (Nat.le_refl _) k os⟩
theorem below_any (t : Nat) (h : t < 18446744073709551616) (i : Nat) (hi : i ≤ 1000) (w : World) (ht : Tab w) :
    Calls Tryd.prog 24 #[.int .u64 t, .int .i64 (i : Int)] w fun e w' => e = .returned (.int .u64 (numN (alongN t (Lib.decDigits i)))) ∧ Below w.heap.size w w' := by
  have HI := Lib.hid (itoa_any i hi w ht)
  have hs : (bA (Lib.decDigits i)).size ≤ 9223372036854775807 := by
    have h2 := Lib.itoa_length_le (i : Int) (by omega) (by omega)
    rw [Lib.itoa_nonneg] at h2
    rw [← lA_len, lA_bA]; omega
  have HA := Lib.hid (fun w => along_any t h _ hs w)
  have HN := Lib.hid (fun w => number_any _ (alongN_lt h (Lib.decDigits i)) w)
  rw [lA_bA] at HA
  generalize alongN t (Lib.decDigits i) = a at HA HN ⊢
  generalize bA (Lib.decDigits i) = s at HI HA
  clear hs
  go_enter Tryd.func24, Tryd.ntmps24
  go_wp2_with fail
  refine HI.out.mono ?_
  rintro e w1 ⟨rfl, hb⟩
  have HB := Lib.hid hb
  clear hb
  go_wp2_with (first | (go_at_call 23; refine (HA.out _).mono ?_; rintro e w2 ⟨rfl, rfl⟩) | (go_at_call 27; refine (HN.out _).mono ?_; rintro e w2 ⟨rfl, rfl⟩))
  go_ret
  exact ⟨rfl, HB.out⟩

/-- A cell stays a cell behind a store. -/
theorem cell_still {w : World} {p q : Addr} {x v : Value} (h : w.cell? q = some v) : ∃ v', (w.setCell p x).cell? q = some v' := by
  by_cases e : p = q
  · subst e; exact ⟨x, World.cell?_setCell_same w p x h⟩
  · exact ⟨v, (World.cell?_setCell_other w p q x e).trans h⟩
/-- The numbers of an order. -/
def ordF (s : Int) (p : Bs) (i : Nat) : Nat := ofN s (p ++ 47 :: Lib.decDigits i)
theorem ordF_eq (s : Int) (p : Bs) (i : Nat) : ordF s p i = numN (alongN (alongN (alongN (begN s) p) [47]) (Lib.decDigits i)) := by
  unfold ordF ofN
  rw [alongN_app, ← alongN_app _ [47]]; rfl
def castL (l : List Nat) : List Int := l.map Int.ofNat
theorem castL_length (l : List Nat) : (castL l).length = l.length := by simp [castL]
theorem castL_get {l : List Nat} {i : Nat} (h : i < l.length) : (castL l)[i]'(by rw [castL_length]; exact h) = (l[i] : Int) := by simp [castL]
theorem castL_swap {l : List Nat} {i k : Nat} (hi : i < l.length) (hk : k < l.length) : castL (swapL l i k) = ((castL l).set i (l[k] : Int)).set k (l[i] : Int) := by
  unfold castL swapL
  rw [List.map_set, List.map_set]
  simp [List.getD, hi, hk]
/-- The first numbers, and noughts. -/
def upL (n k : Nat) : List Int := (List.range n).map fun i => if i < k then (i : Int) else 0
theorem upL_length (n k : Nat) : (upL n k).length = n := by simp [upL]
theorem upL_zero (n : Nat) : upL n 0 = List.replicate n 0 := by
  apply List.ext_getElem
  · simp [upL]
  · intro i h1 h2; simp [upL]
theorem upL_succ {n k : Nat} : upL n (k + 1) = (upL n k).set k (k : Int) := by
  apply List.ext_getElem
  · simp [upL]
  · intro i h1 h2
    rw [upL_length] at h1
    rw [List.getElem_set]
    simp only [upL, List.getElem_map, List.getElem_range]
    by_cases e : k = i
    · subst e; simp
    · rw [if_neg e]
      by_cases h : i < k
      · rw [if_pos h, if_pos (by omega)]
      · rw [if_neg h, if_neg (by omega)]
theorem upL_all (n : Nat) : upL n n = castL (List.range n) := by
  apply List.ext_getElem
  · simp [upL, castL]
  · intro i h1 h2
    rw [upL_length] at h1
    simp [upL, castL, h1]
/-- Where the exchanges stand. -/
structure OrdAt (w : World) (g : Nat) (f : Nat → Nat) (n : Nat) (j : Nat) (l : List Nat) (wr : World) : Prop where
  len : l.length = n
  few : j < n ∨ j = 0
  run : runO f j l = ordN f n
  below : Below w.heap.size w wr
  row : RowI wr g (castL l)
theorem ordN_run (f : Nat → Nat) (n : Nat) : runO f (n - 1) (List.range n) = ordN f n := rfl
theorem runO_none (f : Nat → Nat) (l : List Nat) : runO f 0 l = l := rfl
theorem runO_go (f : Nat → Nat) {j : Nat} (h : 0 < j) (l : List Nat) : runO f (j - 1) (swapL l j (f j % (j + 1))) = runO f j l := by
  obtain ⟨i, rfl⟩ : ∃ i, j = i + 1 := ⟨j - 1, by omega⟩
  rfl
theorem ordN_none (f : Nat → Nat) : ordN f 0 = [] := rfl
theorem OrdAt.drew {w : World} {g : Nat} {f : Nat → Nat} {n j : Nat} {l : List Nat} {wr : World} (h : OrdAt w g f n j l wr) : OrdAt w g f n j l wr.drew :=
  ⟨h.len, h.few, h.run, ⟨h.below.os, h.below.tape, h.below.output, h.below.size, h.below.block⟩, h.row.of_block rfl⟩
theorem OrdAt.start {w wr : World} {g : Nat} {f : Nat → Nat} {n : Nat} (hb : Below w.heap.size w wr) (hr : RowI wr g (castL (List.range n))) : OrdAt w g f n (n - 1) (List.range n) wr :=
  ⟨List.length_range, by omega, ordN_run f n, hb, hr⟩
theorem OrdAt.fin {w wr : World} {g : Nat} {f : Nat → Nat} {n : Nat} {l : List Nat} (h : OrdAt w g f n 0 l wr) : l = ordN f n := (runO_none f l).symm.trans h.run
theorem OrdAt.run2 {w wr : World} {g : Nat} {f : Nat → Nat} {n j : Nat} {l : List Nat} (h : OrdAt w g f n j l wr) (hj : 0 < j) : runO f (j - 1) (swapL l j (f j % (j + 1))) = ordN f n := (runO_go f hj l).trans h.run
theorem RowI.swap {w : World} {g : Nat} {l : List Nat} (h : RowI w g (castL l)) {i k : Nat} (hi : i < l.length) (hk : k < l.length) :
    RowI ((w.setCell ⟨g, i, none⟩ (.int .i64 (l[k] : Int))).setCell ⟨g, k, none⟩ (.int .i64 (l[i] : Int))) g (castL (swapL l i k)) := by
  rw [castL_swap hi hk]
  exact (h.set (by rw [castL_length]; exact hi) _).set (by rw [List.length_set, castL_length]; exact hk) _
end Go.Proofs.YtglnajjbbhokpaaDoor
