/-
  What loose of package ratio hands back, for any string.
-/
import Derived.Test.YtchjkjhkmhkjeaaDoorRatStr
import Derived.Test.YtchjkjhkmhkjeaaDoorRatSum
namespace Go.Proofs.YtchjkjhkmhkjeaaDoor
open Go.RowKit
open RM
set_option linter.unusedVariables false
set_option linter.unusedSimpArgs false

/-- The library's variable that its search reads holds some integer. -/
def Len (w : World) : Prop := ∃ m, w.cell? ⟨1, 0, none⟩ = some (.int .i64 m)
theorem Len.later {w w1 : World} (h : Len w) (hb : Below w.heap.size w w1) : Len w1 := by
  obtain ⟨m, hm⟩ := h
  have hlt : 1 < w.heap.size := by
    rcases Nat.lt_or_ge 1 w.heap.size with h | h
    · exact h
    · simp [World.cell?, Array.getElem?_eq_none h] at hm
  exact ⟨m, by rw [← hm]; unfold World.cell?; rw [hb.block _ hlt]⟩
theorem Len.of_shaped {w : World} (h : w.ShapedOpen Tryd.prog) : Len w := Tryd.laysM145.s1_3 w h

theorem cut_any (s sep : ByteArray) (hs : s.size < 4294967281) (w : World) (hl : Len w) :
    Calls Tryd.prog 59 #[.string s, .string sep] w fun e w' => e = .returned (.tuple #[.string ⟨(Lib.cut s.data.toList sep.data.toList).1.toArray⟩, .string ⟨(Lib.cut s.data.toList sep.data.toList).2.1.toArray⟩, .bool (Lib.cut s.data.toList sep.data.toList).2.2]) ∧ Below w.heap.size w w' := by
  obtain ⟨m, hm⟩ := hl
  refine (Any.strings_Cut { Tryd.laysM145 with } s sep m w hs hm).mono ?_
  rintro e w' ⟨he, n, rfl⟩
  exact ⟨he, Lib.below_grow _ w (Nat.le_refl _) n #[]⟩

theorem neg_setCell {w : World} {b : Nat} {x y : Value} {t : TypeId} (h : w.heap[b]? = some (.cells #[x, y] t (0, 0))) (v : Value) :
    (w.setCell ⟨b, 0, none⟩ v).heap[b]? = some (.cells #[v, y] t (0, 0)) := by
  simp only [World.setCell, Array.getElem?_modify, if_true, h]
  rfl

set_option maxHeartbeats 400000 in
theorem loose_x (s x y z : ByteArray) (f g : Bool) (n d : Int) (w : World) (hl : Len w)
    (hcut : ∀ w, Len w → Calls Tryd.prog 59 #[.string s, .string ⟨#[47]⟩] w fun e w' => e = .returned (.tuple #[.string x, .string y, .bool f]) ∧ Below w.heap.size w w')
    (hpre : ∀ w, Calls Tryd.prog 60 #[.string x, .string ⟨#[45]⟩] w fun e w' => e = .returned (.tuple #[.string z, .bool g]) ∧ w' = w)
    (hn : ∀ w, Calls Tryd.prog 61 #[.string z] w fun e w' => e = .returned (.int .i64 n) ∧ Below w.heap.size w w')
    (hd : ∀ w, Calls Tryd.prog 61 #[.string y] w fun e w' => e = .returned (.int .i64 d) ∧ Below w.heap.size w w') :
    Calls Tryd.prog 38 #[.string s] w fun e w' => e = .returned (.agg #[.int .i64 (if g = true then wrap64 (-n) else n), .int .i64 (if f = true then d else 1)]) ∧ Below w.heap.size w w' := by
  have K1 := Lib.hid hcut
  have K2 := Lib.hid hpre
  have K3 := Lib.hid hn
  have K4 := Lib.hid hd
  have HL := Lib.hid hl
  clear hcut hpre hn hd hl
  cases f
  case false =>
    cases g
    case false =>
      go_enter Tryd.func38, Tryd.ntmps38
      go_wp2_with fail
      have b0 : Below w.heap.size w (w.alloc (.cells #[.int .i64 0, .int .i64 0] 23)) := (Below.refl _ _).alloc (Nat.le_refl _) _
      refine (K1.out _ (HL.out.later b0)).mono ?_
      rintro e w1 ⟨rfl, hb⟩
      have B1 := Lib.hid (b0.trans (hb.mono b0.size))
      have E1 := Lib.hid (below_new hb (heap_alloc_new w (.cells #[.int .i64 0, .int .i64 0] 23)))
      clear hb b0
      go_wp2_with fail
      refine (K2.out _).mono ?_
      rintro e w2 ⟨rfl, rfl⟩
      go_wp2_with fail
      refine (K3.out _).mono ?_
      rintro e w3 ⟨rfl, hb⟩
      have B3 := Lib.hid (B1.out.trans (hb.mono B1.out.size))
      have E3 := Lib.hid (below_new hb E1.out)
      clear hb B1 E1
      have l3 := lt_of_block E3.out
      have p3 := cell_two0 E3.out
      have q3 := cell_two1 E3.out
      have f3 := free_two0 E3.out
      have g3 := free_two1 E3.out
      have hge : w.heap.size ≤ w3.heap.size := B3.out.size
      have hs3 : w.heap.size ≠ w3.heap.size := by omega
      have hs3b : w3.heap.size ≠ w.heap.size := by omega
      go_wp2_with fail
      refine bodyPost_ret (v := .agg #[.int .i64 n, .int .i64 1]) (by simp [results, Tryd.results38, go_sem, p3, q3, hs3, hs3b, l3]) rfl ⟨rfl, ?_⟩
      repeat (with_reducible (first | exact B3.out | refine Below.setCell ?_ (by first | exact Nat.le_refl _ | exact hge) _ | refine Below.alloc ?_ (by first | exact B3.out.size | (have := B3.out.size; simp; omega)) _))
    case true =>
      go_enter Tryd.func38, Tryd.ntmps38
      go_wp2_with fail
      have b0 : Below w.heap.size w (w.alloc (.cells #[.int .i64 0, .int .i64 0] 23)) := (Below.refl _ _).alloc (Nat.le_refl _) _
      refine (K1.out _ (HL.out.later b0)).mono ?_
      rintro e w1 ⟨rfl, hb⟩
      have B1 := Lib.hid (b0.trans (hb.mono b0.size))
      have E1 := Lib.hid (below_new hb (heap_alloc_new w (.cells #[.int .i64 0, .int .i64 0] 23)))
      clear hb b0
      go_wp2_with fail
      refine (K2.out _).mono ?_
      rintro e w2 ⟨rfl, rfl⟩
      go_wp2_with fail
      refine (K3.out _).mono ?_
      rintro e w3 ⟨rfl, hb⟩
      have B3 := Lib.hid (B1.out.trans (hb.mono B1.out.size))
      have E3 := Lib.hid (below_new hb E1.out)
      clear hb B1 E1
      have l3 := lt_of_block E3.out
      have p3 := cell_two0 E3.out
      have q3 := cell_two1 E3.out
      have f3 := free_two0 E3.out
      have g3 := free_two1 E3.out
      have hge : w.heap.size ≤ w3.heap.size := B3.out.size
      have hs3 : w.heap.size ≠ w3.heap.size := by omega
      have hs3b : w3.heap.size ≠ w.heap.size := by omega
      go_wp2_with fail
      refine bodyPost_ret (v := .agg #[.int .i64 (wrap64 (-n)), .int .i64 1]) (by simp [results, Tryd.results38, go_sem, p3, q3, hs3, hs3b, l3]) rfl ⟨rfl, ?_⟩
      repeat (with_reducible (first | exact B3.out | refine Below.setCell ?_ (by first | exact Nat.le_refl _ | exact hge) _ | refine Below.alloc ?_ (by first | exact B3.out.size | (have := B3.out.size; simp; omega)) _))
  case true =>
    cases g
    case false =>
      go_enter Tryd.func38, Tryd.ntmps38
      go_wp2_with fail
      have b0 : Below w.heap.size w (w.alloc (.cells #[.int .i64 0, .int .i64 0] 23)) := (Below.refl _ _).alloc (Nat.le_refl _) _
      refine (K1.out _ (HL.out.later b0)).mono ?_
      rintro e w1 ⟨rfl, hb⟩
      have B1 := Lib.hid (b0.trans (hb.mono b0.size))
      have E1 := Lib.hid (below_new hb (heap_alloc_new w (.cells #[.int .i64 0, .int .i64 0] 23)))
      clear hb b0
      go_wp2_with fail
      refine (K2.out _).mono ?_
      rintro e w2 ⟨rfl, rfl⟩
      go_wp2_with fail
      refine (K3.out _).mono ?_
      rintro e w3 ⟨rfl, hb⟩
      have B3 := Lib.hid (B1.out.trans (hb.mono B1.out.size))
      have E3 := Lib.hid (below_new hb E1.out)
      clear hb B1 E1
      have l3 := lt_of_block E3.out
      have p3 := cell_two0 E3.out
      have q3 := cell_two1 E3.out
      have f3 := free_two0 E3.out
      have g3 := free_two1 E3.out
      have hge : w.heap.size ≤ w3.heap.size := B3.out.size
      have hs3 : w.heap.size ≠ w3.heap.size := by omega
      have hs3b : w3.heap.size ≠ w.heap.size := by omega
      go_wp2_with fail
      have b5 : Below w.heap.size w (w3.alloc (.cells #[.int .i64 n, .int .i64 1] 23)) := (B3.out.alloc B3.out.size _)
      have e5 : (w3.alloc (.cells #[.int .i64 n, .int .i64 1] 23)).heap[w3.heap.size]? = some (.cells #[.int .i64 n, .int .i64 1] 23 (0, 0)) := heap_alloc_new w3 _
      have r5 : (w3.alloc (.cells #[.int .i64 n, .int .i64 1] 23)).heap[w.heap.size]? = some (.cells #[.int .i64 0, .int .i64 0] 23 (0, 0)) := heap_alloc_old E3.out _
      refine (K4.out _).mono ?_
      rintro e w6 ⟨rfl, hb⟩
      have B6 := Lib.hid (b5.trans (hb.mono b5.size))
      have E6 := Lib.hid (below_new hb e5)
      have R6 := Lib.hid (below_new hb r5)
      clear hb b5 e5 r5 l3 p3 q3 f3 g3 E3
      have l6 := lt_of_block E6.out
      have p6 := cell_two0 E6.out
      have q6 := cell_two1 E6.out
      have f6 := free_two0 E6.out
      have g6 := free_two1 E6.out
      have l7 := lt_of_block R6.out
      have p7 := cell_two0 R6.out
      have q7 := cell_two1 R6.out
      have f7 := free_two0 R6.out
      have g7 := free_two1 R6.out
      go_wp2_with fail
      refine bodyPost_ret (v := .agg #[.int .i64 n, .int .i64 d]) (by simp [results, Tryd.results38, go_sem, p6, q6, p7, q7, hs3, hs3b, l6, l7]) rfl ⟨rfl, ?_⟩
      repeat (with_reducible (first | exact B6.out | refine Below.setCell ?_ (by first | exact Nat.le_refl _ | exact hge) _ | refine Below.alloc ?_ (by first | exact B6.out.size | (have := B6.out.size; simp; omega)) _))
    case true =>
      go_enter Tryd.func38, Tryd.ntmps38
      go_wp2_with fail
      have b0 : Below w.heap.size w (w.alloc (.cells #[.int .i64 0, .int .i64 0] 23)) := (Below.refl _ _).alloc (Nat.le_refl _) _
      refine (K1.out _ (HL.out.later b0)).mono ?_
      rintro e w1 ⟨rfl, hb⟩
      have B1 := Lib.hid (b0.trans (hb.mono b0.size))
      have E1 := Lib.hid (below_new hb (heap_alloc_new w (.cells #[.int .i64 0, .int .i64 0] 23)))
      clear hb b0
      go_wp2_with fail
      refine (K2.out _).mono ?_
      rintro e w2 ⟨rfl, rfl⟩
      go_wp2_with fail
      refine (K3.out _).mono ?_
      rintro e w3 ⟨rfl, hb⟩
      have B3 := Lib.hid (B1.out.trans (hb.mono B1.out.size))
      have E3 := Lib.hid (below_new hb E1.out)
      clear hb B1 E1
      have l3 := lt_of_block E3.out
      have p3 := cell_two0 E3.out
      have q3 := cell_two1 E3.out
      have f3 := free_two0 E3.out
      have g3 := free_two1 E3.out
      have hge : w.heap.size ≤ w3.heap.size := B3.out.size
      have hs3 : w.heap.size ≠ w3.heap.size := by omega
      have hs3b : w3.heap.size ≠ w.heap.size := by omega
      go_wp2_with fail
      have b5 : Below w.heap.size w (w3.alloc (.cells #[.int .i64 (wrap64 (-n)), .int .i64 1] 23)) := (B3.out.alloc B3.out.size _)
      have e5 : (w3.alloc (.cells #[.int .i64 (wrap64 (-n)), .int .i64 1] 23)).heap[w3.heap.size]? = some (.cells #[.int .i64 (wrap64 (-n)), .int .i64 1] 23 (0, 0)) := heap_alloc_new w3 _
      have r5 : (w3.alloc (.cells #[.int .i64 (wrap64 (-n)), .int .i64 1] 23)).heap[w.heap.size]? = some (.cells #[.int .i64 0, .int .i64 0] 23 (0, 0)) := heap_alloc_old E3.out _
      refine (K4.out _).mono ?_
      rintro e w6 ⟨rfl, hb⟩
      have B6 := Lib.hid (b5.trans (hb.mono b5.size))
      have E6 := Lib.hid (below_new hb e5)
      have R6 := Lib.hid (below_new hb r5)
      clear hb b5 e5 r5 l3 p3 q3 f3 g3 E3
      have l6 := lt_of_block E6.out
      have p6 := cell_two0 E6.out
      have q6 := cell_two1 E6.out
      have f6 := free_two0 E6.out
      have g6 := free_two1 E6.out
      have l7 := lt_of_block R6.out
      have p7 := cell_two0 R6.out
      have q7 := cell_two1 R6.out
      have f7 := free_two0 R6.out
      have g7 := free_two1 R6.out
      go_wp2_with fail
      refine bodyPost_ret (v := .agg #[.int .i64 (wrap64 (-n)), .int .i64 d]) (by simp [results, Tryd.results38, go_sem, p6, q6, p7, q7, hs3, hs3b, l6, l7]) rfl ⟨rfl, ?_⟩
      repeat (with_reducible (first | exact B6.out | refine Below.setCell ?_ (by first | exact Nat.le_refl _ | exact hge) _ | refine Below.alloc ?_ (by first | exact B6.out.size | (have := B6.out.size; simp; omega)) _))

theorem loose_any (s : ByteArray) (hs : s.size < 4294967281) (w : World) (hl : Len w) :
    Calls Tryd.prog 38 #[.string s] w fun e w' => e = .returned (.agg #[.int .i64 (looseN s), .int .i64 (looseD s)]) ∧ Below w.heap.size w w' :=
  loose_x s _ _ _ _ _ _ _ w hl (fun w hl => cut_any s ⟨#[47]⟩ hs w hl) (fun w => Tryd.strings_CutPrefix _ ⟨#[45]⟩ w) (fun w => number_any _ w) (fun w => number_any _ w)
end Go.Proofs.YtchjkjhkmhkjeaaDoor
