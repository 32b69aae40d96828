/-
  What loose of package ratio hands back, for any string. What Parse of package ratio hands back, for any string.
-/
import Derived.Test.YtakjgjhjndiggaaGreatDoorZRatStr
import Derived.Test.YtakjgjhjndiggaaGreatDoorZRatDoorAll
namespace Go.Proofs.YtakjgjhjndiggaaGreatDoor
open Go.RowKit
open RM
set_option linter.unusedVariables false
set_option linter.unusedSimpArgs false

/-- The library's variable that its search reads holds some integer. -/
def Len (w : World) : Prop := ∃ m, w.cell? ⟨0, 0, none⟩ = some (.int .i64 m)
theorem Len.later {w w1 : World} (h : Len w) (hb : Below w.heap.size w w1) : Len w1 := by
  obtain ⟨m, hm⟩ := h
  have hlt : 0 < w.heap.size := by
    rcases Nat.lt_or_ge 0 w.heap.size with h | h
    · exact h
    · simp [World.cell?, Array.getElem?_eq_none h] at hm
  exact ⟨m, by rw [← hm]; unfold World.cell?; rw [hb.block _ hlt]⟩
theorem Len.of_shaped {w : World} (h : w.ShapedOpen Tryz.prog) : Len w := Tryz.laysM145.s1_3 w h

theorem cut_any (s sep : ByteArray) (hs : s.size < 4294967281) (w : World) (hl : Len w) :
    Calls Tryz.prog 125 #[.string s, .string sep] w fun e w' => e = .returned (.tuple #[.string ⟨(Lib.cut s.data.toList sep.data.toList).1.toArray⟩, .string ⟨(Lib.cut s.data.toList sep.data.toList).2.1.toArray⟩, .bool (Lib.cut s.data.toList sep.data.toList).2.2]) ∧ Below w.heap.size w w' := by
  obtain ⟨m, hm⟩ := hl
  refine (Any.strings_Cut { Tryz.laysM145 with } s sep m w hs hm).mono ?_
  rintro e w' ⟨he, n, rfl⟩
  exact ⟨he, Lib.below_grow _ w (Nat.le_refl _) n #[]⟩

theorem neg_setCell {w : World} {b : Nat} {x y : Value} {t : TypeId} (h : w.heap[b]? = some (.cells #[x, y] t (0, 0))) (v : Value) :
    (w.setCell ⟨b, 0, none⟩ v).heap[b]? = some (.cells #[v, y] t (0, 0)) := by
  simp only [World.setCell, Array.getElem?_modify, if_true, h]
  rfl

set_option maxHeartbeats 400000 in
theorem loose_x (s x y z : ByteArray) (f g : Bool) (n d : Int) (w : World) (hl : Len w)
    (hcut : ∀ w, Len w → Calls Tryz.prog 125 #[.string s, .string ⟨#[47]⟩] w fun e w' => e = .returned (.tuple #[.string x, .string y, .bool f]) ∧ Below w.heap.size w w')
    (hpre : ∀ w, Calls Tryz.prog 73 #[.string x, .string ⟨#[45]⟩] w fun e w' => e = .returned (.tuple #[.string z, .bool g]) ∧ w' = w)
    (hn : ∀ w, Calls Tryz.prog 126 #[.string z] w fun e w' => e = .returned (.int .i64 n) ∧ Below w.heap.size w w')
    (hd : ∀ w, Calls Tryz.prog 126 #[.string y] w fun e w' => e = .returned (.int .i64 d) ∧ Below w.heap.size w w') :
    Calls Tryz.prog 108 #[.string s] w fun e w' => e = .returned (.agg #[.int .i64 (if g = true then wrap64 (-n) else n), .int .i64 (if f = true then d else 1)]) ∧ Below w.heap.size w w' := by
  have K1 := Lib.hid hcut
  have K2 := Lib.hid hpre
  have K3 := Lib.hid hn
  have K4 := Lib.hid hd
  have HL := Lib.hid hl
  clear hcut hpre hn hd hl
  cases f
  case false =>
    cases g
    case false =>
      go_enter Tryz.func108, Tryz.ntmps108
      go_wp2_with fail
      have b0 : Below w.heap.size w (w.alloc (.cells #[.int .i64 0, .int .i64 0] 25)) := (Below.refl _ _).alloc (Nat.le_refl _) _
      refine (K1.out _ (HL.out.later b0)).mono ?_
      rintro e w1 ⟨rfl, hb⟩
      have B1 := Lib.hid (b0.trans (hb.mono b0.size))
      have E1 := Lib.hid (below_new hb (heap_alloc_new w (.cells #[.int .i64 0, .int .i64 0] 25)))
      clear hb b0
      go_wp2_with fail
      refine (K2.out _).mono ?_
      rintro e w2 ⟨rfl, rfl⟩
      go_wp2_with fail
      refine (K3.out _).mono ?_
      rintro e w3 ⟨rfl, hb⟩
      have B3 := Lib.hid (B1.out.trans (hb.mono B1.out.size))
      have E3 := Lib.hid (below_new hb E1.out)
      clear hb B1 E1
      have l3 := lt_of_block E3.out
      have p3 := cell_two0 E3.out
      have q3 := cell_two1 E3.out
      have f3 := free_two0 E3.out
      have g3 := free_two1 E3.out
      have hge : w.heap.size ≤ w3.heap.size := B3.out.size
      have hs3 : w.heap.size ≠ w3.heap.size := by omega
      have hs3b : w3.heap.size ≠ w.heap.size := by omega
      go_wp2_with fail
      refine bodyPost_ret (v := .agg #[.int .i64 n, .int .i64 1]) (by simp [results, Tryz.results108, go_sem, p3, q3, hs3, hs3b, l3]) rfl ⟨rfl, ?_⟩
      repeat (with_reducible (first | exact B3.out | refine Below.setCell ?_ (by first | exact Nat.le_refl _ | exact hge) _ | refine Below.alloc ?_ (by first | exact B3.out.size | (have := B3.out.size; simp; omega)) _))
    case true =>
      go_enter Tryz.func108, Tryz.ntmps108
      go_wp2_with fail
      have b0 : Below w.heap.size w (w.alloc (.cells #[.int .i64 0, .int .i64 0] 25)) := (Below.refl _ _).alloc (Nat.le_refl _) _
      refine (K1.out _ (HL.out.later b0)).mono ?_
      rintro e w1 ⟨rfl, hb⟩
      have B1 := Lib.hid (b0.trans (hb.mono b0.size))
      have E1 := Lib.hid (below_new hb (heap_alloc_new w (.cells #[.int .i64 0, .int .i64 0] 25)))
      clear hb b0
      go_wp2_with fail
      refine (K2.out _).mono ?_
      rintro e w2 ⟨rfl, rfl⟩
      go_wp2_with fail
      refine (K3.out _).mono ?_
      rintro e w3 ⟨rfl, hb⟩
      have B3 := Lib.hid (B1.out.trans (hb.mono B1.out.size))
      have E3 := Lib.hid (below_new hb E1.out)
      clear hb B1 E1
      have l3 := lt_of_block E3.out
      have p3 := cell_two0 E3.out
      have q3 := cell_two1 E3.out
      have f3 := free_two0 E3.out
      have g3 := free_two1 E3.out
      have hge : w.heap.size ≤ w3.heap.size := B3.out.size
      have hs3 : w.heap.size ≠ w3.heap.size := by omega
      have hs3b : w3.heap.size ≠ w.heap.size := by omega
      go_wp2_with fail
      refine bodyPost_ret (v := .agg #[.int .i64 (wrap64 (-n)), .int .i64 1]) (by simp [results, Tryz.results108, go_sem, p3, q3, hs3, hs3b, l3]) rfl ⟨rfl, ?_⟩
      repeat (with_reducible (first | exact B3.out | refine Below.setCell ?_ (by first | exact Nat.le_refl _ | exact hge) _ | refine Below.alloc ?_ (by first | exact B3.out.size | (have := B3.out.size; simp; omega)) _))
  case true =>
    cases g
    case false =>
      go_enter Tryz.func108, Tryz.ntmps108
      go_wp2_with fail
      have b0 : Below w.heap.size w (w.alloc (.cells #[.int .i64 0, .int .i64 0] 25)) := (Below.refl _ _).alloc (Nat.le_refl _) _
      refine (K1.out _ (HL.out.later b0)).mono ?_
      rintro e w1 ⟨rfl, hb⟩
      have B1 := Lib.hid (b0.trans (hb.mono b0.size))
      have E1 := Lib.hid (below_new hb (heap_alloc_new w (.cells #[.int .i64 0, .int .i64 0] 25)))
      clear hb b0
      go_wp2_with fail
      refine (K2.out _).mono ?_
      rintro e w2 ⟨rfl, rfl⟩
      go_wp2_with fail
      refine (K3.out _).mono ?_
      rintro e w3 ⟨rfl, hb⟩
      have B3 := Lib.hid (B1.out.trans (hb.mono B1.out.size))
      have E3 := Lib.hid (below_new hb E1.out)
      clear hb B1 E1
      have l3 := lt_of_block E3.out
      have p3 := cell_two0 E3.out
      have q3 := cell_two1 E3.out
      have f3 := free_two0 E3.out
      have g3 := free_two1 E3.out
      have hge : w.heap.size ≤ w3.heap.size := B3.out.size
      have hs3 : w.heap.size ≠ w3.heap.size := by omega
      have hs3b : w3.heap.size ≠ w.heap.size := by omega
      go_wp2_with fail
      have b5 : Below w.heap.size w (w3.alloc (.cells #[.int .i64 n, .int .i64 1] 25)) := (B3.out.alloc B3.out.size _)
      have e5 : (w3.alloc (.cells #[.int .i64 n, .int .i64 1] 25)).heap[w3.heap.size]? = some (.cells #[.int .i64 n, .int .i64 1] 25 (0, 0)) := heap_alloc_new w3 _
      have r5 : (w3.alloc (.cells #[.int .i64 n, .int .i64 1] 25)).heap[w.heap.size]? = some (.cells #[.int .i64 0, .int .i64 0] 25 (0, 0)) := heap_alloc_old E3.out _
      refine (K4.out _).mono ?_
      rintro e w6 ⟨rfl, hb⟩
      have B6 := Lib.hid (b5.trans (hb.mono b5.size))
      have E6 := Lib.hid (below_new hb e5)
      have R6 := Lib.hid (below_new hb r5)
      clear hb b5 e5 r5 l3 p3 q3 f3 g3 E3
      have l6 := lt_of_block E6.out
      have p6 := cell_two0 E6.out
      have q6 := cell_two1 E6.out
      have f6 := free_two0 E6.out
      have g6 := free_two1 E6.out
      have l7 := lt_of_block R6.out
      have p7 := cell_two0 R6.out
      have q7 := cell_two1 R6.out
      have f7 := free_two0 R6.out
      have g7 := free_two1 R6.out
      go_wp2_with fail
      refine bodyPost_ret (v := .agg #[.int .i64 n, .int .i64 d]) (by simp [results, Tryz.results108, go_sem, p6, q6, p7, q7, hs3, hs3b, l6, l7]) rfl ⟨rfl, ?_⟩
      repeat (with_reducible (first | exact B6.out | refine Below.setCell ?_ (by first | exact Nat.le_refl _ | exact hge) _ | refine Below.alloc ?_ (by first | exact B6.out.size | (have := B6.out.size; simp; omega)) _))
    case true =>
      go_enter Tryz.func108, Tryz.ntmps108
      go_wp2_with fail
      have b0 : Below w.heap.size w (w.alloc (.cells #[.int .i64 0, .int .i64 0] 25)) := (Below.refl _ _).alloc (Nat.le_refl _) _
      refine (K1.out _ (HL.out.later b0)).mono ?_
      rintro e w1 ⟨rfl, hb⟩
      have B1 := Lib.hid (b0.trans (hb.mono b0.size))
      have E1 := Lib.hid (below_new hb (heap_alloc_new w (.cells #[.int .i64 0, .int .i64 0] 25)))
      clear hb b0
      go_wp2_with fail
      refine (K2.out _).mono ?_
      rintro e w2 ⟨rfl, rfl⟩
      go_wp2_with fail
      refine (K3.out _).mono ?_
      rintro e w3 ⟨rfl, hb⟩
      have B3 := Lib.hid (B1.out.trans (hb.mono B1.out.size))
      have E3 := Lib.hid (below_new hb E1.out)
      clear hb B1 E1
      have l3 := lt_of_block E3.out
      have p3 := cell_two0 E3.out
      have q3 := cell_two1 E3.out
      have f3 := free_two0 E3.out
      have g3 := free_two1 E3.out
      have hge : w.heap.size ≤ w3.heap.size := B3.out.size
      have hs3 : w.heap.size ≠ w3.heap.size := by omega
      have hs3b : w3.heap.size ≠ w.heap.size := by omega
      go_wp2_with fail
      have b5 : Below w.heap.size w (w3.alloc (.cells #[.int .i64 (wrap64 (-n)), .int .i64 1] 25)) := (B3.out.alloc B3.out.size _)
      have e5 : (w3.alloc (.cells #[.int .i64 (wrap64 (-n)), .int .i64 1] 25)).heap[w3.heap.size]? = some (.cells #[.int .i64 (wrap64 (-n)), .int .i64 1] 25 (0, 0)) := heap_alloc_new w3 _
      have r5 : (w3.alloc (.cells #[.int .i64 (wrap64 (-n)), .int .i64 1] 25)).heap[w.heap.size]? = some (.cells #[.int .i64 0, .int .i64 0] 25 (0, 0)) := heap_alloc_old E3.out _
      refine (K4.out _).mono ?_
      rintro e w6 ⟨rfl, hb⟩
      have B6 := Lib.hid (b5.trans (hb.mono b5.size))
      have E6 := Lib.hid (below_new hb e5)
      have R6 := Lib.hid (below_new hb r5)
      clear hb b5 e5 r5 l3 p3 q3 f3 g3 E3
      have l6 := lt_of_block E6.out
      have p6 := cell_two0 E6.out
      have q6 := cell_two1 E6.out
      have f6 := free_two0 E6.out
      have g6 := free_two1 E6.out
      have l7 := lt_of_block R6.out
      have p7 := cell_two0 R6.out
      have q7 := cell_two1 R6.out
      have f7 := free_two0 R6.out
      have g7 := free_two1 R6.out
      go_wp2_with fail
      refine bodyPost_ret (v := .agg #[.int .i64 (wrap64 (-n)), .int .i64 d]) (by simp [results, Tryz.results108, go_sem, p6, q6, p7, q7, hs3, hs3b, l6, l7]) rfl ⟨rfl, ?_⟩
      repeat (with_reducible (first | exact B6.out | refine Below.setCell ?_ (by first | exact Nat.le_refl _ | exact hge) _ | refine Below.alloc ?_ (by first | exact B6.out.size | (have := B6.out.size; simp; omega)) _))

theorem loose_any (s : ByteArray) (hs : s.size < 4294967281) (w : World) (hl : Len w) :
    Calls Tryz.prog 108 #[.string s] w fun e w' => e = .returned (.agg #[.int .i64 (looseN s), .int .i64 (looseD s)]) ∧ Below w.heap.size w w' :=
  loose_x s _ _ _ _ _ _ _ w hl (fun w hl => cut_any s ⟨#[47]⟩ hs w hl) (fun w => Tryz.strings_CutPrefix _ ⟨#[45]⟩ w) (fun w => number_any _ w) (fun w => number_any _ w)
end Go.Proofs.YtakjgjhjndiggaaGreatDoor
namespace Go.Proofs.YtakjgjhjndiggaaGreatDoor
open Go.RowKit
open RM
set_option linter.unusedVariables false
set_option linter.unusedSimpArgs false

theorem bytes_of_list {a b : ByteArray} (h : a.toList = b.toList) : a = b := by
  rw [ByteArray.toList_eq, ByteArray.toList_eq] at h
  exact ByteArray.ext (Array.toList_inj.1 h)
theorem ret_agg {a b x y : Int} (h : a = x) (h' : b = y) : Ending.returned (.agg #[.int .i64 a, .int .i64 b]) = .returned (.agg #[.int .i64 x, .int .i64 y]) := by rw [h, h']

set_option maxHeartbeats 800000 in
theorem parse_step_bad (c ps : Nat) (s x : ByteArray) (n d e0 : Int) (he : (e0 == 0) = false) (w : World) (ht : Tab w) (hl : Len w) (hc : w.heap[c]? = some (.cells #[.int .i64 0] 114 (0, 0))) (hp : w.heap[ps]? = some (.cells #[.string s] 9 (0, 0)))
    (h1 : ∀ w, Len w → Calls Tryz.prog 108 #[.string s] w fun e w' => e = .returned (.agg #[.int .i64 n, .int .i64 d]) ∧ Below w.heap.size w w')
    (h2 : ∀ w, Tab w → Calls Tryz.prog 66 #[.agg #[.int .i64 n, .int .i64 d]] w fun e w' => e = .returned (.tuple #[.string x, .int .i64 e0]) ∧ Below w.heap.size w w') :
    Calls Tryz.prog 107 #[.pointer (some ⟨c, 0, none⟩), .pointer (some ⟨ps, 0, none⟩)] w fun e w' =>
      e = .returned (.agg #[.int .i64 n, .int .i64 d]) ∧ w'.heap[c]? = some (.cells #[.int .i64 12] 114 (0, 0)) ∧ Kept c w w' := by
  have m0 : (e0 != 0) = true := by rw [bne_iff_ne]; exact beq_eq_false_iff_ne.1 he
  have K1 := Lib.hid h1
  have K2 := Lib.hid h2
  have HT := Lib.hid ht
  have HL := Lib.hid hl
  have HC := Lib.hid hc
  have HP := Lib.hid hp
  have lc := lt_of_block hc
  have lp := lt_of_block hp
  have pp := cell_of_one hp
  clear h1 h2 ht hl hc hp
  go_enter Tryz.func107, Tryz.ntmps107
  go_wp2_with fail
  have b0 : Below w.heap.size w (w.alloc (.cells #[.int .i64 0, .int .i64 0] 25)) := (Below.refl _ _).alloc (Nat.le_refl _) _
  refine (K1.out _ (HL.out.later b0)).mono ?_
  rintro e w1 ⟨rfl, hb⟩
  have B1 := Lib.hid (b0.trans (hb.mono b0.size))
  have E1 := Lib.hid (below_new hb (heap_alloc_new w (.cells #[.int .i64 0, .int .i64 0] 25)))
  have P1 := Lib.hid (below_new hb (heap_alloc_old HP.out _))
  have C1 := Lib.hid (below_new hb (heap_alloc_old HC.out _))
  clear hb b0 HP HC
  go_wp2_with fail
  have b1 : Below w.heap.size w (w1.alloc (.cells #[.int .i64 n, .int .i64 d] 25)) := B1.out.alloc B1.out.size _
  refine (K2.out _ (Tab.later HT.out b1)).mono ?_
  rintro e w2 ⟨rfl, hb⟩
  have B2 := Lib.hid (b1.trans (hb.mono b1.size))
  have E2 := Lib.hid (below_new hb (heap_alloc_old E1.out _))
  have P2 := Lib.hid (below_new hb (heap_alloc_old P1.out _))
  have C2 := Lib.hid (below_new hb (heap_alloc_old C1.out _))
  have A2 := Lib.hid (below_new hb (heap_alloc_new w1 (.cells #[.int .i64 n, .int .i64 d] 25)))
  have hz := lt_of_block E1.out
  clear hb b1 B1 E1 P1 C1 HT HL K1 K2
  have l2 := lt_of_block E2.out
  have p2 := cell_two0 E2.out
  have q2 := cell_two1 E2.out
  have f2 := free_two0 E2.out
  have g2 := free_two1 E2.out
  have l3 := lt_of_block A2.out
  have p3 := cell_two0 A2.out
  have q3 := cell_two1 A2.out
  have l4 := lt_of_block P2.out
  have p4 := cell_of_one P2.out
  have l5 := lt_of_block C2.out
  have hs1 : w.heap.size ≠ w1.heap.size := by omega
  have hs2 : w1.heap.size ≠ w.heap.size := by omega
  have hs3 : c ≠ w.heap.size := by omega
  have hs4 : w.heap.size ≠ c := by omega
  have hs5 : c ≠ w1.heap.size := by omega
  have hs6 : w1.heap.size ≠ c := by omega
  go_wp2_with fail
  refine (keep_first c 12 _ (by exact C2.out)).mono ?_
  rintro e w3 ⟨rfl, rfl⟩
  go_wp2_with fail
  refine bodyPost_ret (v := .agg #[.int .i64 n, .int .i64 d]) (by simp [results, Tryz.results107, go_sem, p2, q2, p3, q3, hs1, hs2, hs3, hs4, hs5, hs6, l2, l3]) rfl ⟨rfl, ?_, ?_⟩
  · exact heap_set_other (heap_set_other (one_setCell C2.out) (by show c ≠ w.heap.size; omega) _) (by show c ≠ w.heap.size; omega) _
  · repeat (with_reducible (first | exact Kept.of_below B2.out | refine Kept.setCell ?_ (by first | exact .inl rfl | exact .inr (Nat.le_refl _)) _))

set_option maxHeartbeats 800000 in
theorem parse_step_other (c ps : Nat) (s x : ByteArray) (n d e0 : Int) (he : e0 = 0) (hx : ¬ x = s) (w : World) (ht : Tab w) (hl : Len w) (hc : w.heap[c]? = some (.cells #[.int .i64 0] 114 (0, 0))) (hp : w.heap[ps]? = some (.cells #[.string s] 9 (0, 0)))
    (h1 : ∀ w, Len w → Calls Tryz.prog 108 #[.string s] w fun e w' => e = .returned (.agg #[.int .i64 n, .int .i64 d]) ∧ Below w.heap.size w w')
    (h2 : ∀ w, Tab w → Calls Tryz.prog 66 #[.agg #[.int .i64 n, .int .i64 d]] w fun e w' => e = .returned (.tuple #[.string x, .int .i64 e0]) ∧ Below w.heap.size w w') :
    Calls Tryz.prog 107 #[.pointer (some ⟨c, 0, none⟩), .pointer (some ⟨ps, 0, none⟩)] w fun e w' =>
      e = .returned (.agg #[.int .i64 n, .int .i64 d]) ∧ w'.heap[c]? = some (.cells #[.int .i64 12] 114 (0, 0)) ∧ Kept c w w' := by
  subst he
  have hx2 : ¬ s = x := fun e => hx e.symm
  have hx3 : (x.toList == s.toList) = false := by rw [beq_eq_false_iff_ne]; exact fun e => hx (bytes_of_list e)
  have hx4 : (!x.toList == s.toList) = true := by rw [hx3]; rfl
  have hx5 : ¬ x.toList = s.toList := fun e => hx (bytes_of_list e)
  have K1 := Lib.hid h1
  have K2 := Lib.hid h2
  have HT := Lib.hid ht
  have HL := Lib.hid hl
  have HC := Lib.hid hc
  have HP := Lib.hid hp
  have lc := lt_of_block hc
  have lp := lt_of_block hp
  have pp := cell_of_one hp
  clear h1 h2 ht hl hc hp
  go_enter Tryz.func107, Tryz.ntmps107
  go_wp2_with fail
  have b0 : Below w.heap.size w (w.alloc (.cells #[.int .i64 0, .int .i64 0] 25)) := (Below.refl _ _).alloc (Nat.le_refl _) _
  refine (K1.out _ (HL.out.later b0)).mono ?_
  rintro e w1 ⟨rfl, hb⟩
  have B1 := Lib.hid (b0.trans (hb.mono b0.size))
  have E1 := Lib.hid (below_new hb (heap_alloc_new w (.cells #[.int .i64 0, .int .i64 0] 25)))
  have P1 := Lib.hid (below_new hb (heap_alloc_old HP.out _))
  have C1 := Lib.hid (below_new hb (heap_alloc_old HC.out _))
  clear hb b0 HP HC
  go_wp2_with fail
  have b1 : Below w.heap.size w (w1.alloc (.cells #[.int .i64 n, .int .i64 d] 25)) := B1.out.alloc B1.out.size _
  refine (K2.out _ (Tab.later HT.out b1)).mono ?_
  rintro e w2 ⟨rfl, hb⟩
  have B2 := Lib.hid (b1.trans (hb.mono b1.size))
  have E2 := Lib.hid (below_new hb (heap_alloc_old E1.out _))
  have P2 := Lib.hid (below_new hb (heap_alloc_old P1.out _))
  have C2 := Lib.hid (below_new hb (heap_alloc_old C1.out _))
  have A2 := Lib.hid (below_new hb (heap_alloc_new w1 (.cells #[.int .i64 n, .int .i64 d] 25)))
  have hz := lt_of_block E1.out
  clear hb b1 B1 E1 P1 C1 HT HL K1 K2
  have l2 := lt_of_block E2.out
  have p2 := cell_two0 E2.out
  have q2 := cell_two1 E2.out
  have f2 := free_two0 E2.out
  have g2 := free_two1 E2.out
  have l3 := lt_of_block A2.out
  have p3 := cell_two0 A2.out
  have q3 := cell_two1 A2.out
  have l4 := lt_of_block P2.out
  have p4 := cell_of_one P2.out
  have l5 := lt_of_block C2.out
  have hs1 : w.heap.size ≠ w1.heap.size := by omega
  have hs2 : w1.heap.size ≠ w.heap.size := by omega
  have hs3 : c ≠ w.heap.size := by omega
  have hs4 : w.heap.size ≠ c := by omega
  have hs5 : c ≠ w1.heap.size := by omega
  have hs6 : w1.heap.size ≠ c := by omega
  go_wp2_with fail
  refine (keep_first c 12 _ (by exact C2.out)).mono ?_
  rintro e w3 ⟨rfl, rfl⟩
  go_wp2_with fail
  refine bodyPost_ret (v := .agg #[.int .i64 n, .int .i64 d]) (by simp [results, Tryz.results107, go_sem, p2, q2, p3, q3, hs1, hs2, hs3, hs4, hs5, hs6, l2, l3]) rfl ⟨rfl, ?_, ?_⟩
  · exact heap_set_other (heap_set_other (one_setCell C2.out) (by show c ≠ w.heap.size; omega) _) (by show c ≠ w.heap.size; omega) _
  · repeat (with_reducible (first | exact Kept.of_below B2.out | refine Kept.setCell ?_ (by first | exact .inl rfl | exact .inr (Nat.le_refl _)) _))

set_option maxHeartbeats 800000 in
theorem parse_step_fine (c ps : Nat) (s x : ByteArray) (n d e0 : Int) (he : e0 = 0) (hx : x = s) (w : World) (ht : Tab w) (hl : Len w) (hc : w.heap[c]? = some (.cells #[.int .i64 0] 114 (0, 0))) (hp : w.heap[ps]? = some (.cells #[.string s] 9 (0, 0)))
    (h1 : ∀ w, Len w → Calls Tryz.prog 108 #[.string s] w fun e w' => e = .returned (.agg #[.int .i64 n, .int .i64 d]) ∧ Below w.heap.size w w')
    (h2 : ∀ w, Tab w → Calls Tryz.prog 66 #[.agg #[.int .i64 n, .int .i64 d]] w fun e w' => e = .returned (.tuple #[.string x, .int .i64 e0]) ∧ Below w.heap.size w w') :
    Calls Tryz.prog 107 #[.pointer (some ⟨c, 0, none⟩), .pointer (some ⟨ps, 0, none⟩)] w fun e w' =>
      e = .returned (.agg #[.int .i64 n, .int .i64 d]) ∧ w'.heap[c]? = some (.cells #[.int .i64 0] 114 (0, 0)) ∧ Kept c w w' := by
  subst he hx
  have K1 := Lib.hid h1
  have K2 := Lib.hid h2
  have HT := Lib.hid ht
  have HL := Lib.hid hl
  have HC := Lib.hid hc
  have HP := Lib.hid hp
  have lc := lt_of_block hc
  have lp := lt_of_block hp
  have pp := cell_of_one hp
  clear h1 h2 ht hl hc hp
  go_enter Tryz.func107, Tryz.ntmps107
  go_wp2_with fail
  have b0 : Below w.heap.size w (w.alloc (.cells #[.int .i64 0, .int .i64 0] 25)) := (Below.refl _ _).alloc (Nat.le_refl _) _
  refine (K1.out _ (HL.out.later b0)).mono ?_
  rintro e w1 ⟨rfl, hb⟩
  have B1 := Lib.hid (b0.trans (hb.mono b0.size))
  have E1 := Lib.hid (below_new hb (heap_alloc_new w (.cells #[.int .i64 0, .int .i64 0] 25)))
  have P1 := Lib.hid (below_new hb (heap_alloc_old HP.out _))
  have C1 := Lib.hid (below_new hb (heap_alloc_old HC.out _))
  clear hb b0 HP HC
  go_wp2_with fail
  have b1 : Below w.heap.size w (w1.alloc (.cells #[.int .i64 n, .int .i64 d] 25)) := B1.out.alloc B1.out.size _
  refine (K2.out _ (Tab.later HT.out b1)).mono ?_
  rintro e w2 ⟨rfl, hb⟩
  have B2 := Lib.hid (b1.trans (hb.mono b1.size))
  have E2 := Lib.hid (below_new hb (heap_alloc_old E1.out _))
  have P2 := Lib.hid (below_new hb (heap_alloc_old P1.out _))
  have C2 := Lib.hid (below_new hb (heap_alloc_old C1.out _))
  have A2 := Lib.hid (below_new hb (heap_alloc_new w1 (.cells #[.int .i64 n, .int .i64 d] 25)))
  have hz := lt_of_block E1.out
  clear hb b1 B1 E1 P1 C1 HT HL K1 K2
  have l2 := lt_of_block E2.out
  have p2 := cell_two0 E2.out
  have q2 := cell_two1 E2.out
  have f2 := free_two0 E2.out
  have g2 := free_two1 E2.out
  have l3 := lt_of_block A2.out
  have p3 := cell_two0 A2.out
  have q3 := cell_two1 A2.out
  have l4 := lt_of_block P2.out
  have p4 := cell_of_one P2.out
  have l5 := lt_of_block C2.out
  have hs1 : w.heap.size ≠ w1.heap.size := by omega
  have hs2 : w1.heap.size ≠ w.heap.size := by omega
  have hs3 : c ≠ w.heap.size := by omega
  have hs4 : w.heap.size ≠ c := by omega
  have hs5 : c ≠ w1.heap.size := by omega
  have hs6 : w1.heap.size ≠ c := by omega
  go_wp2_with fail
  refine bodyPost_ret (v := .agg #[.int .i64 n, .int .i64 d]) (by simp [results, Tryz.results107, go_sem, p2, q2, p3, q3, hs1, hs2, hs3, hs4, hs5, hs6, l2, l3]) rfl ⟨rfl, ?_, ?_⟩
  · exact heap_set_other (heap_set_other C2.out (by show c ≠ w.heap.size; omega) _) (by show c ≠ w.heap.size; omega) _
  · repeat (with_reducible (first | exact Kept.of_below B2.out | refine Kept.setCell ?_ (by first | exact .inl rfl | exact .inr (Nat.le_refl _)) _))

/-- How reading ends. -/
def parE (s : ByteArray) : Int := if vld (looseN s) (looseD s) = true ∧ textB (looseN s) (looseD s) = s then 0 else 12
theorem parse_step (c ps : Nat) (s : ByteArray) (hs : s.size < 4294967281) (w : World) (ht : Tab w) (hl : Len w) (hc : w.heap[c]? = some (.cells #[.int .i64 0] 114 (0, 0))) (hp : w.heap[ps]? = some (.cells #[.string s] 9 (0, 0))) :
    Calls Tryz.prog 107 #[.pointer (some ⟨c, 0, none⟩), .pointer (some ⟨ps, 0, none⟩)] w fun e w' =>
      e = .returned (.agg #[.int .i64 (looseN s), .int .i64 (looseD s)]) ∧ w'.heap[c]? = some (.cells #[.int .i64 (parE s)] 114 (0, 0)) ∧ Kept c w w' := by
  have h1 := fun w hl => loose_any s hs w hl
  have h2 := fun w ht => text_any (looseN s) (looseD s) w ht
  by_cases hv : vld (looseN s) (looseD s) = true
  · have e1 : okE (vld (looseN s) (looseD s)) = 0 := by rw [hv]; rfl
    have e2 : outS [(looseN s, looseD s)] (textB (looseN s) (looseD s)) 0 = textB (looseN s) (looseD s) := by simp [outS, errAll_one, hv]
    rw [e1, e2] at h2
    by_cases hx : textB (looseN s) (looseD s) = s
    · rw [show parE s = 0 by unfold parE; rw [if_pos ⟨hv, hx⟩]]
      exact parse_step_fine c ps s _ _ _ 0 rfl hx w ht hl hc hp h1 h2
    · rw [show parE s = 12 by unfold parE; rw [if_neg (fun h => hx h.2)]]
      exact parse_step_other c ps s _ _ _ 0 rfl hx w ht hl hc hp h1 h2
  · rw [show parE s = 12 by unfold parE; rw [if_neg (fun h => hv h.1)]]
    exact parse_step_bad c ps s _ _ _ _ (by rw [beq_eq_false_iff_ne]; simp [okE, hv]) w ht hl hc hp h1 h2

def parN (s : ByteArray) : Int := if parE s = 0 then looseN s else 0
def parD (s : ByteArray) : Int := if parE s = 0 then looseD s else 0
theorem par_out (s : ByteArray) : outN [] (looseN s) (parE s) = parN s ∧ outN [] (looseD s) (parE s) = parD s ∧ outE [] (parE s) = parE s := by
  simp [outN, outE, errAll_nil, parN, parD]

set_option maxHeartbeats 400000 in
theorem parse_any (s : ByteArray) (hs : s.size < 4294967281) (w : World) (ht : Tab w) (hl : Len w) :
    Calls Tryz.prog 77 #[.string s] w fun e w' =>
      e = .returned (.tuple #[.agg #[.int .i64 (parN s), .int .i64 (parD s)], .int .i64 (parE s)]) ∧ Below w.heap.size w w' := by
  have hmf : ∀ (fn : Fn) (first cap : Array Value) (w : World), (Instr.makeFunc fn first cap).run Tryz.prog w = .ok (.func fn first cap) w := fun _ _ _ _ => rfl
  have HT := Lib.hid ht
  have HL := Lib.hid hl
  clear ht hl
  go_enter Tryz.func77, Tryz.ntmps77
  go_wp2_with fail
  obtain ⟨W, hW⟩ : ∃ W, W = (w.alloc (.cells #[.string s] 9)).alloc (.cells #[.int .i64 0, .int .i64 0] 25) := ⟨_, rfl⟩
  have eS : W.heap[w.heap.size]? = some (.cells #[.string s] 9 (0, 0)) := by rw [hW]; exact heap_alloc_old (heap_alloc_new _ _) _
  have eR : W.heap[w.heap.size + 1]? = some (.cells #[.int .i64 0, .int .i64 0] 25 (0, 0)) := by
    have := heap_alloc_new (w.alloc (.cells #[.string s] 9)) (.cells #[.int .i64 0, .int .i64 0] 25)
    rw [hW]; simpa using this
  have eB : Below w.heap.size w W := by rw [hW]; exact ((Below.refl _ _).alloc (Nat.le_refl _) _).alloc (by simp) _
  have eT := HT.out.later eB
  have eL := HL.out.later eB
  rw [← hW]
  refine (calcR_none 107 #[.pointer (some ⟨w.heap.size, 0, none⟩)] (looseN s) (looseD s) (parE s) W (fun us v => by simp [go_sem]) ?_).mono ?_
  · intro _ wr hcalc
    refine (parse_step (W.heap.size + 1 + 1) _ s hs wr (eT.later hcalc.below) (eL.later hcalc.below) hcalc.hc ((hcalc.below.block _ (lt_of_block eS)).trans eS)).mono ?_
    rintro e w2 ⟨rfl, h1, h2⟩
    exact ⟨rfl, hcalc.of_kept h2 h1⟩
  rintro e w1 ⟨rfl, hb1⟩
  have HB := Lib.hid (eB.trans (hb1.mono eB.size))
  have e0 := below_new hb1 eR
  have l1 := lt_of_block e0
  have q5 := cell_two0 e0
  have q6 := cell_two1 e0
  have q7 := free_two0 e0
  have q8 := free_two1 e0
  obtain ⟨o1, o2, o3⟩ := par_out s
  rw [o1, o2, o3]
  clear hb1 eS eR eB eT eL e0 hW o1 o2 o3
  go_wp2_with fail
  refine bodyPost_ret (v := .tuple #[.agg #[.int .i64 (parN s), .int .i64 (parD s)], .int .i64 (parE s)]) (by simp [results, Tryz.results77, go_sem, q5, q6]) rfl ⟨rfl, ?_⟩
  exact (HB.out.setCell (by show w.heap.size ≤ w.heap.size + 1; omega) _).setCell (by show w.heap.size ≤ w.heap.size + 1; omega) _

/-- A valid ratio's text is read back. -/
theorem par_text {n d : Int} (hv : vld n d = true) : parE (textB n d) = 0 ∧ parN (textB n d) = n ∧ parD (textB n d) = d := by
  obtain ⟨h1, h2⟩ := loose_text hv
  have h3 : parE (textB n d) = 0 := by unfold parE; rw [h1, h2, if_pos ⟨hv, rfl⟩]
  exact ⟨h3, by unfold parN; rw [if_pos h3, h1], by unfold parD; rw [if_pos h3, h2]⟩
/-- What is read without error is a valid ratio of that text. -/
theorem par_fine {s : ByteArray} (h : parE s = 0) : vld (parN s) (parD s) = true ∧ textB (parN s) (parD s) = s := by
  have h' := h
  unfold parE at h'
  split at h'
  · rename_i hh
    unfold parN parD
    rw [if_pos h, if_pos h]; exact hh
  · simp at h'
theorem par_bad {s : ByteArray} (h : parE s ≠ 0) : parE s = 12 ∧ parN s = 0 ∧ parD s = 0 := by
  refine ⟨?_, by unfold parN; rw [if_neg h], by unfold parD; rw [if_neg h]⟩
  unfold parE at h ⊢
  split
  · rename_i hh; rw [if_pos hh] at h; exact absurd rfl h
  · rfl
end Go.Proofs.YtakjgjhjndiggaaGreatDoor
