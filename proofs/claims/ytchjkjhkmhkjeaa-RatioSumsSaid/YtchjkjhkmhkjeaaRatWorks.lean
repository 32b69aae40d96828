/-
  The walk of RatioWorks: the package and the reference hand back the same, so that every test goes the way to true.
-/
import Derived.Test.YtchjkjhkmhkjeaaRatRefOps
import Derived.Deep.RegionWith
import Derived.Deep.DeepCutAuto
namespace Go.Proofs.Ytchjkjhkmhkjeaa
open Go.RowKit
open RM
set_option linter.unusedVariables false
set_option linter.unusedSimpArgs false

theorem cell_two0 {w : World} {b : Nat} {x y : Value} {t : TypeId} (h : w.heap[b]? = some (.cells #[x, y] t (0, 0))) : w.cell? ⟨b, 0, none⟩ = some x := by simp [World.cell?, h]
theorem cell_two1 {w : World} {b : Nat} {x y : Value} {t : TypeId} (h : w.heap[b]? = some (.cells #[x, y] t (0, 0))) : w.cell? ⟨b, 1, none⟩ = some y := by simp [World.cell?, h]
theorem free_two0 {w : World} {b : Nat} {x y : Value} {t : TypeId} (h : w.heap[b]? = some (.cells #[x, y] t (0, 0))) : w.frozen? ⟨b, 0, none⟩ = false := by simp [World.frozen?, h]
theorem free_two1 {w : World} {b : Nat} {x y : Value} {t : TypeId} (h : w.heap[b]? = some (.cells #[x, y] t (0, 0))) : w.frozen? ⟨b, 1, none⟩ = false := by simp [World.frozen?, h]
theorem below_new {w w1 : World} {b : Nat} {x : Obj} (hb : Below w.heap.size w w1) (h : w.heap[b]? = some x) : w1.heap[b]? = some x := (hb.block _ (lt_of_block h)).trans h

/-- The four variables of the law in a later world. -/
structure Four (w0 : World) (pc pd : Nat) (an ad bn bd cn cd dn dd : Int) (w : World) : Prop where
  old : Below w0.heap.size w0 w
  a : w.heap[w0.heap.size]? = some (.cells #[.int .i64 an, .int .i64 ad] 23 (0, 0))
  b : w.heap[w0.heap.size + 1]? = some (.cells #[.int .i64 bn, .int .i64 bd] 23 (0, 0))
  c : w.heap[pc]? = some (.cells #[.int .i64 cn, .int .i64 cd] 23 (0, 0))
  d : w.heap[pd]? = some (.cells #[.int .i64 dn, .int .i64 dd] 23 (0, 0))

theorem Four.later {w0 : World} {pc pd : Nat} {an ad bn bd cn cd dn dd : Int} {w w1 : World} (h : Four w0 pc pd an ad bn bd cn cd dn dd w) (hb : Below w.heap.size w w1) : Four w0 pc pd an ad bn bd cn cd dn dd w1 :=
  ⟨h.old.trans (hb.mono h.old.size), below_new hb h.a, below_new hb h.b, below_new hb h.c, below_new hb h.d⟩
theorem Four.drew {w0 : World} {pc pd : Nat} {an ad bn bd cn cd dn dd : Int} {w : World} (h : Four w0 pc pd an ad bn bd cn cd dn dd w) : Four w0 pc pd an ad bn bd cn cd dn dd w.drew :=
  ⟨h.old.drew, h.a, h.b, h.c, h.d⟩
theorem Four.setC {w0 : World} {pc pd : Nat} {an ad bn bd cn cd dn dd : Int} {w : World} (h : Four w0 pc pd an ad bn bd cn cd dn dd w) (h1 : w0.heap.size + 1 < pc) (h2 : pc < pd) (x y : Int) :
    Four w0 pc pd an ad bn bd x y dn dd ((w.setCell ⟨pc, 0, none⟩ (.int .i64 x)).setCell ⟨pc, 1, none⟩ (.int .i64 y)) :=
  ⟨(h.old.setCell (by show w0.heap.size ≤ pc; omega) _).setCell (by show w0.heap.size ≤ pc; omega) _,
   heap_set_other (heap_set_other h.a (by show w0.heap.size ≠ pc; omega) _) (by show w0.heap.size ≠ pc; omega) _,
   heap_set_other (heap_set_other h.b (by show w0.heap.size + 1 ≠ pc; omega) _) (by show w0.heap.size + 1 ≠ pc; omega) _,
   two_setCell h.c _ _,
   heap_set_other (heap_set_other h.d (by show pd ≠ pc; omega) _) (by show pd ≠ pc; omega) _⟩
theorem Four.setD {w0 : World} {pc pd : Nat} {an ad bn bd cn cd dn dd : Int} {w : World} (h : Four w0 pc pd an ad bn bd cn cd dn dd w) (h1 : w0.heap.size + 1 < pc) (h2 : pc < pd) (x y : Int) :
    Four w0 pc pd an ad bn bd cn cd x y ((w.setCell ⟨pd, 0, none⟩ (.int .i64 x)).setCell ⟨pd, 1, none⟩ (.int .i64 y)) :=
  ⟨(h.old.setCell (by show w0.heap.size ≤ pd; omega) _).setCell (by show w0.heap.size ≤ pd; omega) _,
   heap_set_other (heap_set_other h.a (by show w0.heap.size ≠ pd; omega) _) (by show w0.heap.size ≠ pd; omega) _,
   heap_set_other (heap_set_other h.b (by show w0.heap.size + 1 ≠ pd; omega) _) (by show w0.heap.size + 1 ≠ pd; omega) _,
   heap_set_other (heap_set_other h.c (by show pc ≠ pd; omega) _) (by show pc ≠ pd; omega) _,
   two_setCell h.d _ _⟩

set_option maxRecDepth 100000 in
set_option maxHeartbeats 4000000 in
theorem works_walk (an ad bn bd : Int) (w : World) :
    Calls Try.prog 3 #[.agg #[.int .i64 an, .int .i64 ad], .agg #[.int .i64 bn, .int .i64 bd]] w fun e w' => e = .returned (.bool true) ∧ Below w.heap.size w w' := by
  have eA0 : ((w.alloc (.cells #[.int .i64 an, .int .i64 ad] 23)).alloc (.cells #[.int .i64 bn, .int .i64 bd] 23)).heap[w.heap.size]? = some (.cells #[.int .i64 an, .int .i64 ad] 23 (0, 0)) := heap_alloc_old (heap_alloc_new _ _) _
  have eB0 : ((w.alloc (.cells #[.int .i64 an, .int .i64 ad] 23)).alloc (.cells #[.int .i64 bn, .int .i64 bd] 23)).heap[w.heap.size + 1]? = some (.cells #[.int .i64 bn, .int .i64 bd] 23 (0, 0)) := by
    have := heap_alloc_new (w.alloc (.cells #[.int .i64 an, .int .i64 ad] 23)) (.cells #[.int .i64 bn, .int .i64 bd] 23)
    simpa using this
  have EA0 := Lib.hid eA0
  have EB0 := Lib.hid eB0
  have EW0 : Hid (Below w.heap.size w ((w.alloc (.cells #[.int .i64 an, .int .i64 ad] 23)).alloc (.cells #[.int .i64 bn, .int .i64 bd] 23))) := ((Below.refl _ _).alloc (Nat.le_refl _) _).alloc (by simp) _
  clear eA0 eB0
  obtain ⟨ck, hck, rck⟩ : ∃ k : Int, (∀ w, Calls Try.prog 7 #[.agg #[.int .i64 an, .int .i64 ad]] w fun e w' => e = .returned (.int .i64 k) ∧ Below w.heap.size w w') ∧
      (∀ w, Calls Try.prog 8 #[.agg #[.int .i64 an, .int .i64 ad]] w fun e w' => e = .returned (.int .i64 k) ∧ Below w.heap.size w w') := ⟨_, check_any an ad, refcheck_any an ad⟩
  have Hck := Lib.hid hck
  have Rck := Lib.hid rck
  clear hck rck
  obtain ⟨xnn, xnd, xne, hxn, rxn⟩ : ∃ x y f : Int, (∀ w, Calls Try.prog 15 #[.agg #[.int .i64 an, .int .i64 ad]] w fun e w' => e = .returned (.tuple #[.agg #[.int .i64 x, .int .i64 y], .int .i64 f]) ∧ Below w.heap.size w w') ∧
      (∀ w, Calls Try.prog 16 #[.agg #[.int .i64 an, .int .i64 ad]] w fun e w' => e = .returned (.tuple #[.agg #[.int .i64 x, .int .i64 y], .int .i64 f]) ∧ Below w.heap.size w w') := ⟨_, _, _, neg_any an ad, refneg_any an ad⟩
  have Hxn := Lib.hid hxn
  have Rxn := Lib.hid rxn
  clear hxn rxn
  obtain ⟨xcn, xce, hxc, rxc⟩ : ∃ x f : Int, (∀ w, Calls Try.prog 17 #[.agg #[.int .i64 an, .int .i64 ad], .agg #[.int .i64 bn, .int .i64 bd]] w fun e w' => e = .returned (.tuple #[.int .i64 x, .int .i64 f]) ∧ Below w.heap.size w w') ∧
      (∀ w, Calls Try.prog 18 #[.agg #[.int .i64 an, .int .i64 ad], .agg #[.int .i64 bn, .int .i64 bd]] w fun e w' => e = .returned (.tuple #[.int .i64 x, .int .i64 f]) ∧ Below w.heap.size w w') := ⟨_, _, cmp_any an ad bn bd, refcmp_any an ad bn bd⟩
  have Hxc := Lib.hid hxc
  have Rxc := Lib.hid rxc
  clear hxc rxc
  obtain ⟨xfn, xfe, hxf, rxf⟩ : ∃ x f : Int, (∀ w, Calls Try.prog 19 #[.agg #[.int .i64 an, .int .i64 ad]] w fun e w' => e = .returned (.tuple #[.int .i64 x, .int .i64 f]) ∧ Below w.heap.size w w') ∧
      (∀ w, Calls Try.prog 20 #[.agg #[.int .i64 an, .int .i64 ad]] w fun e w' => e = .returned (.tuple #[.int .i64 x, .int .i64 f]) ∧ Below w.heap.size w w') := ⟨_, _, floorR_any an ad, reffloor_any an ad⟩
  have Hxf := Lib.hid hxf
  have Rxf := Lib.hid rxf
  clear hxf rxf
  obtain ⟨xgn, xge, hxg, rxg⟩ : ∃ x f : Int, (∀ w, Calls Try.prog 21 #[.agg #[.int .i64 an, .int .i64 ad]] w fun e w' => e = .returned (.tuple #[.int .i64 x, .int .i64 f]) ∧ Below w.heap.size w w') ∧
      (∀ w, Calls Try.prog 22 #[.agg #[.int .i64 an, .int .i64 ad]] w fun e w' => e = .returned (.tuple #[.int .i64 x, .int .i64 f]) ∧ Below w.heap.size w w') := ⟨_, _, ceilR_any an ad, refceil_any an ad⟩
  have Hxg := Lib.hid hxg
  have Rxg := Lib.hid rxg
  clear hxg rxg
  obtain ⟨xan, xad, xae, hxa, hrxa⟩ : ∃ x y f : Int, (∀ w, Calls Try.prog 5 #[.agg #[.int .i64 an, .int .i64 ad], .agg #[.int .i64 bn, .int .i64 bd]] w fun e w' => e = .returned (.tuple #[.agg #[.int .i64 x, .int .i64 y], .int .i64 f]) ∧ Below w.heap.size w w') ∧
      (∀ w, Calls Try.prog 6 #[.agg #[.int .i64 an, .int .i64 ad], .agg #[.int .i64 bn, .int .i64 bd]] w fun e w' => e = .returned (.tuple #[.agg #[.int .i64 x, .int .i64 y], .int .i64 f]) ∧ Below w.heap.size w w') := ⟨_, _, _, add_any an ad bn bd, refadd_any an ad bn bd⟩
  have Hxa := Lib.hid hxa
  have Rxa := Lib.hid hrxa
  clear hxa hrxa
  obtain ⟨xsn, xsd, xse, hxs, hrxs⟩ : ∃ x y f : Int, (∀ w, Calls Try.prog 9 #[.agg #[.int .i64 an, .int .i64 ad], .agg #[.int .i64 bn, .int .i64 bd]] w fun e w' => e = .returned (.tuple #[.agg #[.int .i64 x, .int .i64 y], .int .i64 f]) ∧ Below w.heap.size w w') ∧
      (∀ w, Calls Try.prog 10 #[.agg #[.int .i64 an, .int .i64 ad], .agg #[.int .i64 bn, .int .i64 bd]] w fun e w' => e = .returned (.tuple #[.agg #[.int .i64 x, .int .i64 y], .int .i64 f]) ∧ Below w.heap.size w w') := ⟨_, _, _, sub_any an ad bn bd, refsub_any an ad bn bd⟩
  have Hxs := Lib.hid hxs
  have Rxs := Lib.hid hrxs
  clear hxs hrxs
  obtain ⟨xmn, xmd, xme, hxm, hrxm⟩ : ∃ x y f : Int, (∀ w, Calls Try.prog 11 #[.agg #[.int .i64 an, .int .i64 ad], .agg #[.int .i64 bn, .int .i64 bd]] w fun e w' => e = .returned (.tuple #[.agg #[.int .i64 x, .int .i64 y], .int .i64 f]) ∧ Below w.heap.size w w') ∧
      (∀ w, Calls Try.prog 12 #[.agg #[.int .i64 an, .int .i64 ad], .agg #[.int .i64 bn, .int .i64 bd]] w fun e w' => e = .returned (.tuple #[.agg #[.int .i64 x, .int .i64 y], .int .i64 f]) ∧ Below w.heap.size w w') := ⟨_, _, _, mul_any an ad bn bd, refmul_any an ad bn bd⟩
  have Hxm := Lib.hid hxm
  have Rxm := Lib.hid hrxm
  clear hxm hrxm
  obtain ⟨xdn, xdd, xde, hxd, hrxd⟩ : ∃ x y f : Int, (∀ w, Calls Try.prog 13 #[.agg #[.int .i64 an, .int .i64 ad], .agg #[.int .i64 bn, .int .i64 bd]] w fun e w' => e = .returned (.tuple #[.agg #[.int .i64 x, .int .i64 y], .int .i64 f]) ∧ Below w.heap.size w w') ∧
      (∀ w, Calls Try.prog 14 #[.agg #[.int .i64 an, .int .i64 ad], .agg #[.int .i64 bn, .int .i64 bd]] w fun e w' => e = .returned (.tuple #[.agg #[.int .i64 x, .int .i64 y], .int .i64 f]) ∧ Below w.heap.size w w') := ⟨_, _, _, div_any an ad bn bd, refdiv_any an ad bn bd⟩
  have Hxd := Lib.hid hxd
  have Rxd := Lib.hid hrxd
  clear hxd hrxd
  go_enter Try.func3, Try.ntmps3
  go_wp2_with fail
  refine (Hxa.out _).mono ?_
  rintro e w1 ⟨rfl, hb⟩
  have EA1 := Lib.hid (below_new hb EA0.out)
  have EB1 := Lib.hid (below_new hb EB0.out)
  have EW1 := Lib.hid (EW0.out.trans (hb.mono EW0.out.size))
  have la := lt_of_block EA1.out
  have lb := lt_of_block EB1.out
  have qa0 := cell_two0 EA1.out
  have qa1 := cell_two1 EA1.out
  have qb0 := cell_two0 EB1.out
  have qb1 := cell_two1 EB1.out
  clear hb EA0 EB0 EW0
  go_wp2_with fail
  refine (Rxa.out _).mono ?_
  rintro e w2 ⟨rfl, hb⟩
  obtain ⟨pc, hpc⟩ : ∃ pc, pc = w1.heap.size := ⟨_, rfl⟩
  obtain ⟨pd, hpd⟩ : ∃ pd, pd = w2.heap.size := ⟨_, rfl⟩
  have F3 : Hid (Four w pc pd an ad bn bd xan xad xan xad (w2.alloc (.cells #[.int .i64 xan, .int .i64 xad] 23))) := by
    subst hpc hpd
    refine ⟨((EW1.out.alloc EW1.out.size _).trans (hb.mono (Nat.le_trans EW1.out.size (by simp)))).alloc (Nat.le_trans (Nat.le_trans EW1.out.size (by simp)) hb.size) _, ?_, ?_, ?_, heap_alloc_new _ _⟩
    · exact heap_alloc_old (below_new hb (heap_alloc_old EA1.out _)) _
    · exact heap_alloc_old (below_new hb (heap_alloc_old EB1.out _)) _
    · exact heap_alloc_old (below_new hb (heap_alloc_new _ _)) _
  have hab : w.heap.size + 1 < pc := by rw [hpc]; exact lb
  have hcd : pc < pd := by rw [hpc, hpd]; have := hb.size; simp at this; omega
  clear hb EA1 EB1 EW1 qa0 qa1 qb0 qb1 la lb
  go_wp2_with fail
  rw [← hpc, ← hpd]
  obtain ⟨w3, hw3⟩ : ∃ w3, w3 = w2.alloc (.cells #[.int .i64 xan, .int .i64 xad] 23) := ⟨_, rfl⟩
  rw [← hw3] at F3 ⊢
  clear hw3 hpc hpd
  have la3 := lt_of_block F3.out.a
  have qa0_3 := cell_two0 F3.out.a
  have qa1_3 := cell_two1 F3.out.a
  have lb3 := lt_of_block F3.out.b
  have qb0_3 := cell_two0 F3.out.b
  have qb1_3 := cell_two1 F3.out.b
  have lc3 := lt_of_block F3.out.c
  have qc0_3 := cell_two0 F3.out.c
  have qc1_3 := cell_two1 F3.out.c
  have fc0_3 := free_two0 F3.out.c
  have fc1_3 := free_two1 F3.out.c
  have ld3 := lt_of_block F3.out.d
  have qd0_3 := cell_two0 F3.out.d
  have qd1_3 := cell_two1 F3.out.d
  have fd0_3 := free_two0 F3.out.d
  have fd1_3 := free_two1 F3.out.d
  go_cut [47] (fun s47 wx => s47 = .bool false ∧ Four w pc pd an ad bn bd xan xad xan xad wx)
  case first =>
    go_region_with (first
      | (go_at_call 7; refine (Hck.out _).mono ?_; rintro e w4 ⟨rfl, hb⟩; have F4 := Lib.hid (F3.out.drew.later hb); clear hb; have la4 := lt_of_block F4.out.a; have ua0 := cell_two0 F4.out.a; have ua1 := cell_two1 F4.out.a)
      | (go_at_call 8; refine (Rck.out _).mono ?_; rintro e w5 ⟨rfl, hb⟩; have F5 := Lib.hid (F4.out.later hb); clear hb))
    all_goals (go_wp2_with fail; go_meet; exact ⟨rfl, F5.out⟩)
  case rest =>
    obtain ⟨rfl, hF⟩ := hcut
    have F4 := Lib.hid hF
    clear hF F3 la3 qa0_3 qa1_3 lb3 qb0_3 qb1_3 lc3 qc0_3 qc1_3 fc0_3 fc1_3 ld3 qd0_3 qd1_3 fd0_3 fd1_3
    have la4 := lt_of_block F4.out.a
    have qa0_4 := cell_two0 F4.out.a
    have qa1_4 := cell_two1 F4.out.a
    have lb4 := lt_of_block F4.out.b
    have qb0_4 := cell_two0 F4.out.b
    have qb1_4 := cell_two1 F4.out.b
    have lc4 := lt_of_block F4.out.c
    have qc0_4 := cell_two0 F4.out.c
    have qc1_4 := cell_two1 F4.out.c
    have fc0_4 := free_two0 F4.out.c
    have fc1_4 := free_two1 F4.out.c
    have ld4 := lt_of_block F4.out.d
    have qd0_4 := cell_two0 F4.out.d
    have qd1_4 := cell_two1 F4.out.d
    have fd0_4 := free_two0 F4.out.d
    have fd1_4 := free_two1 F4.out.d
    go_wp2_with fail
    refine (Hxs.out _).mono ?_
    rintro e w5 ⟨rfl, hb⟩
    have F5 := Lib.hid (Four.later (F4.out) hb)
    clear hb F4 la4 qa0_4 qa1_4 lb4 qb0_4 qb1_4 lc4 qc0_4 qc1_4 fc0_4 fc1_4 ld4 qd0_4 qd1_4 fd0_4 fd1_4
    have la5 := lt_of_block F5.out.a
    have qa0_5 := cell_two0 F5.out.a
    have qa1_5 := cell_two1 F5.out.a
    have lb5 := lt_of_block F5.out.b
    have qb0_5 := cell_two0 F5.out.b
    have qb1_5 := cell_two1 F5.out.b
    have lc5 := lt_of_block F5.out.c
    have qc0_5 := cell_two0 F5.out.c
    have qc1_5 := cell_two1 F5.out.c
    have fc0_5 := free_two0 F5.out.c
    have fc1_5 := free_two1 F5.out.c
    have ld5 := lt_of_block F5.out.d
    have qd0_5 := cell_two0 F5.out.d
    have qd1_5 := cell_two1 F5.out.d
    have fd0_5 := free_two0 F5.out.d
    have fd1_5 := free_two1 F5.out.d
    go_wp2_with fail
    refine (Rxs.out _).mono ?_
    rintro e w6 ⟨rfl, hb⟩
    have F6 := Lib.hid (Four.later (Four.setC F5.out hab hcd xsn xsd) hb)
    clear hb F5 la5 qa0_5 qa1_5 lb5 qb0_5 qb1_5 lc5 qc0_5 qc1_5 fc0_5 fc1_5 ld5 qd0_5 qd1_5 fd0_5 fd1_5
    have la6 := lt_of_block F6.out.a
    have qa0_6 := cell_two0 F6.out.a
    have qa1_6 := cell_two1 F6.out.a
    have lb6 := lt_of_block F6.out.b
    have qb0_6 := cell_two0 F6.out.b
    have qb1_6 := cell_two1 F6.out.b
    have lc6 := lt_of_block F6.out.c
    have qc0_6 := cell_two0 F6.out.c
    have qc1_6 := cell_two1 F6.out.c
    have fc0_6 := free_two0 F6.out.c
    have fc1_6 := free_two1 F6.out.c
    have ld6 := lt_of_block F6.out.d
    have qd0_6 := cell_two0 F6.out.d
    have qd1_6 := cell_two1 F6.out.d
    have fd0_6 := free_two0 F6.out.d
    have fd1_6 := free_two1 F6.out.d
    go_wp2_with fail
    refine (Hxm.out _).mono ?_
    rintro e w7 ⟨rfl, hb⟩
    have F7 := Lib.hid (Four.later (Four.setD F6.out hab hcd xsn xsd) hb)
    clear hb F6 la6 qa0_6 qa1_6 lb6 qb0_6 qb1_6 lc6 qc0_6 qc1_6 fc0_6 fc1_6 ld6 qd0_6 qd1_6 fd0_6 fd1_6
    have la7 := lt_of_block F7.out.a
    have qa0_7 := cell_two0 F7.out.a
    have qa1_7 := cell_two1 F7.out.a
    have lb7 := lt_of_block F7.out.b
    have qb0_7 := cell_two0 F7.out.b
    have qb1_7 := cell_two1 F7.out.b
    have lc7 := lt_of_block F7.out.c
    have qc0_7 := cell_two0 F7.out.c
    have qc1_7 := cell_two1 F7.out.c
    have fc0_7 := free_two0 F7.out.c
    have fc1_7 := free_two1 F7.out.c
    have ld7 := lt_of_block F7.out.d
    have qd0_7 := cell_two0 F7.out.d
    have qd1_7 := cell_two1 F7.out.d
    have fd0_7 := free_two0 F7.out.d
    have fd1_7 := free_two1 F7.out.d
    go_wp2_with fail
    refine (Rxm.out _).mono ?_
    rintro e w8 ⟨rfl, hb⟩
    have F8 := Lib.hid (Four.later (Four.setC F7.out hab hcd xmn xmd) hb)
    clear hb F7 la7 qa0_7 qa1_7 lb7 qb0_7 qb1_7 lc7 qc0_7 qc1_7 fc0_7 fc1_7 ld7 qd0_7 qd1_7 fd0_7 fd1_7
    have la8 := lt_of_block F8.out.a
    have qa0_8 := cell_two0 F8.out.a
    have qa1_8 := cell_two1 F8.out.a
    have lb8 := lt_of_block F8.out.b
    have qb0_8 := cell_two0 F8.out.b
    have qb1_8 := cell_two1 F8.out.b
    have lc8 := lt_of_block F8.out.c
    have qc0_8 := cell_two0 F8.out.c
    have qc1_8 := cell_two1 F8.out.c
    have fc0_8 := free_two0 F8.out.c
    have fc1_8 := free_two1 F8.out.c
    have ld8 := lt_of_block F8.out.d
    have qd0_8 := cell_two0 F8.out.d
    have qd1_8 := cell_two1 F8.out.d
    have fd0_8 := free_two0 F8.out.d
    have fd1_8 := free_two1 F8.out.d
    go_wp2_with fail
    refine (Hxd.out _).mono ?_
    rintro e w9 ⟨rfl, hb⟩
    have F9 := Lib.hid (Four.later (Four.setD F8.out hab hcd xmn xmd) hb)
    clear hb F8 la8 qa0_8 qa1_8 lb8 qb0_8 qb1_8 lc8 qc0_8 qc1_8 fc0_8 fc1_8 ld8 qd0_8 qd1_8 fd0_8 fd1_8
    have la9 := lt_of_block F9.out.a
    have qa0_9 := cell_two0 F9.out.a
    have qa1_9 := cell_two1 F9.out.a
    have lb9 := lt_of_block F9.out.b
    have qb0_9 := cell_two0 F9.out.b
    have qb1_9 := cell_two1 F9.out.b
    have lc9 := lt_of_block F9.out.c
    have qc0_9 := cell_two0 F9.out.c
    have qc1_9 := cell_two1 F9.out.c
    have fc0_9 := free_two0 F9.out.c
    have fc1_9 := free_two1 F9.out.c
    have ld9 := lt_of_block F9.out.d
    have qd0_9 := cell_two0 F9.out.d
    have qd1_9 := cell_two1 F9.out.d
    have fd0_9 := free_two0 F9.out.d
    have fd1_9 := free_two1 F9.out.d
    go_wp2_with fail
    refine (Rxd.out _).mono ?_
    rintro e w10 ⟨rfl, hb⟩
    have F10 := Lib.hid (Four.later (Four.setC F9.out hab hcd xdn xdd) hb)
    clear hb F9 la9 qa0_9 qa1_9 lb9 qb0_9 qb1_9 lc9 qc0_9 qc1_9 fc0_9 fc1_9 ld9 qd0_9 qd1_9 fd0_9 fd1_9
    have la10 := lt_of_block F10.out.a
    have qa0_10 := cell_two0 F10.out.a
    have qa1_10 := cell_two1 F10.out.a
    have lb10 := lt_of_block F10.out.b
    have qb0_10 := cell_two0 F10.out.b
    have qb1_10 := cell_two1 F10.out.b
    have lc10 := lt_of_block F10.out.c
    have qc0_10 := cell_two0 F10.out.c
    have qc1_10 := cell_two1 F10.out.c
    have fc0_10 := free_two0 F10.out.c
    have fc1_10 := free_two1 F10.out.c
    have ld10 := lt_of_block F10.out.d
    have qd0_10 := cell_two0 F10.out.d
    have qd1_10 := cell_two1 F10.out.d
    have fd0_10 := free_two0 F10.out.d
    have fd1_10 := free_two1 F10.out.d
    go_wp2_with fail
    refine (Hxn.out _).mono ?_
    rintro e w11 ⟨rfl, hb⟩
    have F11 := Lib.hid (Four.later (Four.setD F10.out hab hcd xdn xdd) hb)
    clear hb F10 la10 qa0_10 qa1_10 lb10 qb0_10 qb1_10 lc10 qc0_10 qc1_10 fc0_10 fc1_10 ld10 qd0_10 qd1_10 fd0_10 fd1_10
    have la11 := lt_of_block F11.out.a
    have qa0_11 := cell_two0 F11.out.a
    have qa1_11 := cell_two1 F11.out.a
    have lb11 := lt_of_block F11.out.b
    have qb0_11 := cell_two0 F11.out.b
    have qb1_11 := cell_two1 F11.out.b
    have lc11 := lt_of_block F11.out.c
    have qc0_11 := cell_two0 F11.out.c
    have qc1_11 := cell_two1 F11.out.c
    have fc0_11 := free_two0 F11.out.c
    have fc1_11 := free_two1 F11.out.c
    have ld11 := lt_of_block F11.out.d
    have qd0_11 := cell_two0 F11.out.d
    have qd1_11 := cell_two1 F11.out.d
    have fd0_11 := free_two0 F11.out.d
    have fd1_11 := free_two1 F11.out.d
    go_wp2_with fail
    refine (Rxn.out _).mono ?_
    rintro e w12 ⟨rfl, hb⟩
    have F12 := Lib.hid (Four.later (Four.setC F11.out hab hcd xnn xnd) hb)
    clear hb F11 la11 qa0_11 qa1_11 lb11 qb0_11 qb1_11 lc11 qc0_11 qc1_11 fc0_11 fc1_11 ld11 qd0_11 qd1_11 fd0_11 fd1_11
    have la12 := lt_of_block F12.out.a
    have qa0_12 := cell_two0 F12.out.a
    have qa1_12 := cell_two1 F12.out.a
    have lb12 := lt_of_block F12.out.b
    have qb0_12 := cell_two0 F12.out.b
    have qb1_12 := cell_two1 F12.out.b
    have lc12 := lt_of_block F12.out.c
    have qc0_12 := cell_two0 F12.out.c
    have qc1_12 := cell_two1 F12.out.c
    have fc0_12 := free_two0 F12.out.c
    have fc1_12 := free_two1 F12.out.c
    have ld12 := lt_of_block F12.out.d
    have qd0_12 := cell_two0 F12.out.d
    have qd1_12 := cell_two1 F12.out.d
    have fd0_12 := free_two0 F12.out.d
    have fd1_12 := free_two1 F12.out.d
    go_wp2_with fail
    refine (Hxc.out _).mono ?_
    rintro e w13 ⟨rfl, hb⟩
    have F13 := Lib.hid (Four.later (Four.setD F12.out hab hcd xnn xnd) hb)
    clear hb F12 la12 qa0_12 qa1_12 lb12 qb0_12 qb1_12 lc12 qc0_12 qc1_12 fc0_12 fc1_12 ld12 qd0_12 qd1_12 fd0_12 fd1_12
    have la13 := lt_of_block F13.out.a
    have qa0_13 := cell_two0 F13.out.a
    have qa1_13 := cell_two1 F13.out.a
    have lb13 := lt_of_block F13.out.b
    have qb0_13 := cell_two0 F13.out.b
    have qb1_13 := cell_two1 F13.out.b
    have lc13 := lt_of_block F13.out.c
    have qc0_13 := cell_two0 F13.out.c
    have qc1_13 := cell_two1 F13.out.c
    have fc0_13 := free_two0 F13.out.c
    have fc1_13 := free_two1 F13.out.c
    have ld13 := lt_of_block F13.out.d
    have qd0_13 := cell_two0 F13.out.d
    have qd1_13 := cell_two1 F13.out.d
    have fd0_13 := free_two0 F13.out.d
    have fd1_13 := free_two1 F13.out.d
    go_wp2_with fail
    refine (Rxc.out _).mono ?_
    rintro e w14 ⟨rfl, hb⟩
    have F14 := Lib.hid (Four.later (F13.out) hb)
    clear hb F13 la13 qa0_13 qa1_13 lb13 qb0_13 qb1_13 lc13 qc0_13 qc1_13 fc0_13 fc1_13 ld13 qd0_13 qd1_13 fd0_13 fd1_13
    have la14 := lt_of_block F14.out.a
    have qa0_14 := cell_two0 F14.out.a
    have qa1_14 := cell_two1 F14.out.a
    have lb14 := lt_of_block F14.out.b
    have qb0_14 := cell_two0 F14.out.b
    have qb1_14 := cell_two1 F14.out.b
    have lc14 := lt_of_block F14.out.c
    have qc0_14 := cell_two0 F14.out.c
    have qc1_14 := cell_two1 F14.out.c
    have fc0_14 := free_two0 F14.out.c
    have fc1_14 := free_two1 F14.out.c
    have ld14 := lt_of_block F14.out.d
    have qd0_14 := cell_two0 F14.out.d
    have qd1_14 := cell_two1 F14.out.d
    have fd0_14 := free_two0 F14.out.d
    have fd1_14 := free_two1 F14.out.d
    go_wp2_with fail
    refine (Hxf.out _).mono ?_
    rintro e w15 ⟨rfl, hb⟩
    have F15 := Lib.hid (Four.later (F14.out) hb)
    clear hb F14 la14 qa0_14 qa1_14 lb14 qb0_14 qb1_14 lc14 qc0_14 qc1_14 fc0_14 fc1_14 ld14 qd0_14 qd1_14 fd0_14 fd1_14
    have la15 := lt_of_block F15.out.a
    have qa0_15 := cell_two0 F15.out.a
    have qa1_15 := cell_two1 F15.out.a
    have lb15 := lt_of_block F15.out.b
    have qb0_15 := cell_two0 F15.out.b
    have qb1_15 := cell_two1 F15.out.b
    have lc15 := lt_of_block F15.out.c
    have qc0_15 := cell_two0 F15.out.c
    have qc1_15 := cell_two1 F15.out.c
    have fc0_15 := free_two0 F15.out.c
    have fc1_15 := free_two1 F15.out.c
    have ld15 := lt_of_block F15.out.d
    have qd0_15 := cell_two0 F15.out.d
    have qd1_15 := cell_two1 F15.out.d
    have fd0_15 := free_two0 F15.out.d
    have fd1_15 := free_two1 F15.out.d
    go_wp2_with fail
    refine (Rxf.out _).mono ?_
    rintro e w16 ⟨rfl, hb⟩
    have F16 := Lib.hid (Four.later (F15.out) hb)
    clear hb F15 la15 qa0_15 qa1_15 lb15 qb0_15 qb1_15 lc15 qc0_15 qc1_15 fc0_15 fc1_15 ld15 qd0_15 qd1_15 fd0_15 fd1_15
    have la16 := lt_of_block F16.out.a
    have qa0_16 := cell_two0 F16.out.a
    have qa1_16 := cell_two1 F16.out.a
    have lb16 := lt_of_block F16.out.b
    have qb0_16 := cell_two0 F16.out.b
    have qb1_16 := cell_two1 F16.out.b
    have lc16 := lt_of_block F16.out.c
    have qc0_16 := cell_two0 F16.out.c
    have qc1_16 := cell_two1 F16.out.c
    have fc0_16 := free_two0 F16.out.c
    have fc1_16 := free_two1 F16.out.c
    have ld16 := lt_of_block F16.out.d
    have qd0_16 := cell_two0 F16.out.d
    have qd1_16 := cell_two1 F16.out.d
    have fd0_16 := free_two0 F16.out.d
    have fd1_16 := free_two1 F16.out.d
    go_wp2_with fail
    refine (Hxg.out _).mono ?_
    rintro e w17 ⟨rfl, hb⟩
    have F17 := Lib.hid (Four.later (F16.out) hb)
    clear hb F16 la16 qa0_16 qa1_16 lb16 qb0_16 qb1_16 lc16 qc0_16 qc1_16 fc0_16 fc1_16 ld16 qd0_16 qd1_16 fd0_16 fd1_16
    have la17 := lt_of_block F17.out.a
    have qa0_17 := cell_two0 F17.out.a
    have qa1_17 := cell_two1 F17.out.a
    have lb17 := lt_of_block F17.out.b
    have qb0_17 := cell_two0 F17.out.b
    have qb1_17 := cell_two1 F17.out.b
    have lc17 := lt_of_block F17.out.c
    have qc0_17 := cell_two0 F17.out.c
    have qc1_17 := cell_two1 F17.out.c
    have fc0_17 := free_two0 F17.out.c
    have fc1_17 := free_two1 F17.out.c
    have ld17 := lt_of_block F17.out.d
    have qd0_17 := cell_two0 F17.out.d
    have qd1_17 := cell_two1 F17.out.d
    have fd0_17 := free_two0 F17.out.d
    have fd1_17 := free_two1 F17.out.d
    go_wp2_with fail
    refine (Rxg.out _).mono ?_
    rintro e w18 ⟨rfl, hb⟩
    have F18 := Lib.hid (Four.later (F17.out) hb)
    clear hb F17 la17 qa0_17 qa1_17 lb17 qb0_17 qb1_17 lc17 qc0_17 qc1_17 fc0_17 fc1_17 ld17 qd0_17 qd1_17 fd0_17 fd1_17
    have la18 := lt_of_block F18.out.a
    have qa0_18 := cell_two0 F18.out.a
    have qa1_18 := cell_two1 F18.out.a
    have lb18 := lt_of_block F18.out.b
    have qb0_18 := cell_two0 F18.out.b
    have qb1_18 := cell_two1 F18.out.b
    have lc18 := lt_of_block F18.out.c
    have qc0_18 := cell_two0 F18.out.c
    have qc1_18 := cell_two1 F18.out.c
    have fc0_18 := free_two0 F18.out.c
    have fc1_18 := free_two1 F18.out.c
    have ld18 := lt_of_block F18.out.d
    have qd0_18 := cell_two0 F18.out.d
    have qd1_18 := cell_two1 F18.out.d
    have fd0_18 := free_two0 F18.out.d
    have fd1_18 := free_two1 F18.out.d
    go_wp2_with fail
    go_ret
    exact ⟨rfl, F18.out.old⟩

end Go.Proofs.Ytchjkjhkmhkjeaa
