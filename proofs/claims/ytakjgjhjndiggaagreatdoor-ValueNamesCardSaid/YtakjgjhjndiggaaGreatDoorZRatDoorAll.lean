/-
  Where a calculation of package ratio stands: its variables in memory, and the operands' slice. What ratio.calculate[gambrel/api.Ratio] does, out of a contract of the step that it is handed. What Add, Sub, Mul and Div of package ratio hand back, for any two pairs of numbers. What ratio.calculate[int] does, out of a contract of the step that it is handed. What ratio.calculate[int64] does, out of a contract of the step that it is handed. What Cmp, Floor and Ceil of package ratio hand back, for any pairs of numbers. What ratio.calculate[string] does, out of a contract of the step that it is handed. What Sum of package ratio hands back, for any list of pairs of numbers.
-/
import Derived.Test.YtakjgjhjndiggaaGreatDoorZRatCalc
import Derived.Defers
namespace Go.Proofs.YtakjgjhjndiggaaGreatDoor
open Go.RowKit
open RM
set_option linter.unusedVariables false
set_option linter.unusedSimpArgs false

/-- The error that is kept behind a list of operands. -/
def errAll (rs : List (Int × Int)) : Int := if rs.all (fun r => vld r.1 r.2) = true then 0 else 8

/-- Operands lie in block bs. -/
def Operands (w : World) (bs : Nat) (rs : List (Int × Int)) : Prop :=
  bs < w.heap.size ∧ ∀ i, (h : i < rs.length) → w.cell? ⟨bs, i * 2, none⟩ = some (.int .i64 rs[i].1) ∧ w.cell? ⟨bs, i * 2 + 1, none⟩ = some (.int .i64 rs[i].2)

theorem errAll_nil : errAll [] = 0 := rfl
theorem errAll_snoc (rs : List (Int × Int)) (k : Nat) (h : k < rs.length) :
    errAll (rs.take (k + 1)) = if errAll (rs.take k) = 0 then chk rs[k].1 rs[k].2 else 8 := by
  unfold errAll chk
  rw [List.take_succ_eq_append_getElem h, List.all_append]
  cases (List.take k rs).all (fun r => vld r.1 r.2) <;> cases hv : vld rs[k].1 rs[k].2 <;> simp [hv]
theorem errAll_or (rs : List (Int × Int)) : errAll rs = 0 ∨ errAll rs = 8 := by unfold errAll; split <;> simp

/-- Where a calculation stands: its result's variable, the error that it hands back, and the error that it keeps. -/
structure CalcAt (w : World) (res : Obj) (f : Int) (wr : World) : Prop where
  below : Below w.heap.size w wr
  hres : wr.heap[w.heap.size]? = some res
  hfault : wr.heap[w.heap.size + 1]? = some (.cells #[.int .i64 0] 34 (0, 0))
  hc : wr.heap[w.heap.size + 1 + 1]? = some (.cells #[.int .i64 f] 114 (0, 0))

theorem CalcAt.later {w wr w1 : World} {res : Obj} {f : Int} (h : CalcAt w res f wr) (hb : Below wr.heap.size wr w1) : CalcAt w res f w1 :=
  have hs := h.below.size
  ⟨h.below.trans (hb.mono hs), (hb.block _ (lt_of_block h.hres)).trans h.hres, (hb.block _ (lt_of_block h.hfault)).trans h.hfault, (hb.block _ (lt_of_block h.hc)).trans h.hc⟩
theorem CalcAt.alloc {w wr : World} {res : Obj} {f : Int} (h : CalcAt w res f wr) (o : Obj) : CalcAt w res f (wr.alloc o) :=
  h.later ((Below.refl _ _).alloc (Nat.le_refl _) o)
theorem CalcAt.keeps {w wr : World} {res : Obj} {f : Int} (h : CalcAt w res f wr) (g : Int) : CalcAt w res g (wr.setCell ⟨w.heap.size + 1 + 1, 0, none⟩ (.int .i64 g)) :=
  ⟨h.below.setCell (by show w.heap.size ≤ w.heap.size + 1 + 1; omega) _, heap_set_other h.hres (by show w.heap.size ≠ w.heap.size + 1 + 1; omega) _, heap_set_other h.hfault (by show w.heap.size + 1 ≠ w.heap.size + 1 + 1; omega) _, one_setCell h.hc⟩
theorem CalcAt.start (w : World) (res : Obj) : CalcAt w res 0 (((w.alloc res).alloc (.cells #[.int .i64 0] 34)).alloc (.cells #[.int .i64 0] 114)) := by
  refine ⟨(((Below.refl _ _).alloc (Nat.le_refl _) _).alloc (by simp) _).alloc (by simp; omega) _, ?_, ?_, ?_⟩
  · exact heap_alloc_old (heap_alloc_old (heap_alloc_new _ _) _) _
  · refine heap_alloc_old ?_ _
    have := heap_alloc_new (w.alloc res) (.cells #[.int .i64 0] 34)
    simpa using this
  · have := heap_alloc_new ((w.alloc res).alloc (.cells #[.int .i64 0] 34)) (.cells #[.int .i64 0] 114)
    simpa using this

theorem Operands.cells {w wr : World} {bs : Nat} {rs : List (Int × Int)} (h : Operands w bs rs) (hb : Below w.heap.size w wr) (i : Nat) (hi : i < rs.length) :
    wr.cell? ⟨bs, i * 2, none⟩ = some (.int .i64 rs[i].1) ∧ wr.cell? ⟨bs, i * 2 + 1, none⟩ = some (.int .i64 rs[i].2) :=
  ⟨(hb.cell (p := ⟨bs, i * 2, none⟩) h.1).trans (h.2 i hi).1, (hb.cell (p := ⟨bs, i * 2 + 1, none⟩) h.1).trans (h.2 i hi).2⟩



/-- Behind the deferred call: the result's variable and the error that is handed back. -/
structure FinAt (w : World) (res : Obj) (f : Int) (wr : World) : Prop where
  below : Below w.heap.size w wr
  hres : wr.heap[w.heap.size]? = some res
  hfault : wr.heap[w.heap.size + 1]? = some (.cells #[.int .i64 f] 34 (0, 0))

theorem two_setCell {w : World} {b : Nat} {x y : Value} {t : TypeId} (h : w.heap[b]? = some (.cells #[x, y] t (0, 0))) (u v : Value) :
    ((w.setCell ⟨b, 0, none⟩ u).setCell ⟨b, 1, none⟩ v).heap[b]? = some (.cells #[u, v] t (0, 0)) := by
  simp only [World.setCell, Array.getElem?_modify, if_true, h]
  rfl

theorem CalcAt.stores {w wr : World} {x y : Value} {t : TypeId} {f : Int} (h : CalcAt w (.cells #[x, y] t (0, 0)) f wr) (u v : Value) :
    CalcAt w (.cells #[u, v] t (0, 0)) f ((wr.setCell ⟨w.heap.size, 0, none⟩ u).setCell ⟨w.heap.size, 1, none⟩ v) :=
  ⟨(h.below.setCell (by exact Nat.le_refl _) _).setCell (by exact Nat.le_refl _) _, two_setCell h.hres u v,
   heap_set_other (heap_set_other h.hfault (by show w.heap.size + 1 ≠ w.heap.size; omega) _) (by show w.heap.size + 1 ≠ w.heap.size; omega) _,
   heap_set_other (heap_set_other h.hc (by show w.heap.size + 1 + 1 ≠ w.heap.size; omega) _) (by show w.heap.size + 1 + 1 ≠ w.heap.size; omega) _⟩

theorem CalcAt.store {w wr : World} {x : Value} {t : TypeId} {f : Int} (h : CalcAt w (.cells #[x] t (0, 0)) f wr) (u : Value) :
    CalcAt w (.cells #[u] t (0, 0)) f (wr.setCell ⟨w.heap.size, 0, none⟩ u) :=
  ⟨h.below.setCell (by exact Nat.le_refl _) _, one_setCell h.hres,
   heap_set_other h.hfault (by show w.heap.size + 1 ≠ w.heap.size; omega) _,
   heap_set_other h.hc (by show w.heap.size + 1 + 1 ≠ w.heap.size; omega) _⟩

/-- What a calculation hands back: the step's numbers where nothing failed, else zeros and the first error. -/
def outN (rs : List (Int × Int)) (n f : Int) : Int := if errAll rs = 0 ∧ f = 0 then n else 0
def outS (rs : List (Int × Int)) (n : ByteArray) (f : Int) : ByteArray := if errAll rs = 0 ∧ f = 0 then n else ByteArray.empty
def outE (rs : List (Int × Int)) (f : Int) : Int := if errAll rs = 0 then f else errAll rs
theorem outN_fine {rs : List (Int × Int)} (h : errAll rs = 0) (n : Int) : n = outN rs n 0 := by simp [outN, h]
theorem outN_fault {rs : List (Int × Int)} {f : Int} (h : f ≠ 0) (n : Int) : 0 = outN rs n f := by simp [outN, h]
theorem outN_bad {rs : List (Int × Int)} {f : Int} (h : errAll rs ≠ 0) (n : Int) : 0 = outN rs n f := by simp [outN, h]
theorem outS_fine {rs : List (Int × Int)} (h : errAll rs = 0) (n : ByteArray) : n = outS rs n 0 := by simp [outS, h]
theorem outS_fault {rs : List (Int × Int)} {f : Int} (h : f ≠ 0) (n : ByteArray) : ByteArray.empty = outS rs n f := by simp [outS, h]
theorem outS_bad {rs : List (Int × Int)} {f : Int} (h : errAll rs ≠ 0) (n : ByteArray) : ByteArray.empty = outS rs n f := by simp [outS, h]
theorem outE_fine {rs : List (Int × Int)} (h : errAll rs = 0) (f : Int) : f = outE rs f := by simp [outE, h]
theorem outE_bad {rs : List (Int × Int)} (h : errAll rs ≠ 0) (f : Int) : errAll rs = outE rs f := by simp [outE, h]

end Go.Proofs.YtakjgjhjndiggaaGreatDoor
namespace Go.Proofs.YtakjgjhjndiggaaGreatDoor
open Go.RowKit
open RM
set_option linter.unusedVariables false
set_option linter.unusedSimpArgs false

set_option maxHeartbeats 400000 in
theorem finishR_ok (w : World) (res : Obj) (u : FrameMode) (wr : World) (h : CalcAt w res 0 wr) :
    CallsD Tryz.prog 87 #[.pointer (some ⟨w.heap.size + 1 + 1, 0, none⟩), .pointer (some ⟨w.heap.size + 1, 0, none⟩), .pointer (some ⟨w.heap.size, 0, none⟩)] u wr fun e u' w' =>
      u' = u ∧ e = .returned (.tuple #[]) ∧ FinAt w res 0 w' := by
  have h1 := cell_of_one h.hc
  have h2 := cell_of_one h.hfault
  have h3 := free_of_one h.hfault
  have h4 := cell_of_one (one_setCell (u := .int .i64 0) h.hfault)
  have H : Hid (FinAt w res 0 (wr.setCell ⟨w.heap.size + 1, 0, none⟩ (.int .i64 0))) :=
    ⟨h.below.setCell (by show w.heap.size ≤ w.heap.size + 1; omega) _, heap_set_other h.hres (by show w.heap.size ≠ w.heap.size + 1; omega) _, one_setCell h.hfault⟩
  clear h
  go_enter_d Tryz.func87, Tryz.ntmps87
  go_wp2_with fail
  go_end0
  exact ⟨rfl, H.out⟩

set_option maxHeartbeats 400000 in
theorem finishR_bad (w : World) (x y : Int) (f : Int) (hf : (f != 0) = true) (u : FrameMode) (wr : World) (h : CalcAt w (.cells #[.int .i64 x, .int .i64 y] 25 (0, 0)) f wr) :
    CallsD Tryz.prog 87 #[.pointer (some ⟨w.heap.size + 1 + 1, 0, none⟩), .pointer (some ⟨w.heap.size + 1, 0, none⟩), .pointer (some ⟨w.heap.size, 0, none⟩)] u wr fun e u' w' =>
      u' = u ∧ e = .returned (.tuple #[]) ∧ FinAt w (.cells #[.int .i64 0, .int .i64 0] 25 (0, 0)) f w' := by
  have h1 := cell_of_one h.hc
  have h2 := cell_of_one h.hfault
  have h3 := free_of_one h.hfault
  have h4 := cell_of_one (one_setCell (u := .int .i64 f) h.hfault)
  have e1 := lt_of_block h.hres
  have e2 := lt_of_block h.hfault
  have q0 : wr.cell? ⟨w.heap.size, 0, none⟩ = some (.int .i64 x) := by simp [World.cell?, h.hres]
  have p0 : wr.frozen? ⟨w.heap.size, 0, none⟩ = false := by simp [World.frozen?, h.hres]
  have q1 : wr.cell? ⟨w.heap.size, 1, none⟩ = some (.int .i64 y) := by simp [World.cell?, h.hres]
  have p1 : wr.frozen? ⟨w.heap.size, 1, none⟩ = false := by simp [World.frozen?, h.hres]
  have H : Hid (FinAt w (.cells #[.int .i64 0, .int .i64 0] 25 (0, 0)) f ((((wr.setCell ⟨w.heap.size + 1, 0, none⟩ (.int .i64 f)).setCell ⟨w.heap.size, 0, none⟩ (.int .i64 0)).setCell ⟨w.heap.size, 1, none⟩ (.int .i64 0)).alloc (.cells #[.int .i64 0, .int .i64 0] 25))) :=
    ⟨(((h.below.setCell (by show w.heap.size ≤ w.heap.size + 1; omega) _).setCell (by exact Nat.le_refl _) _).setCell (by exact Nat.le_refl _) _).alloc (by simpa [World.setCell] using Nat.le_of_lt e1) _,
     heap_alloc_old (two_setCell (heap_set_other h.hres (by show w.heap.size ≠ w.heap.size + 1; omega) _) _ _) _,
     heap_alloc_old (heap_set_other (heap_set_other (one_setCell h.hfault) (by show w.heap.size + 1 ≠ w.heap.size; omega) _) (by show w.heap.size + 1 ≠ w.heap.size; omega) _) _⟩
  clear h
  go_enter_d Tryz.func87, Tryz.ntmps87
  go_wp2_with fail
  go_end0
  exact ⟨rfl, H.out⟩

set_option maxHeartbeats 800000 in
theorem calcR_some (k : FuncId) (caps : Array Value) (bs cap : Nat) (rs : List (Int × Int)) (n d : Int) (f : Int) (w : World) (hlen : rs.length ≤ 1000) (hops : Operands w bs rs)
    (hent : ∀ (us : Array Value) (v : World), (callFunc k us).run Tryz.prog v = .ok (.enter k us) v)
    (hstep : errAll rs = 0 → ∀ wr, CalcAt w (.cells #[.int .i64 0, .int .i64 0] 25 (0, 0)) 0 wr → Calls Tryz.prog k (#[.pointer (some ⟨w.heap.size + 1 + 1, 0, none⟩)] ++ caps) wr fun e w2 =>
      e = .returned (.agg #[.int .i64 n, .int .i64 d]) ∧ CalcAt w (.cells #[.int .i64 0, .int .i64 0] 25 (0, 0)) f w2) :
    Calls Tryz.prog 55 #[.func (.func k) #[] caps, .slice (some ⟨bs, 0, none⟩) rs.length cap] w fun e w' =>
      e = .returned (.tuple #[.agg #[.int .i64 (outN rs n f), .int .i64 (outN rs d f)], .int .i64 (outE rs f)]) ∧ Below w.heap.size w w' := by
  have hmf : ∀ (fn : Fn) (first cap : Array Value) (w : World), (Instr.makeFunc fn first cap).run Tryz.prog w = .ok (.func fn first cap) w := fun _ _ _ _ => rfl
  have Hstep := Lib.hid hstep
  clear hstep
  have Hops := Lib.hid hops
  clear hops
  go_enter_defers Tryz.func55, Tryz.ntmps55
  go_wp2_with fail
  go_loopw [12] (fun i wr => ∃ k : Nat, k ≤ rs.length ∧ i = .int .i64 k ∧ CalcAt w (.cells #[.int .i64 0, .int .i64 0] 25 (0, 0)) (errAll (rs.take k)) wr) (fun i _ => rs.length - (intOf i).toNat)
  case atStart => exact ⟨0, Nat.zero_le _, rfl, CalcAt.start _ _⟩
  case round =>
    obtain ⟨k, hk, rfl, hcalc⟩ := hrel
    have hsz := lt_of_block hcalc.hc
    by_cases hlt : k < rs.length
    · have ⟨h1, h2⟩ := Hops.out.cells hcalc.below k hlt
      have Hc := Lib.hid hcalc
      have Hs := Lib.hid (errAll_snoc rs k hlt)
      generalize rs[k].1 = n at h1 Hs
      generalize rs[k].2 = d at h2 Hs
      clear hcalc
      go_wp2_with fail
      refine (check_any n d _).mono ?_
      rintro e w1 ⟨rfl, hb1⟩
      have H1 := Lib.hid ((Hc.out.alloc _).later hb1)
      have Hb1 := Lib.hid hb1
      clear hb1
      go_wp2_with fail
      have hor := errAll_or (rs.take k)
      have hs1 := H1.out.below.size
      by_cases hz : errAll (rs.take k) = 0
      · have H1' := H1.out
        rw [hz] at H1'
        refine (keep_first _ _ _ H1'.hc).mono ?_
        rintro e w' ⟨rfl, rfl⟩
        go_wp2_with fail
        go_roundw
        case rel => exact ⟨k + 1, by omega, by go_num, by rw [Hs.out, if_pos hz]; exact H1'.keeps _⟩
        case measure => simp [intOf]; omega
      · have H1' := H1.out
        refine (keep_later _ _ _ (beq_eq_false_iff_ne.2 hz) _ H1'.hc).mono ?_
        rintro e w' ⟨rfl, rfl⟩
        go_wp2_with fail
        go_roundw
        case rel => exact ⟨k + 1, by omega, by go_num, by rw [Hs.out, if_neg hz]; rw [show (8 : Int) = errAll (rs.take k) by omega]; exact H1'⟩
        case measure => simp [intOf]; omega
    obtain rfl : k = rs.length := by omega
    rw [List.take_length] at hcalc
    have h1 := cell_of_one hcalc.hc
    by_cases hz : ¬ errAll rs = 0
    · have hn : (errAll rs == 0) = false := beq_eq_false_iff_ne.2 hz
      have hn' : (errAll rs != 0) = true := by rw [bne_iff_ne]; exact hz
      have Hz := Lib.hid hz
      have Hc := Lib.hid hcalc
      clear hcalc hz
      go_wp2_with fail
      refine leaves_cons (f := 87) (args := #[.pointer (some ⟨w.heap.size + 1 + 1, 0, none⟩), .pointer (some ⟨w.heap.size + 1, 0, none⟩), .pointer (some ⟨w.heap.size, 0, none⟩)]) (by simp) (by simp [go_sem]) ?_
      refine (finishR_bad w 0 0 (errAll rs) hn' .returning _ Hc.out).mono ?_
      rintro e u' w3 ⟨rfl, rfl, h3⟩
      have r0 : w3.cell? ⟨w.heap.size, 0, none⟩ = some (.int .i64 0) := by simp [World.cell?, h3.hres]
      have r1 : w3.cell? ⟨w.heap.size, 1, none⟩ = some (.int .i64 0) := by simp [World.cell?, h3.hres]
      have r3 := cell_of_one h3.hfault
      have HB := Lib.hid h3.below
      clear h3
      simp [Leaves, settle, results, Tryz.results55, go_sem, r0, r1, r3]
      exact ⟨⟨⟨outN_bad Hz.out _, outN_bad Hz.out _⟩, outE_bad Hz.out _⟩, HB.out⟩
    replace hz : errAll rs = 0 := Classical.not_not.1 hz
    rw [hz] at hcalc h1
    have Hz := Lib.hid hz
    have Hc := Lib.hid hcalc
    clear hcalc hz
    go_wp2_with fail
    refine (Hstep.out Hz.out _ Hc.out).mono ?_
    rintro e w2 ⟨rfl, h2⟩
    have H2 := Lib.hid h2
    have e1 := lt_of_block h2.hres
    have q0 : w2.cell? ⟨w.heap.size, 0, none⟩ = some (.int .i64 0) := by simp [World.cell?, h2.hres]
    have p0 : w2.frozen? ⟨w.heap.size, 0, none⟩ = false := by simp [World.frozen?, h2.hres]
    have q1 : w2.cell? ⟨w.heap.size, 1, none⟩ = some (.int .i64 0) := by simp [World.cell?, h2.hres]
    have p1 : w2.frozen? ⟨w.heap.size, 1, none⟩ = false := by simp [World.frozen?, h2.hres]
    clear h2 h1
    go_wp2_with fail
    by_cases hf : f = 0
    · subst hf
      refine leaves_cons (f := 87) (args := #[.pointer (some ⟨w.heap.size + 1 + 1, 0, none⟩), .pointer (some ⟨w.heap.size + 1, 0, none⟩), .pointer (some ⟨w.heap.size, 0, none⟩)]) (by simp) (by simp [go_sem]) ?_
      refine (finishR_ok w _ .returning _ (H2.out.stores (.int .i64 n) (.int .i64 d))).mono ?_
      rintro e u' w3 ⟨rfl, rfl, h3⟩
      have r0 : w3.cell? ⟨w.heap.size, 0, none⟩ = some (.int .i64 n) := by simp [World.cell?, h3.hres]
      have r1 : w3.cell? ⟨w.heap.size, 1, none⟩ = some (.int .i64 d) := by simp [World.cell?, h3.hres]
      have r3 := cell_of_one h3.hfault
      have HB := Lib.hid h3.below
      clear h3
      simp [Leaves, settle, results, Tryz.results55, go_sem, r0, r1, r3]
      exact ⟨⟨⟨outN_fine Hz.out _, outN_fine Hz.out _⟩, outE_fine Hz.out _⟩, HB.out⟩
    · have hf' : (f != 0) = true := by rw [bne_iff_ne]; exact hf
      refine leaves_cons (f := 87) (args := #[.pointer (some ⟨w.heap.size + 1 + 1, 0, none⟩), .pointer (some ⟨w.heap.size + 1, 0, none⟩), .pointer (some ⟨w.heap.size, 0, none⟩)]) (by simp) (by simp [go_sem]) ?_
      refine (finishR_bad w n d f hf' .returning _ (H2.out.stores (.int .i64 n) (.int .i64 d))).mono ?_
      rintro e u' w3 ⟨rfl, rfl, h3⟩
      have r0 : w3.cell? ⟨w.heap.size, 0, none⟩ = some (.int .i64 0) := by simp [World.cell?, h3.hres]
      have r1 : w3.cell? ⟨w.heap.size, 1, none⟩ = some (.int .i64 0) := by simp [World.cell?, h3.hres]
      have r3 := cell_of_one h3.hfault
      have HB := Lib.hid h3.below
      clear h3
      simp [Leaves, settle, results, Tryz.results55, go_sem, r0, r1, r3]
      exact ⟨⟨⟨outN_fault hf _, outN_fault hf _⟩, outE_fine Hz.out _⟩, HB.out⟩

set_option maxHeartbeats 800000 in
theorem calcR_none (k : FuncId) (caps : Array Value) (n d : Int) (f : Int) (w : World)
    (hent : ∀ (us : Array Value) (v : World), (callFunc k us).run Tryz.prog v = .ok (.enter k us) v)
    (hstep : errAll [] = 0 → ∀ wr, CalcAt w (.cells #[.int .i64 0, .int .i64 0] 25 (0, 0)) 0 wr → Calls Tryz.prog k (#[.pointer (some ⟨w.heap.size + 1 + 1, 0, none⟩)] ++ caps) wr fun e w2 =>
      e = .returned (.agg #[.int .i64 n, .int .i64 d]) ∧ CalcAt w (.cells #[.int .i64 0, .int .i64 0] 25 (0, 0)) f w2) :
    Calls Tryz.prog 55 #[.func (.func k) #[] caps, .slice none 0 0] w fun e w' =>
      e = .returned (.tuple #[.agg #[.int .i64 (outN [] n f), .int .i64 (outN [] d f)], .int .i64 (outE [] f)]) ∧ Below w.heap.size w w' := by
  have hmf : ∀ (fn : Fn) (first cap : Array Value) (w : World), (Instr.makeFunc fn first cap).run Tryz.prog w = .ok (.func fn first cap) w := fun _ _ _ _ => rfl
  have Hstep := Lib.hid hstep
  clear hstep
  go_enter_defers Tryz.func55, Tryz.ntmps55
  go_wp2_with fail
  go_loopw [12] (fun i wr => i = .int .i64 0 ∧ CalcAt w (.cells #[.int .i64 0, .int .i64 0] 25 (0, 0)) 0 wr) (fun _ _ => 0)
  case atStart => exact ⟨rfl, CalcAt.start _ _⟩
  case round =>
    obtain ⟨rfl, hcalc⟩ := hrel
    have hsz := lt_of_block hcalc.hc
    have h1 := cell_of_one hcalc.hc
    have Hz : Hid (errAll [] = 0) := errAll_nil
    have Hc := Lib.hid hcalc
    clear hcalc
    go_wp2_with fail
    refine (Hstep.out Hz.out _ Hc.out).mono ?_
    rintro e w2 ⟨rfl, h2⟩
    have H2 := Lib.hid h2
    have e1 := lt_of_block h2.hres
    have q0 : w2.cell? ⟨w.heap.size, 0, none⟩ = some (.int .i64 0) := by simp [World.cell?, h2.hres]
    have p0 : w2.frozen? ⟨w.heap.size, 0, none⟩ = false := by simp [World.frozen?, h2.hres]
    have q1 : w2.cell? ⟨w.heap.size, 1, none⟩ = some (.int .i64 0) := by simp [World.cell?, h2.hres]
    have p1 : w2.frozen? ⟨w.heap.size, 1, none⟩ = false := by simp [World.frozen?, h2.hres]
    clear h2 h1
    go_wp2_with fail
    by_cases hf : f = 0
    · subst hf
      refine leaves_cons (f := 87) (args := #[.pointer (some ⟨w.heap.size + 1 + 1, 0, none⟩), .pointer (some ⟨w.heap.size + 1, 0, none⟩), .pointer (some ⟨w.heap.size, 0, none⟩)]) (by simp) (by simp [go_sem]) ?_
      refine (finishR_ok w _ .returning _ (H2.out.stores (.int .i64 n) (.int .i64 d))).mono ?_
      rintro e u' w3 ⟨rfl, rfl, h3⟩
      have r0 : w3.cell? ⟨w.heap.size, 0, none⟩ = some (.int .i64 n) := by simp [World.cell?, h3.hres]
      have r1 : w3.cell? ⟨w.heap.size, 1, none⟩ = some (.int .i64 d) := by simp [World.cell?, h3.hres]
      have r3 := cell_of_one h3.hfault
      have HB := Lib.hid h3.below
      clear h3
      simp [Leaves, settle, results, Tryz.results55, go_sem, r0, r1, r3]
      exact ⟨⟨⟨outN_fine Hz.out _, outN_fine Hz.out _⟩, outE_fine Hz.out _⟩, HB.out⟩
    · have hf' : (f != 0) = true := by rw [bne_iff_ne]; exact hf
      refine leaves_cons (f := 87) (args := #[.pointer (some ⟨w.heap.size + 1 + 1, 0, none⟩), .pointer (some ⟨w.heap.size + 1, 0, none⟩), .pointer (some ⟨w.heap.size, 0, none⟩)]) (by simp) (by simp [go_sem]) ?_
      refine (finishR_bad w n d f hf' .returning _ (H2.out.stores (.int .i64 n) (.int .i64 d))).mono ?_
      rintro e u' w3 ⟨rfl, rfl, h3⟩
      have r0 : w3.cell? ⟨w.heap.size, 0, none⟩ = some (.int .i64 0) := by simp [World.cell?, h3.hres]
      have r1 : w3.cell? ⟨w.heap.size, 1, none⟩ = some (.int .i64 0) := by simp [World.cell?, h3.hres]
      have r3 := cell_of_one h3.hfault
      have HB := Lib.hid h3.below
      clear h3
      simp [Leaves, settle, results, Tryz.results55, go_sem, r0, r1, r3]
      exact ⟨⟨⟨outN_fault hf _, outN_fault hf _⟩, outE_fine Hz.out _⟩, HB.out⟩

end Go.Proofs.YtakjgjhjndiggaaGreatDoor
namespace Go.Proofs.YtakjgjhjndiggaaGreatDoor
open Go.RowKit
open RM
set_option linter.unusedVariables false
set_option linter.unusedSimpArgs false

theorem mul_bd {x y : Int} (hx : -1000000000 ≤ x) (hx2 : x ≤ 1000000000) (hy : -1000000000 ≤ y) (hy2 : y ≤ 1000000000) : -1000000000000000000 ≤ x * y ∧ x * y ≤ 1000000000000000000 := by
  have h : (x * y).natAbs ≤ 1000000000 * 1000000000 := by
    rw [Int.natAbs_mul]; exact Nat.mul_le_mul (by omega) (by omega)
  omega

theorem CalcAt.of_kept {w wr w2 : World} {res : Obj} {f : Int} (h : CalcAt w res 0 wr) (hk : Kept (w.heap.size + 1 + 1) wr w2) (hc : w2.heap[w.heap.size + 1 + 1]? = some (.cells #[.int .i64 f] 114 (0, 0))) : CalcAt w res f w2 :=
  have hs := h.below.size
  ⟨h.below.trans (hk.below (by omega) hs), (hk.block _ (lt_of_block h.hres) (by omega)).trans h.hres, (hk.block _ (lt_of_block h.hfault) (by omega)).trans h.hfault, hc⟩

/-- The results of an operation on two ratios: the error of the first that has one, else those of X / Y. -/
def op2N (v : Bool) (X Y : Int) : Int := if v = true then mkN X Y else 0
def op2D (v : Bool) (X Y : Int) : Int := if v = true then mkD X Y else 0
def op2E (v : Bool) (X Y : Int) : Int := if v = true then mkE X Y else 8
theorem mkN_err {X Y : Int} (h : mkE X Y ≠ 0) : mkN X Y = 0 ∧ mkD X Y = 0 := by
  have hf : fits X Y = false := by cases hf : fits X Y <;> simp_all [mkE]
  simp [mkN, mkD, hf]
theorem errAll_two (an ad bn bd : Int) : errAll [(an, ad), (bn, bd)] = if (vld an ad && vld bn bd) = true then 0 else 8 := by simp [errAll]
theorem errAll_one (an ad : Int) : errAll [(an, ad)] = if vld an ad = true then 0 else 8 := by simp [errAll]
theorem out_two (an ad bn bd X Y : Int) : outN [(an, ad), (bn, bd)] (mkN X Y) (mkE X Y) = op2N (vld an ad && vld bn bd) X Y ∧
    outN [(an, ad), (bn, bd)] (mkD X Y) (mkE X Y) = op2D (vld an ad && vld bn bd) X Y ∧ outE [(an, ad), (bn, bd)] (mkE X Y) = op2E (vld an ad && vld bn bd) X Y := by
  have h := errAll_two an ad bn bd
  by_cases hE : mkE X Y = 0
  · cases hv : vld an ad && vld bn bd <;> rw [hv] at h <;> simp [outN, outE, op2N, op2D, op2E, h, hE]
  · have := mkN_err hE
    cases hv : vld an ad && vld bn bd <;> rw [hv] at h <;> simp [outN, outE, op2N, op2D, op2E, h, this, hE]
/-- The result of a function that can't fail on valid ratios. -/
def okN (v : Bool) (X : Int) : Int := if v = true then X else 0
def okE (v : Bool) : Int := if v = true then 0 else 8
theorem out_ok2 (an ad bn bd X : Int) : outN [(an, ad), (bn, bd)] X 0 = okN (vld an ad && vld bn bd) X ∧ outE [(an, ad), (bn, bd)] 0 = okE (vld an ad && vld bn bd) := by
  have h := errAll_two an ad bn bd
  cases hv : vld an ad && vld bn bd <;> rw [hv] at h <;> simp [outN, outE, okN, okE, h]
theorem out_ok1 (an ad X : Int) : outN [(an, ad)] X 0 = okN (vld an ad) X ∧ outE [(an, ad)] 0 = okE (vld an ad) := by
  have h := errAll_one an ad
  cases hv : vld an ad <;> rw [hv] at h <;> simp [outN, outE, okN, okE, h]

theorem operands_two (w : World) (an ad bn bd : Int) (bs : Nat) (h : w.heap[bs]? = some (.cells #[.int .i64 an, .int .i64 ad, .int .i64 bn, .int .i64 bd] 25 (0, 0))) : Operands w bs [(an, ad), (bn, bd)] := by
  refine ⟨lt_of_block h, fun i hi => ?_⟩
  match i, hi with
  | 0, _ => constructor <;> simp [World.cell?, h]
  | 1, _ => constructor <;> simp [World.cell?, h]
theorem operands_one (w : World) (an ad : Int) (bs : Nat) (h : w.heap[bs]? = some (.cells #[.int .i64 an, .int .i64 ad] 25 (0, 0))) : Operands w bs [(an, ad)] := by
  refine ⟨lt_of_block h, fun i hi => ?_⟩
  match i, hi with
  | 0, _ => constructor <;> simp [World.cell?, h]

set_option maxHeartbeats 400000 in
theorem add_step (c pa pb : Nat) (an ad bn bd : Int) (ha : vld an ad = true) (hb : vld bn bd = true) (w : World) (hc : w.heap[c]? = some (.cells #[.int .i64 0] 114 (0, 0)))
    (ea : w.heap[pa]? = some (.cells #[.int .i64 an, .int .i64 ad] 25 (0, 0))) (eb : w.heap[pb]? = some (.cells #[.int .i64 bn, .int .i64 bd] 25 (0, 0))) :
    Calls Tryz.prog 56 #[.pointer (some ⟨c, 0, none⟩), .pointer (some ⟨pa, 0, none⟩), .pointer (some ⟨pb, 0, none⟩)] w (Reduced c (an * bd + bn * ad) (ad * bd) w) := by
  obtain ⟨a1, a2, a3, a4, a5⟩ := vld_iff.1 ha
  obtain ⟨b1, b2, b3, b4, b5⟩ := vld_iff.1 hb
  clear a5 b5 ha hb
  obtain ⟨m1a, m1b⟩ := mul_bd a3 a4 (by omega) b2
  obtain ⟨m2a, m2b⟩ := mul_bd b3 b4 (by omega) a2
  obtain ⟨m3a, m3b⟩ := mul_bd (by omega) a2 (by omega) b2
  obtain ⟨m4a, m4b⟩ := mul_bd a3 a4 b3 b4
  obtain ⟨m5a, m5b⟩ := mul_bd (by omega) a2 b3 b4
  have q1 : w.cell? ⟨pa, 0, none⟩ = some (.int .i64 an) := by simp [World.cell?, ea]
  have q2 : w.cell? ⟨pa, 1, none⟩ = some (.int .i64 ad) := by simp [World.cell?, ea]
  have q3 : w.cell? ⟨pb, 0, none⟩ = some (.int .i64 bn) := by simp [World.cell?, eb]
  have q4 : w.cell? ⟨pb, 1, none⟩ = some (.int .i64 bd) := by simp [World.cell?, eb]
  have l1 := lt_of_block ea
  have l2 := lt_of_block eb
  have l3 := lt_of_block hc
  have Hc := Lib.hid hc
  clear hc ea eb
  go_enter Tryz.func56, Tryz.ntmps56
  go_wp2_with fail
  refine (reduce_any c _ _ (by omega) (by omega) (by omega) (by omega) _ (by exact heap_alloc_old Hc.out _)).mono ?_
  rintro e w1 ⟨rfl, h1, h2⟩
  have H1 := Lib.hid h1
  have H2 := Lib.hid h2
  have hz : w.heap.size + 1 ≤ w1.heap.size := by simpa using h2.size
  have e0 : w1.heap[w.heap.size]? = some (.cells #[.int .i64 0, .int .i64 0] 25 (0, 0)) := (h2.block _ (by simp) (by omega)).trans (heap_alloc_new _ _)
  have q5 : w1.cell? ⟨w.heap.size, 0, none⟩ = some (.int .i64 0) := by simp [World.cell?, e0]
  have q6 : w1.cell? ⟨w.heap.size, 1, none⟩ = some (.int .i64 0) := by simp [World.cell?, e0]
  have q7 : w1.frozen? ⟨w.heap.size, 0, none⟩ = false := by simp [World.frozen?, e0]
  have q8 : w1.frozen? ⟨w.heap.size, 1, none⟩ = false := by simp [World.frozen?, e0]
  clear h1 h2 e0
  go_wp2_with fail
  refine bodyPost_ret (v := .agg #[.int .i64 (mkN (an * bd + bn * ad) (ad * bd)), .int .i64 (mkD (an * bd + bn * ad) (ad * bd))]) (by simp [results, Tryz.results56, go_sem, q5, q6]) rfl ⟨rfl, ?_, ?_⟩
  · exact heap_set_other (heap_set_other H1.out (by show c ≠ w.heap.size; omega) _) (by show c ≠ w.heap.size; omega) _
  · exact (((Kept.refl c w).alloc _).trans H2.out).setCell (.inr (Nat.le_refl _)) _ |>.setCell (.inr (Nat.le_refl _)) _

set_option maxHeartbeats 400000 in
/-- Add: X / Y with X = an * bd + bn * ad and Y = ad * bd. -/
theorem add_any (an ad bn bd : Int) (w : World) :
    Calls Tryz.prog 37 #[.agg #[.int .i64 an, .int .i64 ad], .agg #[.int .i64 bn, .int .i64 bd]] w fun e w' =>
      e = .returned (.tuple #[.agg #[.int .i64 (op2N (vld an ad && vld bn bd) (an * bd + bn * ad) (ad * bd)), .int .i64 (op2D (vld an ad && vld bn bd) (an * bd + bn * ad) (ad * bd))], .int .i64 (op2E (vld an ad && vld bn bd) (an * bd + bn * ad) (ad * bd))]) ∧ Below w.heap.size w w' := by
  have hmf : ∀ (fn : Fn) (first cap : Array Value) (w : World), (Instr.makeFunc fn first cap).run Tryz.prog w = .ok (.func fn first cap) w := fun _ _ _ _ => rfl
  go_enter Tryz.func37, Tryz.ntmps37
  go_wp2_with fail
  have eA : ((((w.alloc (.cells #[.int .i64 an, .int .i64 ad] 25)).alloc (.cells #[.int .i64 bn, .int .i64 bd] 25)).alloc (.cells #[.int .i64 0, .int .i64 0] 25)).alloc (.cells #[.int .i64 an, .int .i64 ad, .int .i64 bn, .int .i64 bd] 25)).heap[w.heap.size]? = some (.cells #[.int .i64 an, .int .i64 ad] 25 (0, 0)) :=
    heap_alloc_old (heap_alloc_old (heap_alloc_old (heap_alloc_new _ _) _) _) _
  have eB : ((((w.alloc (.cells #[.int .i64 an, .int .i64 ad] 25)).alloc (.cells #[.int .i64 bn, .int .i64 bd] 25)).alloc (.cells #[.int .i64 0, .int .i64 0] 25)).alloc (.cells #[.int .i64 an, .int .i64 ad, .int .i64 bn, .int .i64 bd] 25)).heap[w.heap.size + 1]? = some (.cells #[.int .i64 bn, .int .i64 bd] 25 (0, 0)) :=
    heap_alloc_old (heap_alloc_old (by have := heap_alloc_new (w.alloc (.cells #[.int .i64 an, .int .i64 ad] 25)) (.cells #[.int .i64 bn, .int .i64 bd] 25); simpa using this) _) _
  have eS : ((((w.alloc (.cells #[.int .i64 an, .int .i64 ad] 25)).alloc (.cells #[.int .i64 bn, .int .i64 bd] 25)).alloc (.cells #[.int .i64 0, .int .i64 0] 25)).alloc (.cells #[.int .i64 an, .int .i64 ad, .int .i64 bn, .int .i64 bd] 25)).heap[w.heap.size + 1 + 1 + 1]? = some (.cells #[.int .i64 an, .int .i64 ad, .int .i64 bn, .int .i64 bd] 25 (0, 0)) := by
    have := heap_alloc_new (((w.alloc (.cells #[.int .i64 an, .int .i64 ad] 25)).alloc (.cells #[.int .i64 bn, .int .i64 bd] 25)).alloc (.cells #[.int .i64 0, .int .i64 0] 25)) (.cells #[.int .i64 an, .int .i64 ad, .int .i64 bn, .int .i64 bd] 25)
    simpa using this
  refine (calcR_some 56 #[.pointer (some ⟨w.heap.size, 0, none⟩), .pointer (some ⟨w.heap.size + 1, 0, none⟩)] (w.heap.size + 1 + 1 + 1) 2 [(an, ad), (bn, bd)]
    (mkN (an * bd + bn * ad) (ad * bd)) (mkD (an * bd + bn * ad) (ad * bd)) (mkE (an * bd + bn * ad) (ad * bd)) _ (by simp) (operands_two _ an ad bn bd _ eS) (fun us v => by simp [go_sem]) ?_).mono ?_
  · intro herr wr hcalc
    have hv : (vld an ad && vld bn bd) = true := by rw [errAll_two] at herr; revert herr; split <;> simp_all
    rw [Bool.and_eq_true] at hv
    refine (add_step _ _ _ an ad bn bd hv.1 hv.2 wr hcalc.hc ((hcalc.below.block _ (lt_of_block eA)).trans eA) ((hcalc.below.block _ (lt_of_block eB)).trans eB)).mono ?_
    rintro e w2 ⟨rfl, h1, h2⟩
    exact ⟨rfl, hcalc.of_kept h2 h1⟩
  rintro e w1 ⟨rfl, hb1⟩
  have HB := Lib.hid hb1
  have hs1 : w.heap.size + 1 + 1 + 1 + 1 ≤ w1.heap.size := by simpa using hb1.size
  have e0 : w1.heap[w.heap.size + 1 + 1]? = some (.cells #[.int .i64 0, .int .i64 0] 25 (0, 0)) := by
    refine (hb1.block _ (by simp)).trans (heap_alloc_old ?_ _)
    have := heap_alloc_new ((w.alloc (.cells #[.int .i64 an, .int .i64 ad] 25)).alloc (.cells #[.int .i64 bn, .int .i64 bd] 25)) (.cells #[.int .i64 0, .int .i64 0] 25)
    simpa using this
  have q5 : w1.cell? ⟨w.heap.size + 1 + 1, 0, none⟩ = some (.int .i64 0) := by simp [World.cell?, e0]
  have q6 : w1.cell? ⟨w.heap.size + 1 + 1, 1, none⟩ = some (.int .i64 0) := by simp [World.cell?, e0]
  have q7 : w1.frozen? ⟨w.heap.size + 1 + 1, 0, none⟩ = false := by simp [World.frozen?, e0]
  have q8 : w1.frozen? ⟨w.heap.size + 1 + 1, 1, none⟩ = false := by simp [World.frozen?, e0]
  obtain ⟨o1, o2, o3⟩ := out_two an ad bn bd (an * bd + bn * ad) (ad * bd)
  rw [o1, o2, o3]
  clear hb1 eA eB eS e0 o1 o2 o3
  go_wp2_with fail
  refine bodyPost_ret (v := .tuple #[.agg #[.int .i64 (op2N (vld an ad && vld bn bd) (an * bd + bn * ad) (ad * bd)), .int .i64 (op2D (vld an ad && vld bn bd) (an * bd + bn * ad) (ad * bd))], .int .i64 (op2E (vld an ad && vld bn bd) (an * bd + bn * ad) (ad * bd))]) (by simp [results, Tryz.results37, go_sem, q5, q6]) rfl ⟨rfl, ?_⟩
  refine Below.setCell (Below.setCell (Below.trans ?_ (HB.out.mono ?_)) ?_ _) ?_ _
  · exact (((Below.refl _ _).alloc (Nat.le_refl _) _).alloc (by simp) _).alloc (by simp; omega) _ |>.alloc (by simp; omega) _
  all_goals (simp <;> omega)

end Go.Proofs.YtakjgjhjndiggaaGreatDoor
namespace Go.Proofs.YtakjgjhjndiggaaGreatDoor
open Go.RowKit
open RM
set_option linter.unusedVariables false
set_option linter.unusedSimpArgs false

set_option maxHeartbeats 400000 in
theorem finishI_ok (w : World) (res : Obj) (u : FrameMode) (wr : World) (h : CalcAt w res 0 wr) :
    CallsD Tryz.prog 128 #[.pointer (some ⟨w.heap.size + 1 + 1, 0, none⟩), .pointer (some ⟨w.heap.size + 1, 0, none⟩), .pointer (some ⟨w.heap.size, 0, none⟩)] u wr fun e u' w' =>
      u' = u ∧ e = .returned (.tuple #[]) ∧ FinAt w res 0 w' := by
  have h1 := cell_of_one h.hc
  have h2 := cell_of_one h.hfault
  have h3 := free_of_one h.hfault
  have h4 := cell_of_one (one_setCell (u := .int .i64 0) h.hfault)
  have H : Hid (FinAt w res 0 (wr.setCell ⟨w.heap.size + 1, 0, none⟩ (.int .i64 0))) :=
    ⟨h.below.setCell (by show w.heap.size ≤ w.heap.size + 1; omega) _, heap_set_other h.hres (by show w.heap.size ≠ w.heap.size + 1; omega) _, one_setCell h.hfault⟩
  clear h
  go_enter_d Tryz.func128, Tryz.ntmps128
  go_wp2_with fail
  go_end0
  exact ⟨rfl, H.out⟩

set_option maxHeartbeats 400000 in
theorem finishI_bad (w : World) (x : Int) (f : Int) (hf : (f != 0) = true) (u : FrameMode) (wr : World) (h : CalcAt w (.cells #[.int .i64 x] 3 (0, 0)) f wr) :
    CallsD Tryz.prog 128 #[.pointer (some ⟨w.heap.size + 1 + 1, 0, none⟩), .pointer (some ⟨w.heap.size + 1, 0, none⟩), .pointer (some ⟨w.heap.size, 0, none⟩)] u wr fun e u' w' =>
      u' = u ∧ e = .returned (.tuple #[]) ∧ FinAt w (.cells #[.int .i64 0] 3 (0, 0)) f w' := by
  have h1 := cell_of_one h.hc
  have h2 := cell_of_one h.hfault
  have h3 := free_of_one h.hfault
  have h4 := cell_of_one (one_setCell (u := .int .i64 f) h.hfault)
  have e1 := lt_of_block h.hres
  have e2 := lt_of_block h.hfault
  have q0 : wr.cell? ⟨w.heap.size, 0, none⟩ = some (.int .i64 x) := by simp [World.cell?, h.hres]
  have p0 : wr.frozen? ⟨w.heap.size, 0, none⟩ = false := by simp [World.frozen?, h.hres]
  have H : Hid (FinAt w (.cells #[.int .i64 0] 3 (0, 0)) f ((wr.setCell ⟨w.heap.size + 1, 0, none⟩ (.int .i64 f)).setCell ⟨w.heap.size, 0, none⟩ (.int .i64 0))) :=
    ⟨(h.below.setCell (by show w.heap.size ≤ w.heap.size + 1; omega) _).setCell (by exact Nat.le_refl _) _,
     one_setCell (heap_set_other h.hres (by show w.heap.size ≠ w.heap.size + 1; omega) _),
     heap_set_other (one_setCell h.hfault) (by show w.heap.size + 1 ≠ w.heap.size; omega) _⟩
  clear h
  go_enter_d Tryz.func128, Tryz.ntmps128
  go_wp2_with fail
  go_end0
  exact ⟨rfl, H.out⟩

set_option maxHeartbeats 800000 in
theorem calcI_some (k : FuncId) (caps : Array Value) (bs cap : Nat) (rs : List (Int × Int)) (n : Int) (f : Int) (w : World) (hlen : rs.length ≤ 1000) (hops : Operands w bs rs)
    (hent : ∀ (us : Array Value) (v : World), (callFunc k us).run Tryz.prog v = .ok (.enter k us) v)
    (hstep : errAll rs = 0 → ∀ wr, CalcAt w (.cells #[.int .i64 0] 3 (0, 0)) 0 wr → Calls Tryz.prog k (#[.pointer (some ⟨w.heap.size + 1 + 1, 0, none⟩)] ++ caps) wr fun e w2 =>
      e = .returned (.int .i64 n) ∧ CalcAt w (.cells #[.int .i64 0] 3 (0, 0)) f w2) :
    Calls Tryz.prog 110 #[.func (.func k) #[] caps, .slice (some ⟨bs, 0, none⟩) rs.length cap] w fun e w' =>
      e = .returned (.tuple #[.int .i64 (outN rs n f), .int .i64 (outE rs f)]) ∧ Below w.heap.size w w' := by
  have hmf : ∀ (fn : Fn) (first cap : Array Value) (w : World), (Instr.makeFunc fn first cap).run Tryz.prog w = .ok (.func fn first cap) w := fun _ _ _ _ => rfl
  have Hstep := Lib.hid hstep
  clear hstep
  have Hops := Lib.hid hops
  clear hops
  go_enter_defers Tryz.func110, Tryz.ntmps110
  go_wp2_with fail
  go_loopw [12] (fun i wr => ∃ k : Nat, k ≤ rs.length ∧ i = .int .i64 k ∧ CalcAt w (.cells #[.int .i64 0] 3 (0, 0)) (errAll (rs.take k)) wr) (fun i _ => rs.length - (intOf i).toNat)
  case atStart => exact ⟨0, Nat.zero_le _, rfl, CalcAt.start _ _⟩
  case round =>
    obtain ⟨k, hk, rfl, hcalc⟩ := hrel
    have hsz := lt_of_block hcalc.hc
    by_cases hlt : k < rs.length
    · have ⟨h1, h2⟩ := Hops.out.cells hcalc.below k hlt
      have Hc := Lib.hid hcalc
      have Hs := Lib.hid (errAll_snoc rs k hlt)
      generalize rs[k].1 = n at h1 Hs
      generalize rs[k].2 = d at h2 Hs
      clear hcalc
      go_wp2_with fail
      refine (check_any n d _).mono ?_
      rintro e w1 ⟨rfl, hb1⟩
      have H1 := Lib.hid ((Hc.out.alloc _).later hb1)
      have Hb1 := Lib.hid hb1
      clear hb1
      go_wp2_with fail
      have hor := errAll_or (rs.take k)
      have hs1 := H1.out.below.size
      by_cases hz : errAll (rs.take k) = 0
      · have H1' := H1.out
        rw [hz] at H1'
        refine (keep_first _ _ _ H1'.hc).mono ?_
        rintro e w' ⟨rfl, rfl⟩
        go_wp2_with fail
        go_roundw
        case rel => exact ⟨k + 1, by omega, by go_num, by rw [Hs.out, if_pos hz]; exact H1'.keeps _⟩
        case measure => simp [intOf]; omega
      · have H1' := H1.out
        refine (keep_later _ _ _ (beq_eq_false_iff_ne.2 hz) _ H1'.hc).mono ?_
        rintro e w' ⟨rfl, rfl⟩
        go_wp2_with fail
        go_roundw
        case rel => exact ⟨k + 1, by omega, by go_num, by rw [Hs.out, if_neg hz]; rw [show (8 : Int) = errAll (rs.take k) by omega]; exact H1'⟩
        case measure => simp [intOf]; omega
    obtain rfl : k = rs.length := by omega
    rw [List.take_length] at hcalc
    have h1 := cell_of_one hcalc.hc
    by_cases hz : ¬ errAll rs = 0
    · have hn : (errAll rs == 0) = false := beq_eq_false_iff_ne.2 hz
      have hn' : (errAll rs != 0) = true := by rw [bne_iff_ne]; exact hz
      have Hz := Lib.hid hz
      have Hc := Lib.hid hcalc
      clear hcalc hz
      go_wp2_with fail
      refine leaves_cons (f := 128) (args := #[.pointer (some ⟨w.heap.size + 1 + 1, 0, none⟩), .pointer (some ⟨w.heap.size + 1, 0, none⟩), .pointer (some ⟨w.heap.size, 0, none⟩)]) (by simp) (by simp [go_sem]) ?_
      refine (finishI_bad w 0 (errAll rs) hn' .returning _ Hc.out).mono ?_
      rintro e u' w3 ⟨rfl, rfl, h3⟩
      have r0 : w3.cell? ⟨w.heap.size, 0, none⟩ = some (.int .i64 0) := by simp [World.cell?, h3.hres]
      have r3 := cell_of_one h3.hfault
      have HB := Lib.hid h3.below
      clear h3
      simp [Leaves, settle, results, Tryz.results110, go_sem, r0, r3]
      exact ⟨⟨outN_bad Hz.out _, outE_bad Hz.out _⟩, HB.out⟩
    replace hz : errAll rs = 0 := Classical.not_not.1 hz
    rw [hz] at hcalc h1
    have Hz := Lib.hid hz
    have Hc := Lib.hid hcalc
    clear hcalc hz
    go_wp2_with fail
    refine (Hstep.out Hz.out _ Hc.out).mono ?_
    rintro e w2 ⟨rfl, h2⟩
    have H2 := Lib.hid h2
    have e1 := lt_of_block h2.hres
    have q0 : w2.cell? ⟨w.heap.size, 0, none⟩ = some (.int .i64 0) := by simp [World.cell?, h2.hres]
    have p0 : w2.frozen? ⟨w.heap.size, 0, none⟩ = false := by simp [World.frozen?, h2.hres]
    clear h2 h1
    go_wp2_with fail
    by_cases hf : f = 0
    · subst hf
      refine leaves_cons (f := 128) (args := #[.pointer (some ⟨w.heap.size + 1 + 1, 0, none⟩), .pointer (some ⟨w.heap.size + 1, 0, none⟩), .pointer (some ⟨w.heap.size, 0, none⟩)]) (by simp) (by simp [go_sem]) ?_
      refine (finishI_ok w _ .returning _ (H2.out.store (.int .i64 n))).mono ?_
      rintro e u' w3 ⟨rfl, rfl, h3⟩
      have r0 : w3.cell? ⟨w.heap.size, 0, none⟩ = some (.int .i64 n) := by simp [World.cell?, h3.hres]
      have r3 := cell_of_one h3.hfault
      have HB := Lib.hid h3.below
      clear h3
      simp [Leaves, settle, results, Tryz.results110, go_sem, r0, r3]
      exact ⟨⟨outN_fine Hz.out _, outE_fine Hz.out _⟩, HB.out⟩
    · have hf' : (f != 0) = true := by rw [bne_iff_ne]; exact hf
      refine leaves_cons (f := 128) (args := #[.pointer (some ⟨w.heap.size + 1 + 1, 0, none⟩), .pointer (some ⟨w.heap.size + 1, 0, none⟩), .pointer (some ⟨w.heap.size, 0, none⟩)]) (by simp) (by simp [go_sem]) ?_
      refine (finishI_bad w n f hf' .returning _ (H2.out.store (.int .i64 n))).mono ?_
      rintro e u' w3 ⟨rfl, rfl, h3⟩
      have r0 : w3.cell? ⟨w.heap.size, 0, none⟩ = some (.int .i64 0) := by simp [World.cell?, h3.hres]
      have r3 := cell_of_one h3.hfault
      have HB := Lib.hid h3.below
      clear h3
      simp [Leaves, settle, results, Tryz.results110, go_sem, r0, r3]
      exact ⟨⟨outN_fault hf _, outE_fine Hz.out _⟩, HB.out⟩

set_option maxHeartbeats 800000 in
theorem calcI_none (k : FuncId) (caps : Array Value) (n : Int) (f : Int) (w : World)
    (hent : ∀ (us : Array Value) (v : World), (callFunc k us).run Tryz.prog v = .ok (.enter k us) v)
    (hstep : errAll [] = 0 → ∀ wr, CalcAt w (.cells #[.int .i64 0] 3 (0, 0)) 0 wr → Calls Tryz.prog k (#[.pointer (some ⟨w.heap.size + 1 + 1, 0, none⟩)] ++ caps) wr fun e w2 =>
      e = .returned (.int .i64 n) ∧ CalcAt w (.cells #[.int .i64 0] 3 (0, 0)) f w2) :
    Calls Tryz.prog 110 #[.func (.func k) #[] caps, .slice none 0 0] w fun e w' =>
      e = .returned (.tuple #[.int .i64 (outN [] n f), .int .i64 (outE [] f)]) ∧ Below w.heap.size w w' := by
  have hmf : ∀ (fn : Fn) (first cap : Array Value) (w : World), (Instr.makeFunc fn first cap).run Tryz.prog w = .ok (.func fn first cap) w := fun _ _ _ _ => rfl
  have Hstep := Lib.hid hstep
  clear hstep
  go_enter_defers Tryz.func110, Tryz.ntmps110
  go_wp2_with fail
  go_loopw [12] (fun i wr => i = .int .i64 0 ∧ CalcAt w (.cells #[.int .i64 0] 3 (0, 0)) 0 wr) (fun _ _ => 0)
  case atStart => exact ⟨rfl, CalcAt.start _ _⟩
  case round =>
    obtain ⟨rfl, hcalc⟩ := hrel
    have hsz := lt_of_block hcalc.hc
    have h1 := cell_of_one hcalc.hc
    have Hz : Hid (errAll [] = 0) := errAll_nil
    have Hc := Lib.hid hcalc
    clear hcalc
    go_wp2_with fail
    refine (Hstep.out Hz.out _ Hc.out).mono ?_
    rintro e w2 ⟨rfl, h2⟩
    have H2 := Lib.hid h2
    have e1 := lt_of_block h2.hres
    have q0 : w2.cell? ⟨w.heap.size, 0, none⟩ = some (.int .i64 0) := by simp [World.cell?, h2.hres]
    have p0 : w2.frozen? ⟨w.heap.size, 0, none⟩ = false := by simp [World.frozen?, h2.hres]
    clear h2 h1
    go_wp2_with fail
    by_cases hf : f = 0
    · subst hf
      refine leaves_cons (f := 128) (args := #[.pointer (some ⟨w.heap.size + 1 + 1, 0, none⟩), .pointer (some ⟨w.heap.size + 1, 0, none⟩), .pointer (some ⟨w.heap.size, 0, none⟩)]) (by simp) (by simp [go_sem]) ?_
      refine (finishI_ok w _ .returning _ (H2.out.store (.int .i64 n))).mono ?_
      rintro e u' w3 ⟨rfl, rfl, h3⟩
      have r0 : w3.cell? ⟨w.heap.size, 0, none⟩ = some (.int .i64 n) := by simp [World.cell?, h3.hres]
      have r3 := cell_of_one h3.hfault
      have HB := Lib.hid h3.below
      clear h3
      simp [Leaves, settle, results, Tryz.results110, go_sem, r0, r3]
      exact ⟨⟨outN_fine Hz.out _, outE_fine Hz.out _⟩, HB.out⟩
    · have hf' : (f != 0) = true := by rw [bne_iff_ne]; exact hf
      refine leaves_cons (f := 128) (args := #[.pointer (some ⟨w.heap.size + 1 + 1, 0, none⟩), .pointer (some ⟨w.heap.size + 1, 0, none⟩), .pointer (some ⟨w.heap.size, 0, none⟩)]) (by simp) (by simp [go_sem]) ?_
      refine (finishI_bad w n f hf' .returning _ (H2.out.store (.int .i64 n))).mono ?_
      rintro e u' w3 ⟨rfl, rfl, h3⟩
      have r0 : w3.cell? ⟨w.heap.size, 0, none⟩ = some (.int .i64 0) := by simp [World.cell?, h3.hres]
      have r3 := cell_of_one h3.hfault
      have HB := Lib.hid h3.below
      clear h3
      simp [Leaves, settle, results, Tryz.results110, go_sem, r0, r3]
      exact ⟨⟨outN_fault hf _, outE_fine Hz.out _⟩, HB.out⟩

end Go.Proofs.YtakjgjhjndiggaaGreatDoor
namespace Go.Proofs.YtakjgjhjndiggaaGreatDoor
open Go.RowKit
open RM
set_option linter.unusedVariables false
set_option linter.unusedSimpArgs false

end Go.Proofs.YtakjgjhjndiggaaGreatDoor
namespace Go.Proofs.YtakjgjhjndiggaaGreatDoor
open Go.RowKit
open RM
set_option linter.unusedVariables false
set_option linter.unusedSimpArgs false

theorem tdiv_bd (n d : Int) (h1 : -1000000000 ≤ n) (h2 : n ≤ 1000000000) : -1000000000 ≤ n.tdiv d ∧ n.tdiv d ≤ 1000000000 := by
  have h : (n.tdiv d).natAbs ≤ n.natAbs := by rw [Int.natAbs_tdiv]; exact Nat.div_le_self _ _
  omega
theorem floor_down {n d : Int} (hd : 1 ≤ d) (h : n.tmod d < 0) : n.tdiv d - 1 = n / d := by
  have e := Int.mul_tdiv_add_tmod n d
  have l := Int.lt_tmod_of_pos n (show 0 < d by omega)
  refine ((Int.ediv_emod_unique (r := n.tmod d + d) (q := n.tdiv d - 1) (show 0 < d by omega)).2 ⟨?_, by omega, by omega⟩).1.symm
  rw [Int.mul_sub, Int.mul_one]; omega
theorem floor_flat {n d : Int} (hd : 1 ≤ d) (h : 0 ≤ n.tmod d) : n.tdiv d = n / d := by
  have e := Int.mul_tdiv_add_tmod n d
  have l := Int.tmod_lt_of_pos n (show 0 < d by omega)
  exact ((Int.ediv_emod_unique (r := n.tmod d) (q := n.tdiv d) (show 0 < d by omega)).2 ⟨by omega, by omega, by omega⟩).1.symm

/-- The sign of a difference. -/
def cmpI (x y : Int) : Int := if x < y then -1 else if y < x then 1 else 0
set_option maxHeartbeats 400000 in
theorem compare_any (a b : Int) (w : World) :
    Calls Tryz.prog 112 #[.int .i64 a, .int .i64 b] w fun e w' => e = .returned (.int .i64 (cmpI a b)) ∧ w = w' := by
  by_cases h : a < b
  · have H := Lib.hid (show (-1 : Int) = cmpI a b by simp [cmpI, h])
    go_enter Tryz.func112, Tryz.ntmps112
    go_wp2
    go_ret
    exact ⟨ret_num H.out, rfl⟩
  by_cases h' : b < a
  · have H := Lib.hid (show (1 : Int) = cmpI a b by simp [cmpI, h, h'])
    go_enter Tryz.func112, Tryz.ntmps112
    go_wp2
    go_ret
    exact ⟨ret_num H.out, rfl⟩
  · have H := Lib.hid (show (0 : Int) = cmpI a b by simp [cmpI, h, h'])
    go_enter Tryz.func112, Tryz.ntmps112
    go_wp2
    go_ret
    exact ⟨ret_num H.out, rfl⟩

set_option maxHeartbeats 400000 in
theorem cmp_step (c pa pb : Nat) (an ad bn bd : Int) (ha : vld an ad = true) (hb : vld bn bd = true) (w : World)
    (ea : w.heap[pa]? = some (.cells #[.int .i64 an, .int .i64 ad] 25 (0, 0))) (eb : w.heap[pb]? = some (.cells #[.int .i64 bn, .int .i64 bd] 25 (0, 0))) :
    Calls Tryz.prog 111 #[.pointer (some ⟨c, 0, none⟩), .pointer (some ⟨pa, 0, none⟩), .pointer (some ⟨pb, 0, none⟩)] w fun e w' => e = .returned (.int .i64 (cmpI (an * bd) (bn * ad))) ∧ w = w' := by
  obtain ⟨a1, a2, a3, a4, a5⟩ := vld_iff.1 ha
  obtain ⟨b1, b2, b3, b4, b5⟩ := vld_iff.1 hb
  clear a5 b5 ha hb
  obtain ⟨m1a, m1b⟩ := mul_bd a3 a4 (by omega) b2
  obtain ⟨m2a, m2b⟩ := mul_bd b3 b4 (by omega) a2
  have q1 : w.cell? ⟨pa, 0, none⟩ = some (.int .i64 an) := by simp [World.cell?, ea]
  have q2 : w.cell? ⟨pa, 1, none⟩ = some (.int .i64 ad) := by simp [World.cell?, ea]
  have q3 : w.cell? ⟨pb, 0, none⟩ = some (.int .i64 bn) := by simp [World.cell?, eb]
  have q4 : w.cell? ⟨pb, 1, none⟩ = some (.int .i64 bd) := by simp [World.cell?, eb]
  have l1 := lt_of_block ea
  have l2 := lt_of_block eb
  clear ea eb
  go_enter Tryz.func111, Tryz.ntmps111
  go_wp2_with fail
  refine (compare_any _ _ _).mono ?_
  rintro e w1 ⟨rfl, rfl⟩
  go_wp2_with fail
  go_ret
  exact ⟨rfl, rfl⟩

set_option maxHeartbeats 400000 in
theorem cmp_any (an ad bn bd : Int) (w : World) :
    Calls Tryz.prog 83 #[.agg #[.int .i64 an, .int .i64 ad], .agg #[.int .i64 bn, .int .i64 bd]] w fun e w' =>
      e = .returned (.tuple #[.int .i64 (okN (vld an ad && vld bn bd) (cmpI (an * bd) (bn * ad))), .int .i64 (okE (vld an ad && vld bn bd))]) ∧ Below w.heap.size w w' := by
  have hmf : ∀ (fn : Fn) (first cap : Array Value) (w : World), (Instr.makeFunc fn first cap).run Tryz.prog w = .ok (.func fn first cap) w := fun _ _ _ _ => rfl
  go_enter Tryz.func83, Tryz.ntmps83
  go_wp2_with fail
  have eA : (((w.alloc (.cells #[.int .i64 an, .int .i64 ad] 25)).alloc (.cells #[.int .i64 bn, .int .i64 bd] 25)).alloc (.cells #[.int .i64 an, .int .i64 ad, .int .i64 bn, .int .i64 bd] 25)).heap[w.heap.size]? = some (.cells #[.int .i64 an, .int .i64 ad] 25 (0, 0)) := heap_alloc_old (heap_alloc_old (heap_alloc_new _ _) _) _
  have eB : (((w.alloc (.cells #[.int .i64 an, .int .i64 ad] 25)).alloc (.cells #[.int .i64 bn, .int .i64 bd] 25)).alloc (.cells #[.int .i64 an, .int .i64 ad, .int .i64 bn, .int .i64 bd] 25)).heap[w.heap.size + 1]? = some (.cells #[.int .i64 bn, .int .i64 bd] 25 (0, 0)) :=
    heap_alloc_old (by have := heap_alloc_new (w.alloc (.cells #[.int .i64 an, .int .i64 ad] 25)) (.cells #[.int .i64 bn, .int .i64 bd] 25); simpa using this) _
  have eS : (((w.alloc (.cells #[.int .i64 an, .int .i64 ad] 25)).alloc (.cells #[.int .i64 bn, .int .i64 bd] 25)).alloc (.cells #[.int .i64 an, .int .i64 ad, .int .i64 bn, .int .i64 bd] 25)).heap[w.heap.size + 1 + 1]? = some (.cells #[.int .i64 an, .int .i64 ad, .int .i64 bn, .int .i64 bd] 25 (0, 0)) := by
    have := heap_alloc_new ((w.alloc (.cells #[.int .i64 an, .int .i64 ad] 25)).alloc (.cells #[.int .i64 bn, .int .i64 bd] 25)) (.cells #[.int .i64 an, .int .i64 ad, .int .i64 bn, .int .i64 bd] 25)
    simpa using this
  refine (calcI_some 111 #[.pointer (some ⟨w.heap.size, 0, none⟩), .pointer (some ⟨w.heap.size + 1, 0, none⟩)] (w.heap.size + 1 + 1) 2 [(an, ad), (bn, bd)]
    (cmpI (an * bd) (bn * ad)) 0 _ (by simp) (operands_two _ an ad bn bd _ eS) (fun us v => by simp [go_sem]) ?_).mono ?_
  · intro herr wr hcalc
    have hv : (vld an ad && vld bn bd) = true := by rw [errAll_two] at herr; revert herr; split <;> simp_all
    rw [Bool.and_eq_true] at hv
    refine (cmp_step _ _ _ an ad bn bd hv.1 hv.2 wr ((hcalc.below.block _ (lt_of_block eA)).trans eA) ((hcalc.below.block _ (lt_of_block eB)).trans eB)).mono ?_
    rintro e w2 ⟨rfl, rfl⟩
    exact ⟨rfl, hcalc⟩
  rintro e w1 ⟨rfl, hb1⟩
  have HB := Lib.hid hb1
  obtain ⟨o1, o2⟩ := out_ok2 an ad bn bd (cmpI (an * bd) (bn * ad))
  rw [o1, o2]
  clear hb1 eA eB eS o1 o2
  go_wp2_with fail
  go_ret2
  exact ⟨rfl, Below.trans ((((Below.refl _ _).alloc (Nat.le_refl _) _).alloc (by simp) _).alloc (by simp; omega) _) (HB.out.mono (by simp; omega))⟩

end Go.Proofs.YtakjgjhjndiggaaGreatDoor
namespace Go.Proofs.YtakjgjhjndiggaaGreatDoor
open Go.RowKit
open RM
set_option linter.unusedVariables false
set_option linter.unusedSimpArgs false

set_option maxHeartbeats 400000 in
theorem finishS_ok (w : World) (res : Obj) (u : FrameMode) (wr : World) (h : CalcAt w res 0 wr) :
    CallsD Tryz.prog 115 #[.pointer (some ⟨w.heap.size + 1 + 1, 0, none⟩), .pointer (some ⟨w.heap.size + 1, 0, none⟩), .pointer (some ⟨w.heap.size, 0, none⟩)] u wr fun e u' w' =>
      u' = u ∧ e = .returned (.tuple #[]) ∧ FinAt w res 0 w' := by
  have h1 := cell_of_one h.hc
  have h2 := cell_of_one h.hfault
  have h3 := free_of_one h.hfault
  have h4 := cell_of_one (one_setCell (u := .int .i64 0) h.hfault)
  have H : Hid (FinAt w res 0 (wr.setCell ⟨w.heap.size + 1, 0, none⟩ (.int .i64 0))) :=
    ⟨h.below.setCell (by show w.heap.size ≤ w.heap.size + 1; omega) _, heap_set_other h.hres (by show w.heap.size ≠ w.heap.size + 1; omega) _, one_setCell h.hfault⟩
  clear h
  go_enter_d Tryz.func115, Tryz.ntmps115
  go_wp2_with fail
  go_end0
  exact ⟨rfl, H.out⟩

set_option maxHeartbeats 400000 in
theorem finishS_bad (w : World) (x : ByteArray) (f : Int) (hf : (f != 0) = true) (u : FrameMode) (wr : World) (h : CalcAt w (.cells #[.string x] 9 (0, 0)) f wr) :
    CallsD Tryz.prog 115 #[.pointer (some ⟨w.heap.size + 1 + 1, 0, none⟩), .pointer (some ⟨w.heap.size + 1, 0, none⟩), .pointer (some ⟨w.heap.size, 0, none⟩)] u wr fun e u' w' =>
      u' = u ∧ e = .returned (.tuple #[]) ∧ FinAt w (.cells #[.string ByteArray.empty] 9 (0, 0)) f w' := by
  have h1 := cell_of_one h.hc
  have h2 := cell_of_one h.hfault
  have h3 := free_of_one h.hfault
  have h4 := cell_of_one (one_setCell (u := .int .i64 f) h.hfault)
  have e1 := lt_of_block h.hres
  have e2 := lt_of_block h.hfault
  have q0 : wr.cell? ⟨w.heap.size, 0, none⟩ = some (.string x) := by simp [World.cell?, h.hres]
  have p0 : wr.frozen? ⟨w.heap.size, 0, none⟩ = false := by simp [World.frozen?, h.hres]
  have H : Hid (FinAt w (.cells #[.string ByteArray.empty] 9 (0, 0)) f ((wr.setCell ⟨w.heap.size + 1, 0, none⟩ (.int .i64 f)).setCell ⟨w.heap.size, 0, none⟩ (.string ByteArray.empty))) :=
    ⟨(h.below.setCell (by show w.heap.size ≤ w.heap.size + 1; omega) _).setCell (by exact Nat.le_refl _) _,
     one_setCell (heap_set_other h.hres (by show w.heap.size ≠ w.heap.size + 1; omega) _),
     heap_set_other (one_setCell h.hfault) (by show w.heap.size + 1 ≠ w.heap.size; omega) _⟩
  clear h
  go_enter_d Tryz.func115, Tryz.ntmps115
  go_wp2_with fail
  go_end0
  exact ⟨rfl, H.out⟩

set_option maxHeartbeats 800000 in
theorem calcS_some (k : FuncId) (caps : Array Value) (bs cap : Nat) (rs : List (Int × Int)) (n : ByteArray) (f : Int) (w : World) (hlen : rs.length ≤ 1000) (hops : Operands w bs rs)
    (hent : ∀ (us : Array Value) (v : World), (callFunc k us).run Tryz.prog v = .ok (.enter k us) v)
    (hstep : errAll rs = 0 → ∀ wr, CalcAt w (.cells #[.string ByteArray.empty] 9 (0, 0)) 0 wr → Calls Tryz.prog k (#[.pointer (some ⟨w.heap.size + 1 + 1, 0, none⟩)] ++ caps) wr fun e w2 =>
      e = .returned (.string n) ∧ CalcAt w (.cells #[.string ByteArray.empty] 9 (0, 0)) f w2) :
    Calls Tryz.prog 92 #[.func (.func k) #[] caps, .slice (some ⟨bs, 0, none⟩) rs.length cap] w fun e w' =>
      e = .returned (.tuple #[.string (outS rs n f), .int .i64 (outE rs f)]) ∧ Below w.heap.size w w' := by
  have hmf : ∀ (fn : Fn) (first cap : Array Value) (w : World), (Instr.makeFunc fn first cap).run Tryz.prog w = .ok (.func fn first cap) w := fun _ _ _ _ => rfl
  have Hstep := Lib.hid hstep
  clear hstep
  have Hops := Lib.hid hops
  clear hops
  go_enter_defers Tryz.func92, Tryz.ntmps92
  go_wp2_with fail
  go_loopw [12] (fun i wr => ∃ k : Nat, k ≤ rs.length ∧ i = .int .i64 k ∧ CalcAt w (.cells #[.string ByteArray.empty] 9 (0, 0)) (errAll (rs.take k)) wr) (fun i _ => rs.length - (intOf i).toNat)
  case atStart => exact ⟨0, Nat.zero_le _, rfl, CalcAt.start _ _⟩
  case round =>
    obtain ⟨k, hk, rfl, hcalc⟩ := hrel
    have hsz := lt_of_block hcalc.hc
    by_cases hlt : k < rs.length
    · have ⟨h1, h2⟩ := Hops.out.cells hcalc.below k hlt
      have Hc := Lib.hid hcalc
      have Hs := Lib.hid (errAll_snoc rs k hlt)
      generalize rs[k].1 = n at h1 Hs
      generalize rs[k].2 = d at h2 Hs
      clear hcalc
      go_wp2_with fail
      refine (check_any n d _).mono ?_
      rintro e w1 ⟨rfl, hb1⟩
      have H1 := Lib.hid ((Hc.out.alloc _).later hb1)
      have Hb1 := Lib.hid hb1
      clear hb1
      go_wp2_with fail
      have hor := errAll_or (rs.take k)
      have hs1 := H1.out.below.size
      by_cases hz : errAll (rs.take k) = 0
      · have H1' := H1.out
        rw [hz] at H1'
        refine (keep_first _ _ _ H1'.hc).mono ?_
        rintro e w' ⟨rfl, rfl⟩
        go_wp2_with fail
        go_roundw
        case rel => exact ⟨k + 1, by omega, by go_num, by rw [Hs.out, if_pos hz]; exact H1'.keeps _⟩
        case measure => simp [intOf]; omega
      · have H1' := H1.out
        refine (keep_later _ _ _ (beq_eq_false_iff_ne.2 hz) _ H1'.hc).mono ?_
        rintro e w' ⟨rfl, rfl⟩
        go_wp2_with fail
        go_roundw
        case rel => exact ⟨k + 1, by omega, by go_num, by rw [Hs.out, if_neg hz]; rw [show (8 : Int) = errAll (rs.take k) by omega]; exact H1'⟩
        case measure => simp [intOf]; omega
    obtain rfl : k = rs.length := by omega
    rw [List.take_length] at hcalc
    have h1 := cell_of_one hcalc.hc
    by_cases hz : ¬ errAll rs = 0
    · have hn : (errAll rs == 0) = false := beq_eq_false_iff_ne.2 hz
      have hn' : (errAll rs != 0) = true := by rw [bne_iff_ne]; exact hz
      have Hz := Lib.hid hz
      have Hc := Lib.hid hcalc
      clear hcalc hz
      go_wp2_with fail
      refine leaves_cons (f := 115) (args := #[.pointer (some ⟨w.heap.size + 1 + 1, 0, none⟩), .pointer (some ⟨w.heap.size + 1, 0, none⟩), .pointer (some ⟨w.heap.size, 0, none⟩)]) (by simp) (by simp [go_sem]) ?_
      refine (finishS_bad w ByteArray.empty (errAll rs) hn' .returning _ Hc.out).mono ?_
      rintro e u' w3 ⟨rfl, rfl, h3⟩
      have r0 : w3.cell? ⟨w.heap.size, 0, none⟩ = some (.string ByteArray.empty) := by simp [World.cell?, h3.hres]
      have r3 := cell_of_one h3.hfault
      have HB := Lib.hid h3.below
      clear h3
      simp [Leaves, settle, results, Tryz.results92, go_sem, r0, r3]
      exact ⟨⟨outS_bad Hz.out _, outE_bad Hz.out _⟩, HB.out⟩
    replace hz : errAll rs = 0 := Classical.not_not.1 hz
    rw [hz] at hcalc h1
    have Hz := Lib.hid hz
    have Hc := Lib.hid hcalc
    clear hcalc hz
    go_wp2_with fail
    refine (Hstep.out Hz.out _ Hc.out).mono ?_
    rintro e w2 ⟨rfl, h2⟩
    have H2 := Lib.hid h2
    have e1 := lt_of_block h2.hres
    have q0 : w2.cell? ⟨w.heap.size, 0, none⟩ = some (.string ByteArray.empty) := by simp [World.cell?, h2.hres]
    have p0 : w2.frozen? ⟨w.heap.size, 0, none⟩ = false := by simp [World.frozen?, h2.hres]
    clear h2 h1
    go_wp2_with fail
    by_cases hf : f = 0
    · subst hf
      refine leaves_cons (f := 115) (args := #[.pointer (some ⟨w.heap.size + 1 + 1, 0, none⟩), .pointer (some ⟨w.heap.size + 1, 0, none⟩), .pointer (some ⟨w.heap.size, 0, none⟩)]) (by simp) (by simp [go_sem]) ?_
      refine (finishS_ok w _ .returning _ (H2.out.store (.string n))).mono ?_
      rintro e u' w3 ⟨rfl, rfl, h3⟩
      have r0 : w3.cell? ⟨w.heap.size, 0, none⟩ = some (.string n) := by simp [World.cell?, h3.hres]
      have r3 := cell_of_one h3.hfault
      have HB := Lib.hid h3.below
      clear h3
      simp [Leaves, settle, results, Tryz.results92, go_sem, r0, r3]
      exact ⟨⟨outS_fine Hz.out _, outE_fine Hz.out _⟩, HB.out⟩
    · have hf' : (f != 0) = true := by rw [bne_iff_ne]; exact hf
      refine leaves_cons (f := 115) (args := #[.pointer (some ⟨w.heap.size + 1 + 1, 0, none⟩), .pointer (some ⟨w.heap.size + 1, 0, none⟩), .pointer (some ⟨w.heap.size, 0, none⟩)]) (by simp) (by simp [go_sem]) ?_
      refine (finishS_bad w n f hf' .returning _ (H2.out.store (.string n))).mono ?_
      rintro e u' w3 ⟨rfl, rfl, h3⟩
      have r0 : w3.cell? ⟨w.heap.size, 0, none⟩ = some (.string ByteArray.empty) := by simp [World.cell?, h3.hres]
      have r3 := cell_of_one h3.hfault
      have HB := Lib.hid h3.below
      clear h3
      simp [Leaves, settle, results, Tryz.results92, go_sem, r0, r3]
      exact ⟨⟨outS_fault hf _, outE_fine Hz.out _⟩, HB.out⟩

set_option maxHeartbeats 800000 in
theorem calcS_none (k : FuncId) (caps : Array Value) (n : ByteArray) (f : Int) (w : World)
    (hent : ∀ (us : Array Value) (v : World), (callFunc k us).run Tryz.prog v = .ok (.enter k us) v)
    (hstep : errAll [] = 0 → ∀ wr, CalcAt w (.cells #[.string ByteArray.empty] 9 (0, 0)) 0 wr → Calls Tryz.prog k (#[.pointer (some ⟨w.heap.size + 1 + 1, 0, none⟩)] ++ caps) wr fun e w2 =>
      e = .returned (.string n) ∧ CalcAt w (.cells #[.string ByteArray.empty] 9 (0, 0)) f w2) :
    Calls Tryz.prog 92 #[.func (.func k) #[] caps, .slice none 0 0] w fun e w' =>
      e = .returned (.tuple #[.string (outS [] n f), .int .i64 (outE [] f)]) ∧ Below w.heap.size w w' := by
  have hmf : ∀ (fn : Fn) (first cap : Array Value) (w : World), (Instr.makeFunc fn first cap).run Tryz.prog w = .ok (.func fn first cap) w := fun _ _ _ _ => rfl
  have Hstep := Lib.hid hstep
  clear hstep
  go_enter_defers Tryz.func92, Tryz.ntmps92
  go_wp2_with fail
  go_loopw [12] (fun i wr => i = .int .i64 0 ∧ CalcAt w (.cells #[.string ByteArray.empty] 9 (0, 0)) 0 wr) (fun _ _ => 0)
  case atStart => exact ⟨rfl, CalcAt.start _ _⟩
  case round =>
    obtain ⟨rfl, hcalc⟩ := hrel
    have hsz := lt_of_block hcalc.hc
    have h1 := cell_of_one hcalc.hc
    have Hz : Hid (errAll [] = 0) := errAll_nil
    have Hc := Lib.hid hcalc
    clear hcalc
    go_wp2_with fail
    refine (Hstep.out Hz.out _ Hc.out).mono ?_
    rintro e w2 ⟨rfl, h2⟩
    have H2 := Lib.hid h2
    have e1 := lt_of_block h2.hres
    have q0 : w2.cell? ⟨w.heap.size, 0, none⟩ = some (.string ByteArray.empty) := by simp [World.cell?, h2.hres]
    have p0 : w2.frozen? ⟨w.heap.size, 0, none⟩ = false := by simp [World.frozen?, h2.hres]
    clear h2 h1
    go_wp2_with fail
    by_cases hf : f = 0
    · subst hf
      refine leaves_cons (f := 115) (args := #[.pointer (some ⟨w.heap.size + 1 + 1, 0, none⟩), .pointer (some ⟨w.heap.size + 1, 0, none⟩), .pointer (some ⟨w.heap.size, 0, none⟩)]) (by simp) (by simp [go_sem]) ?_
      refine (finishS_ok w _ .returning _ (H2.out.store (.string n))).mono ?_
      rintro e u' w3 ⟨rfl, rfl, h3⟩
      have r0 : w3.cell? ⟨w.heap.size, 0, none⟩ = some (.string n) := by simp [World.cell?, h3.hres]
      have r3 := cell_of_one h3.hfault
      have HB := Lib.hid h3.below
      clear h3
      simp [Leaves, settle, results, Tryz.results92, go_sem, r0, r3]
      exact ⟨⟨outS_fine Hz.out _, outE_fine Hz.out _⟩, HB.out⟩
    · have hf' : (f != 0) = true := by rw [bne_iff_ne]; exact hf
      refine leaves_cons (f := 115) (args := #[.pointer (some ⟨w.heap.size + 1 + 1, 0, none⟩), .pointer (some ⟨w.heap.size + 1, 0, none⟩), .pointer (some ⟨w.heap.size, 0, none⟩)]) (by simp) (by simp [go_sem]) ?_
      refine (finishS_bad w n f hf' .returning _ (H2.out.store (.string n))).mono ?_
      rintro e u' w3 ⟨rfl, rfl, h3⟩
      have r0 : w3.cell? ⟨w.heap.size, 0, none⟩ = some (.string ByteArray.empty) := by simp [World.cell?, h3.hres]
      have r3 := cell_of_one h3.hfault
      have HB := Lib.hid h3.below
      clear h3
      simp [Leaves, settle, results, Tryz.results92, go_sem, r0, r3]
      exact ⟨⟨outS_fault hf _, outE_fine Hz.out _⟩, HB.out⟩

end Go.Proofs.YtakjgjhjndiggaaGreatDoor
namespace Go.Proofs.YtakjgjhjndiggaaGreatDoor
open Go.RowKit
open RM
set_option linter.unusedVariables false
set_option linter.unusedSimpArgs false

/-- One addition. -/
def addN (tn td an ad : Int) : Int := op2N (vld tn td && vld an ad) (tn * ad + an * td) (td * ad)
def addD (tn td an ad : Int) : Int := op2D (vld tn td && vld an ad) (tn * ad + an * td) (td * ad)
def addE (tn td an ad : Int) : Int := op2E (vld tn td && vld an ad) (tn * ad + an * td) (td * ad)
theorem add_pair (tn td an ad : Int) (w : World) : Calls Tryz.prog 37 #[.agg #[.int .i64 tn, .int .i64 td], .agg #[.int .i64 an, .int .i64 ad]] w fun e w' =>
    e = .returned (.tuple #[.agg #[.int .i64 (addN tn td an ad), .int .i64 (addD tn td an ad)], .int .i64 (addE tn td an ad)]) ∧ Below w.heap.size w w' := add_any tn td an ad w
/-- The additions of a list, from first to last, up to the first error. -/
def run (tn td : Int) : List (Int × Int) → Int × Int × Int
  | [] => (tn, td, 0)
  | a :: l => if addE tn td a.1 a.2 = 0 then run (addN tn td a.1 a.2) (addD tn td a.1 a.2) l else (tn, td, addE tn td a.1 a.2)
/-- What the step of Sum hands back and keeps. -/
def sumStep (rs : List (Int × Int)) : Int × Int × Int := if 200 < rs.length then (0, 1, 4) else run 0 1 rs
theorem run_go {tn td : Int} {rs : List (Int × Int)} {k : Nat} (h : k < rs.length) (he : addE tn td rs[k].1 rs[k].2 = 0) :
    run tn td (rs.drop k) = run (addN tn td rs[k].1 rs[k].2) (addD tn td rs[k].1 rs[k].2) (rs.drop (k + 1)) := by
  rw [List.drop_eq_getElem_cons h]; simp [run, he]
theorem run_stop {tn td : Int} {rs : List (Int × Int)} {k : Nat} (h : k < rs.length) (he : addE tn td rs[k].1 rs[k].2 ≠ 0) :
    run tn td (rs.drop k) = (tn, td, addE tn td rs[k].1 rs[k].2) := by
  rw [List.drop_eq_getElem_cons h]; simp [run, he]

/-- A slice's elements, which may be none. -/
inductive Elems (w : World) : Value → List (Int × Int) → Prop
  | none (p : Option Addr) (cap : Nat) : Elems w (.slice p 0 cap) []
  | some (b off cap : Nat) (rs : List (Int × Int)) (hpos : 0 < rs.length) (hb : b < w.heap.size)
      (h : ∀ i, (h : i < rs.length) → w.cell? ⟨b, off + i * 2, Option.none⟩ = Option.some (.int .i64 rs[i].1) ∧ w.cell? ⟨b, off + i * 2 + 1, Option.none⟩ = Option.some (.int .i64 rs[i].2)) :
      Elems w (.slice (Option.some ⟨b, off, Option.none⟩) rs.length cap) rs

/-- Where the step of Sum stands: its result's variable, the total, the kept error. -/
structure SumAt (c : Nat) (w : World) (tn td f : Int) (wr : World) : Prop where
  kept : Kept c w wr
  hr : wr.heap[w.heap.size]? = Option.some (.cells #[.int .i64 0, .int .i64 0] 25 (0, 0))
  ht : wr.heap[w.heap.size + 1]? = Option.some (.cells #[.int .i64 tn, .int .i64 td] 25 (0, 0))
  hc : wr.heap[c]? = Option.some (.cells #[.int .i64 f] 114 (0, 0))

theorem SumAt.later {c : Nat} {w wr w1 : World} {tn td f : Int} (h : SumAt c w tn td f wr) (hb : Below wr.heap.size wr w1) : SumAt c w tn td f w1 :=
  ⟨h.kept.trans (Kept.of_below hb), (hb.block _ (lt_of_block h.hr)).trans h.hr, (hb.block _ (lt_of_block h.ht)).trans h.ht, (hb.block _ (lt_of_block h.hc)).trans h.hc⟩
theorem SumAt.alloc {c : Nat} {w wr : World} {tn td f : Int} (h : SumAt c w tn td f wr) (o : Obj) : SumAt c w tn td f (wr.alloc o) := h.later ((Below.refl _ _).alloc (Nat.le_refl _) o)
theorem SumAt.total {c : Nat} {w wr : World} {tn td f : Int} (h : SumAt c w tn td f wr) (hc : c < w.heap.size) (x y : Int) :
    SumAt c w x y f ((wr.setCell ⟨w.heap.size + 1, 0, Option.none⟩ (.int .i64 x)).setCell ⟨w.heap.size + 1, 1, Option.none⟩ (.int .i64 y)) :=
  ⟨(h.kept.setCell (.inr (by show w.heap.size ≤ w.heap.size + 1; omega)) _).setCell (.inr (by show w.heap.size ≤ w.heap.size + 1; omega)) _,
   heap_set_other (heap_set_other h.hr (by show w.heap.size ≠ w.heap.size + 1; omega) _) (by show w.heap.size ≠ w.heap.size + 1; omega) _, two_setCell h.ht _ _,
   heap_set_other (heap_set_other h.hc (by show c ≠ w.heap.size + 1; omega) _) (by show c ≠ w.heap.size + 1; omega) _⟩
theorem SumAt.keeps {c : Nat} {w wr : World} {tn td : Int} (h : SumAt c w tn td 0 wr) (hc : c < w.heap.size) (e : Int) :
    SumAt c w tn td e (wr.setCell ⟨c, 0, Option.none⟩ (.int .i64 e)) :=
  ⟨h.kept.setCell (.inl rfl) _, heap_set_other h.hr (by show w.heap.size ≠ c; omega) _, heap_set_other h.ht (by show w.heap.size + 1 ≠ c; omega) _, one_setCell h.hc⟩
theorem SumAt.back {c : Nat} {w wr : World} {tn td f : Int} (h : SumAt c w tn td f wr) (hc : c < w.heap.size) (x y : Value) :
    Kept c w ((wr.setCell ⟨w.heap.size, 0, Option.none⟩ x).setCell ⟨w.heap.size, 1, Option.none⟩ y) ∧
    ((wr.setCell ⟨w.heap.size, 0, Option.none⟩ x).setCell ⟨w.heap.size, 1, Option.none⟩ y).heap[c]? = Option.some (.cells #[.int .i64 f] 114 (0, 0)) :=
  ⟨(h.kept.setCell (.inr (Nat.le_refl _)) _).setCell (.inr (Nat.le_refl _)) _,
   heap_set_other (heap_set_other h.hc (by show c ≠ w.heap.size; omega) _) (by show c ≠ w.heap.size; omega) _⟩
theorem SumAt.start {c : Nat} {w : World} (hc : w.heap[c]? = Option.some (.cells #[.int .i64 0] 114 (0, 0))) :
    SumAt c w 0 1 0 ((w.alloc (.cells #[.int .i64 0, .int .i64 0] 25)).alloc (.cells #[.int .i64 0, .int .i64 1] 25)) :=
  ⟨((Kept.refl c w).alloc _).alloc _, heap_alloc_old (heap_alloc_new _ _) _, by
    have := heap_alloc_new (w.alloc (.cells #[.int .i64 0, .int .i64 0] 25)) (.cells #[.int .i64 0, .int .i64 1] 25)
    simpa using this, heap_alloc_old (heap_alloc_old hc _) _⟩

theorem Elems.later {w w1 : World} {sv : Value} {rs : List (Int × Int)} (h : Elems w sv rs) (hb : Below w.heap.size w w1) : Elems w1 sv rs := by
  cases h with
  | none p cap => exact .none p cap
  | some b off cap _ hpos hlt hx =>
    refine .some b off cap rs hpos (Nat.lt_of_lt_of_le hlt hb.size) fun i hi => ?_
    exact ⟨(hb.cell (p := ⟨b, off + i * 2, Option.none⟩) hlt).trans (hx i hi).1, (hb.cell (p := ⟨b, off + i * 2 + 1, Option.none⟩) hlt).trans (hx i hi).2⟩
theorem Elems.block {w : World} {sv : Value} {rs : List (Int × Int)} (h : Elems w sv rs) {c : Nat} (hc : w.heap.size ≤ c) : ∀ b off cap, 0 < rs.length → sv = .slice (Option.some ⟨b, off, Option.none⟩) rs.length cap → b ≠ c := by
  cases h with
  | none p cap => intro b off cap h; simp at h
  | some b off cap _ hpos hlt hx =>
    intro b' off' cap' _ he
    cases he; omega

/-- What Sum hands back. -/
def sumN (rs : List (Int × Int)) : Int := outN [] (sumStep rs).1 (sumStep rs).2.2
def sumD (rs : List (Int × Int)) : Int := outN [] (sumStep rs).2.1 (sumStep rs).2.2
def sumE (rs : List (Int × Int)) : Int := (sumStep rs).2.2

end Go.Proofs.YtakjgjhjndiggaaGreatDoor
