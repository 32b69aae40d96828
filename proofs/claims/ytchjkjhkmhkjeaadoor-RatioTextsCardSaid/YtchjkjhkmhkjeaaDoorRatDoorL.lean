/-
  What ratio.calculate[int64] does, out of a contract of the step that it is handed.
-/
import Derived.Test.YtchjkjhkmhkjeaaDoorRatDoor
namespace Go.Proofs.YtchjkjhkmhkjeaaDoor
open Go.RowKit
open RM
set_option linter.unusedVariables false
set_option linter.unusedSimpArgs false

set_option maxHeartbeats 400000 in
theorem finishL_ok (w : World) (res : Obj) (u : FrameMode) (wr : World) (h : CalcAt w res 0 wr) :
    CallsD Tryd.prog 64 #[.pointer (some ⟨w.heap.size + 1 + 1, 0, none⟩), .pointer (some ⟨w.heap.size + 1, 0, none⟩), .pointer (some ⟨w.heap.size, 0, none⟩)] u wr fun e u' w' =>
      u' = u ∧ e = .returned (.tuple #[]) ∧ FinAt w res 0 w' := by
  have h1 := cell_of_one h.hc
  have h2 := cell_of_one h.hfault
  have h3 := free_of_one h.hfault
  have h4 := cell_of_one (one_setCell (u := .int .i64 0) h.hfault)
  have H : Hid (FinAt w res 0 (wr.setCell ⟨w.heap.size + 1, 0, none⟩ (.int .i64 0))) :=
    ⟨h.below.setCell (by show w.heap.size ≤ w.heap.size + 1; omega) _, heap_set_other h.hres (by show w.heap.size ≠ w.heap.size + 1; omega) _, one_setCell h.hfault⟩
  clear h
  go_enter_d Tryd.func64, Tryd.ntmps64
  go_wp2_with fail
  go_end0
  exact ⟨rfl, H.out⟩

set_option maxHeartbeats 400000 in
theorem finishL_bad (w : World) (x : Int) (f : Int) (hf : (f != 0) = true) (u : FrameMode) (wr : World) (h : CalcAt w (.cells #[.int .i64 x] 2 (0, 0)) f wr) :
    CallsD Tryd.prog 64 #[.pointer (some ⟨w.heap.size + 1 + 1, 0, none⟩), .pointer (some ⟨w.heap.size + 1, 0, none⟩), .pointer (some ⟨w.heap.size, 0, none⟩)] u wr fun e u' w' =>
      u' = u ∧ e = .returned (.tuple #[]) ∧ FinAt w (.cells #[.int .i64 0] 2 (0, 0)) f w' := by
  have h1 := cell_of_one h.hc
  have h2 := cell_of_one h.hfault
  have h3 := free_of_one h.hfault
  have h4 := cell_of_one (one_setCell (u := .int .i64 f) h.hfault)
  have e1 := lt_of_block h.hres
  have e2 := lt_of_block h.hfault
  have q0 : wr.cell? ⟨w.heap.size, 0, none⟩ = some (.int .i64 x) := by simp [World.cell?, h.hres]
  have p0 : wr.frozen? ⟨w.heap.size, 0, none⟩ = false := by simp [World.frozen?, h.hres]
  have H : Hid (FinAt w (.cells #[.int .i64 0] 2 (0, 0)) f ((wr.setCell ⟨w.heap.size + 1, 0, none⟩ (.int .i64 f)).setCell ⟨w.heap.size, 0, none⟩ (.int .i64 0))) :=
    ⟨(h.below.setCell (by show w.heap.size ≤ w.heap.size + 1; omega) _).setCell (by exact Nat.le_refl _) _,
     one_setCell (heap_set_other h.hres (by show w.heap.size ≠ w.heap.size + 1; omega) _),
     heap_set_other (one_setCell h.hfault) (by show w.heap.size + 1 ≠ w.heap.size; omega) _⟩
  clear h
  go_enter_d Tryd.func64, Tryd.ntmps64
  go_wp2_with fail
  go_end0
  exact ⟨rfl, H.out⟩

set_option maxHeartbeats 800000 in
theorem calcL_some (k : FuncId) (caps : Array Value) (bs cap : Nat) (rs : List (Int × Int)) (n : Int) (f : Int) (w : World) (hlen : rs.length ≤ 1000) (hops : Operands w bs rs)
    (hent : ∀ (us : Array Value) (v : World), (callFunc k us).run Tryd.prog v = .ok (.enter k us) v)
    (hstep : errAll rs = 0 → ∀ wr, CalcAt w (.cells #[.int .i64 0] 2 (0, 0)) 0 wr → Calls Tryd.prog k (#[.pointer (some ⟨w.heap.size + 1 + 1, 0, none⟩)] ++ caps) wr fun e w2 =>
      e = .returned (.int .i64 n) ∧ CalcAt w (.cells #[.int .i64 0] 2 (0, 0)) f w2) :
    Calls Tryd.prog 52 #[.func (.func k) #[] caps, .slice (some ⟨bs, 0, none⟩) rs.length cap] w fun e w' =>
      e = .returned (.tuple #[.int .i64 (outN rs n f), .int .i64 (outE rs f)]) ∧ Below w.heap.size w w' := by
  have hmf : ∀ (fn : Fn) (first cap : Array Value) (w : World), (Instr.makeFunc fn first cap).run Tryd.prog w = .ok (.func fn first cap) w := fun _ _ _ _ => rfl
  have Hstep := Lib.hid hstep
  clear hstep
  have Hops := Lib.hid hops
  clear hops
  go_enter_defers Tryd.func52, Tryd.ntmps52
  go_wp2_with fail
  go_loopw [12] (fun i wr => ∃ k : Nat, k ≤ rs.length ∧ i = .int .i64 k ∧ CalcAt w (.cells #[.int .i64 0] 2 (0, 0)) (errAll (rs.take k)) wr) (fun i _ => rs.length - (intOf i).toNat)
  case atStart => exact ⟨0, Nat.zero_le _, rfl, CalcAt.start _ _⟩
  case round =>
    obtain ⟨k, hk, rfl, hcalc⟩ := hrel
    have hsz := lt_of_block hcalc.hc
    by_cases hlt : k < rs.length
    · have ⟨h1, h2⟩ := Hops.out.cells hcalc.below k hlt
      have Hc := Lib.hid hcalc
      have Hs := Lib.hid (errAll_snoc rs k hlt)
      generalize rs[k].1 = n at h1 Hs
      generalize rs[k].2 = d at h2 Hs
      clear hcalc
      go_wp2_with fail
      refine (check_any n d _).mono ?_
      rintro e w1 ⟨rfl, hb1⟩
      have H1 := Lib.hid ((Hc.out.alloc _).later hb1)
      have Hb1 := Lib.hid hb1
      clear hb1
      go_wp2_with fail
      have hor := errAll_or (rs.take k)
      have hs1 := H1.out.below.size
      by_cases hz : errAll (rs.take k) = 0
      · have H1' := H1.out
        rw [hz] at H1'
        refine (keep_first _ _ _ H1'.hc).mono ?_
        rintro e w' ⟨rfl, rfl⟩
        go_wp2_with fail
        go_roundw
        case rel => exact ⟨k + 1, by omega, by go_num, by rw [Hs.out, if_pos hz]; exact H1'.keeps _⟩
        case measure => simp [intOf]; omega
      · have H1' := H1.out
        refine (keep_later _ _ _ (beq_eq_false_iff_ne.2 hz) _ H1'.hc).mono ?_
        rintro e w' ⟨rfl, rfl⟩
        go_wp2_with fail
        go_roundw
        case rel => exact ⟨k + 1, by omega, by go_num, by rw [Hs.out, if_neg hz]; rw [show (8 : Int) = errAll (rs.take k) by omega]; exact H1'⟩
        case measure => simp [intOf]; omega
    obtain rfl : k = rs.length := by omega
    rw [List.take_length] at hcalc
    have h1 := cell_of_one hcalc.hc
    by_cases hz : ¬ errAll rs = 0
    · have hn : (errAll rs == 0) = false := beq_eq_false_iff_ne.2 hz
      have hn' : (errAll rs != 0) = true := by rw [bne_iff_ne]; exact hz
      have Hz := Lib.hid hz
      have Hc := Lib.hid hcalc
      clear hcalc hz
      go_wp2_with fail
      refine leaves_cons (f := 64) (args := #[.pointer (some ⟨w.heap.size + 1 + 1, 0, none⟩), .pointer (some ⟨w.heap.size + 1, 0, none⟩), .pointer (some ⟨w.heap.size, 0, none⟩)]) (by simp) (by simp [go_sem]) ?_
      refine (finishL_bad w 0 (errAll rs) hn' .returning _ Hc.out).mono ?_
      rintro e u' w3 ⟨rfl, rfl, h3⟩
      have r0 : w3.cell? ⟨w.heap.size, 0, none⟩ = some (.int .i64 0) := by simp [World.cell?, h3.hres]
      have r3 := cell_of_one h3.hfault
      have HB := Lib.hid h3.below
      clear h3
      simp [Leaves, settle, results, Tryd.results52, go_sem, r0, r3]
      exact ⟨⟨outN_bad Hz.out _, outE_bad Hz.out _⟩, HB.out⟩
    replace hz : errAll rs = 0 := Classical.not_not.1 hz
    rw [hz] at hcalc h1
    have Hz := Lib.hid hz
    have Hc := Lib.hid hcalc
    clear hcalc hz
    go_wp2_with fail
    refine (Hstep.out Hz.out _ Hc.out).mono ?_
    rintro e w2 ⟨rfl, h2⟩
    have H2 := Lib.hid h2
    have e1 := lt_of_block h2.hres
    have q0 : w2.cell? ⟨w.heap.size, 0, none⟩ = some (.int .i64 0) := by simp [World.cell?, h2.hres]
    have p0 : w2.frozen? ⟨w.heap.size, 0, none⟩ = false := by simp [World.frozen?, h2.hres]
    clear h2 h1
    go_wp2_with fail
    by_cases hf : f = 0
    · subst hf
      refine leaves_cons (f := 64) (args := #[.pointer (some ⟨w.heap.size + 1 + 1, 0, none⟩), .pointer (some ⟨w.heap.size + 1, 0, none⟩), .pointer (some ⟨w.heap.size, 0, none⟩)]) (by simp) (by simp [go_sem]) ?_
      refine (finishL_ok w _ .returning _ (H2.out.store (.int .i64 n))).mono ?_
      rintro e u' w3 ⟨rfl, rfl, h3⟩
      have r0 : w3.cell? ⟨w.heap.size, 0, none⟩ = some (.int .i64 n) := by simp [World.cell?, h3.hres]
      have r3 := cell_of_one h3.hfault
      have HB := Lib.hid h3.below
      clear h3
      simp [Leaves, settle, results, Tryd.results52, go_sem, r0, r3]
      exact ⟨⟨outN_fine Hz.out _, outE_fine Hz.out _⟩, HB.out⟩
    · have hf' : (f != 0) = true := by rw [bne_iff_ne]; exact hf
      refine leaves_cons (f := 64) (args := #[.pointer (some ⟨w.heap.size + 1 + 1, 0, none⟩), .pointer (some ⟨w.heap.size + 1, 0, none⟩), .pointer (some ⟨w.heap.size, 0, none⟩)]) (by simp) (by simp [go_sem]) ?_
      refine (finishL_bad w n f hf' .returning _ (H2.out.store (.int .i64 n))).mono ?_
      rintro e u' w3 ⟨rfl, rfl, h3⟩
      have r0 : w3.cell? ⟨w.heap.size, 0, none⟩ = some (.int .i64 0) := by simp [World.cell?, h3.hres]
      have r3 := cell_of_one h3.hfault
      have HB := Lib.hid h3.below
      clear h3
      simp [Leaves, settle, results, Tryd.results52, go_sem, r0, r3]
      exact ⟨⟨outN_fault hf _, outE_fine Hz.out _⟩, HB.out⟩

set_option maxHeartbeats 800000 in
theorem calcL_none (k : FuncId) (caps : Array Value) (n : Int) (f : Int) (w : World)
    (hent : ∀ (us : Array Value) (v : World), (callFunc k us).run Tryd.prog v = .ok (.enter k us) v)
    (hstep : errAll [] = 0 → ∀ wr, CalcAt w (.cells #[.int .i64 0] 2 (0, 0)) 0 wr → Calls Tryd.prog k (#[.pointer (some ⟨w.heap.size + 1 + 1, 0, none⟩)] ++ caps) wr fun e w2 =>
      e = .returned (.int .i64 n) ∧ CalcAt w (.cells #[.int .i64 0] 2 (0, 0)) f w2) :
    Calls Tryd.prog 52 #[.func (.func k) #[] caps, .slice none 0 0] w fun e w' =>
      e = .returned (.tuple #[.int .i64 (outN [] n f), .int .i64 (outE [] f)]) ∧ Below w.heap.size w w' := by
  have hmf : ∀ (fn : Fn) (first cap : Array Value) (w : World), (Instr.makeFunc fn first cap).run Tryd.prog w = .ok (.func fn first cap) w := fun _ _ _ _ => rfl
  have Hstep := Lib.hid hstep
  clear hstep
  go_enter_defers Tryd.func52, Tryd.ntmps52
  go_wp2_with fail
  go_loopw [12] (fun i wr => i = .int .i64 0 ∧ CalcAt w (.cells #[.int .i64 0] 2 (0, 0)) 0 wr) (fun _ _ => 0)
  case atStart => exact ⟨rfl, CalcAt.start _ _⟩
  case round =>
    obtain ⟨rfl, hcalc⟩ := hrel
    have hsz := lt_of_block hcalc.hc
    have h1 := cell_of_one hcalc.hc
    have Hz : Hid (errAll [] = 0) := errAll_nil
    have Hc := Lib.hid hcalc
    clear hcalc
    go_wp2_with fail
    refine (Hstep.out Hz.out _ Hc.out).mono ?_
    rintro e w2 ⟨rfl, h2⟩
    have H2 := Lib.hid h2
    have e1 := lt_of_block h2.hres
    have q0 : w2.cell? ⟨w.heap.size, 0, none⟩ = some (.int .i64 0) := by simp [World.cell?, h2.hres]
    have p0 : w2.frozen? ⟨w.heap.size, 0, none⟩ = false := by simp [World.frozen?, h2.hres]
    clear h2 h1
    go_wp2_with fail
    by_cases hf : f = 0
    · subst hf
      refine leaves_cons (f := 64) (args := #[.pointer (some ⟨w.heap.size + 1 + 1, 0, none⟩), .pointer (some ⟨w.heap.size + 1, 0, none⟩), .pointer (some ⟨w.heap.size, 0, none⟩)]) (by simp) (by simp [go_sem]) ?_
      refine (finishL_ok w _ .returning _ (H2.out.store (.int .i64 n))).mono ?_
      rintro e u' w3 ⟨rfl, rfl, h3⟩
      have r0 : w3.cell? ⟨w.heap.size, 0, none⟩ = some (.int .i64 n) := by simp [World.cell?, h3.hres]
      have r3 := cell_of_one h3.hfault
      have HB := Lib.hid h3.below
      clear h3
      simp [Leaves, settle, results, Tryd.results52, go_sem, r0, r3]
      exact ⟨⟨outN_fine Hz.out _, outE_fine Hz.out _⟩, HB.out⟩
    · have hf' : (f != 0) = true := by rw [bne_iff_ne]; exact hf
      refine leaves_cons (f := 64) (args := #[.pointer (some ⟨w.heap.size + 1 + 1, 0, none⟩), .pointer (some ⟨w.heap.size + 1, 0, none⟩), .pointer (some ⟨w.heap.size, 0, none⟩)]) (by simp) (by simp [go_sem]) ?_
      refine (finishL_bad w n f hf' .returning _ (H2.out.store (.int .i64 n))).mono ?_
      rintro e u' w3 ⟨rfl, rfl, h3⟩
      have r0 : w3.cell? ⟨w.heap.size, 0, none⟩ = some (.int .i64 0) := by simp [World.cell?, h3.hres]
      have r3 := cell_of_one h3.hfault
      have HB := Lib.hid h3.below
      clear h3
      simp [Leaves, settle, results, Tryd.results52, go_sem, r0, r3]
      exact ⟨⟨outN_fault hf _, outE_fine Hz.out _⟩, HB.out⟩

end Go.Proofs.YtchjkjhkmhkjeaaDoor
