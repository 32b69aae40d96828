/-
  What Sum of package ratio hands back, for any list of pairs of numbers.
-/
import Derived.Test.YtchjkjhkmhkjeaaDoorRatOps
namespace Go.Proofs.YtchjkjhkmhkjeaaDoor
open Go.RowKit
open RM
set_option linter.unusedVariables false
set_option linter.unusedSimpArgs false

/-- One addition. -/
def addN (tn td an ad : Int) : Int := op2N (vld tn td && vld an ad) (tn * ad + an * td) (td * ad)
def addD (tn td an ad : Int) : Int := op2D (vld tn td && vld an ad) (tn * ad + an * td) (td * ad)
def addE (tn td an ad : Int) : Int := op2E (vld tn td && vld an ad) (tn * ad + an * td) (td * ad)
theorem add_pair (tn td an ad : Int) (w : World) : Calls Tryd.prog 18 #[.agg #[.int .i64 tn, .int .i64 td], .agg #[.int .i64 an, .int .i64 ad]] w fun e w' =>
    e = .returned (.tuple #[.agg #[.int .i64 (addN tn td an ad), .int .i64 (addD tn td an ad)], .int .i64 (addE tn td an ad)]) ∧ Below w.heap.size w w' := add_any tn td an ad w
/-- The additions of a list, from first to last, up to the first error. -/
def run (tn td : Int) : List (Int × Int) → Int × Int × Int
  | [] => (tn, td, 0)
  | a :: l => if addE tn td a.1 a.2 = 0 then run (addN tn td a.1 a.2) (addD tn td a.1 a.2) l else (tn, td, addE tn td a.1 a.2)
/-- What the step of Sum hands back and keeps. -/
def sumStep (rs : List (Int × Int)) : Int × Int × Int := if 200 < rs.length then (0, 1, 4) else run 0 1 rs
theorem run_go {tn td : Int} {rs : List (Int × Int)} {k : Nat} (h : k < rs.length) (he : addE tn td rs[k].1 rs[k].2 = 0) :
    run tn td (rs.drop k) = run (addN tn td rs[k].1 rs[k].2) (addD tn td rs[k].1 rs[k].2) (rs.drop (k + 1)) := by
  rw [List.drop_eq_getElem_cons h]; simp [run, he]
theorem run_stop {tn td : Int} {rs : List (Int × Int)} {k : Nat} (h : k < rs.length) (he : addE tn td rs[k].1 rs[k].2 ≠ 0) :
    run tn td (rs.drop k) = (tn, td, addE tn td rs[k].1 rs[k].2) := by
  rw [List.drop_eq_getElem_cons h]; simp [run, he]

/-- A slice's elements, which may be none. -/
inductive Elems (w : World) : Value → List (Int × Int) → Prop
  | none (p : Option Addr) (cap : Nat) : Elems w (.slice p 0 cap) []
  | some (b off cap : Nat) (rs : List (Int × Int)) (hpos : 0 < rs.length) (hb : b < w.heap.size)
      (h : ∀ i, (h : i < rs.length) → w.cell? ⟨b, off + i * 2, Option.none⟩ = Option.some (.int .i64 rs[i].1) ∧ w.cell? ⟨b, off + i * 2 + 1, Option.none⟩ = Option.some (.int .i64 rs[i].2)) :
      Elems w (.slice (Option.some ⟨b, off, Option.none⟩) rs.length cap) rs

/-- Where the step of Sum stands: its result's variable, the total, the kept error. -/
structure SumAt (c : Nat) (w : World) (tn td f : Int) (wr : World) : Prop where
  kept : Kept c w wr
  hr : wr.heap[w.heap.size]? = Option.some (.cells #[.int .i64 0, .int .i64 0] 23 (0, 0))
  ht : wr.heap[w.heap.size + 1]? = Option.some (.cells #[.int .i64 tn, .int .i64 td] 23 (0, 0))
  hc : wr.heap[c]? = Option.some (.cells #[.int .i64 f] 76 (0, 0))

theorem SumAt.later {c : Nat} {w wr w1 : World} {tn td f : Int} (h : SumAt c w tn td f wr) (hb : Below wr.heap.size wr w1) : SumAt c w tn td f w1 :=
  ⟨h.kept.trans (Kept.of_below hb), (hb.block _ (lt_of_block h.hr)).trans h.hr, (hb.block _ (lt_of_block h.ht)).trans h.ht, (hb.block _ (lt_of_block h.hc)).trans h.hc⟩
theorem SumAt.alloc {c : Nat} {w wr : World} {tn td f : Int} (h : SumAt c w tn td f wr) (o : Obj) : SumAt c w tn td f (wr.alloc o) := h.later ((Below.refl _ _).alloc (Nat.le_refl _) o)
theorem SumAt.total {c : Nat} {w wr : World} {tn td f : Int} (h : SumAt c w tn td f wr) (hc : c < w.heap.size) (x y : Int) :
    SumAt c w x y f ((wr.setCell ⟨w.heap.size + 1, 0, Option.none⟩ (.int .i64 x)).setCell ⟨w.heap.size + 1, 1, Option.none⟩ (.int .i64 y)) :=
  ⟨(h.kept.setCell (.inr (by show w.heap.size ≤ w.heap.size + 1; omega)) _).setCell (.inr (by show w.heap.size ≤ w.heap.size + 1; omega)) _,
   heap_set_other (heap_set_other h.hr (by show w.heap.size ≠ w.heap.size + 1; omega) _) (by show w.heap.size ≠ w.heap.size + 1; omega) _, two_setCell h.ht _ _,
   heap_set_other (heap_set_other h.hc (by show c ≠ w.heap.size + 1; omega) _) (by show c ≠ w.heap.size + 1; omega) _⟩
theorem SumAt.keeps {c : Nat} {w wr : World} {tn td : Int} (h : SumAt c w tn td 0 wr) (hc : c < w.heap.size) (e : Int) :
    SumAt c w tn td e (wr.setCell ⟨c, 0, Option.none⟩ (.int .i64 e)) :=
  ⟨h.kept.setCell (.inl rfl) _, heap_set_other h.hr (by show w.heap.size ≠ c; omega) _, heap_set_other h.ht (by show w.heap.size + 1 ≠ c; omega) _, one_setCell h.hc⟩
theorem SumAt.back {c : Nat} {w wr : World} {tn td f : Int} (h : SumAt c w tn td f wr) (hc : c < w.heap.size) (x y : Value) :
    Kept c w ((wr.setCell ⟨w.heap.size, 0, Option.none⟩ x).setCell ⟨w.heap.size, 1, Option.none⟩ y) ∧
    ((wr.setCell ⟨w.heap.size, 0, Option.none⟩ x).setCell ⟨w.heap.size, 1, Option.none⟩ y).heap[c]? = Option.some (.cells #[.int .i64 f] 76 (0, 0)) :=
  ⟨(h.kept.setCell (.inr (Nat.le_refl _)) _).setCell (.inr (Nat.le_refl _)) _,
   heap_set_other (heap_set_other h.hc (by show c ≠ w.heap.size; omega) _) (by show c ≠ w.heap.size; omega) _⟩
theorem SumAt.start {c : Nat} {w : World} (hc : w.heap[c]? = Option.some (.cells #[.int .i64 0] 76 (0, 0))) :
    SumAt c w 0 1 0 ((w.alloc (.cells #[.int .i64 0, .int .i64 0] 23)).alloc (.cells #[.int .i64 0, .int .i64 1] 23)) :=
  ⟨((Kept.refl c w).alloc _).alloc _, heap_alloc_old (heap_alloc_new _ _) _, by
    have := heap_alloc_new (w.alloc (.cells #[.int .i64 0, .int .i64 0] 23)) (.cells #[.int .i64 0, .int .i64 1] 23)
    simpa using this, heap_alloc_old (heap_alloc_old hc _) _⟩

set_option maxHeartbeats 800000 in
theorem sum_step_many (c pl : Nat) (sv : Value) (rs : List (Int × Int)) (hlen : 200 < rs.length) (hmax : rs.length ≤ 1000) (w : World) (hc : w.heap[c]? = some (.cells #[.int .i64 0] 76 (0, 0)))
    (hpl : w.heap[pl]? = some (.cells #[sv] 39 (0, 0))) (hsv : Elems w sv rs) (hpc : pl ≠ c) :
    Calls Tryd.prog 43 #[.pointer (some ⟨c, 0, none⟩), .pointer (some ⟨pl, 0, none⟩)] w fun e w' =>
      e = .returned (.agg #[.int .i64 0, .int .i64 1]) ∧ Kept c w w' ∧ w'.heap[c]? = some (.cells #[.int .i64 4] 76 (0, 0)) := by
  cases hsv with
  | none p cap => simp at hlen
  | some b off cap _ hpos hb h =>
    have HB := Lib.hid h
    have Hc := Lib.hid hc
    have q1 := cell_of_one hpl
    have l1 := lt_of_block hpl
    have l2 := lt_of_block hc
    clear h hc hpl
    go_enter Tryd.func43, Tryd.ntmps43
    go_wp2_with fail
    have S0 := SumAt.start Hc.out
    refine (keep_first c 4 _ (by exact S0.hc)).mono ?_
    rintro e w1 ⟨rfl, rfl⟩
    have S1 := Lib.hid (S0.keeps l2 4)
    clear S0
    go_wp2_with fail
    refine bodyPost_ret (v := .agg #[.int .i64 0, .int .i64 1]) (by simp [results, Tryd.results43, go_sem]) rfl ⟨rfl, ?_, ?_⟩
    · repeat (with_reducible (first | exact Kept.refl _ _ | refine Kept.alloc ?_ _ | refine Kept.setCell ?_ (by exact .inl rfl) _))
    · exact heap_alloc_old (heap_alloc_old (one_setCell Hc.out) _) _

set_option maxHeartbeats 1600000 in
theorem sum_step_run (c pl : Nat) (sv : Value) (rs : List (Int × Int)) (hlen : rs.length ≤ 200) (w : World) (hc : w.heap[c]? = some (.cells #[.int .i64 0] 76 (0, 0)))
    (hpl : w.heap[pl]? = some (.cells #[sv] 39 (0, 0))) (hsv : Elems w sv rs) (hbc : ∀ b off cap, 0 < rs.length → sv = .slice (some ⟨b, off, none⟩) rs.length cap → b ≠ c) :
    Calls Tryd.prog 43 #[.pointer (some ⟨c, 0, none⟩), .pointer (some ⟨pl, 0, none⟩)] w fun e w' =>
      e = .returned (.agg #[.int .i64 (run 0 1 rs).1, .int .i64 (run 0 1 rs).2.1]) ∧ Kept c w w' ∧ w'.heap[c]? = some (.cells #[.int .i64 (run 0 1 rs).2.2] 76 (0, 0)) := by
  cases hsv with
  | none p cap =>
    have S0 := Lib.hid (SumAt.start hc)
    have q1 := cell_of_one hpl
    have l1 := lt_of_block hpl
    have l2 := lt_of_block hc
    clear hc hpl
    go_enter Tryd.func43, Tryd.ntmps43
    go_wp2_with fail
    go_loopw [18] (fun i wr => i = .int .i64 0 ∧ SumAt c w 0 1 0 wr) (fun _ _ => 0)
    case atStart => exact ⟨rfl, S0.out⟩
    case round =>
      obtain ⟨rfl, hS⟩ := hrel
      have l3 := lt_of_block hS.ht
      have q2 := cell_two0 hS.ht
      have q3 := cell_two1 hS.ht
      have l4 := lt_of_block hS.hr
      have q4 := cell_two0 hS.hr
      have q5 := cell_two1 hS.hr
      have f4 := free_two0 hS.hr
      have f5 := free_two1 hS.hr
      have B := Lib.hid (hS.back l2 (.int .i64 0) (.int .i64 1))
      clear hS
      go_wp2_with fail
      exact bodyPost_ret (v := .agg #[.int .i64 0, .int .i64 1]) (by simp [results, Tryd.results43, go_sem, q4, q5]) rfl ⟨rfl, B.out.1, B.out.2⟩
  | some b off cap _ hpos hb h =>
    have S0 := Lib.hid (SumAt.start hc)
    have hbc' := hbc b off cap hpos rfl
    have HB := Lib.hid h
    have q1 := cell_of_one hpl
    have l1 := lt_of_block hpl
    have l2 := lt_of_block hc
    have c1 : ¬ (200 : Int) < (rs.length : Int) := by omega
    clear h hc hpl hbc
    go_enter Tryd.func43, Tryd.ntmps43
    go_wp2_with fail
    go_loopw [18] (fun i wr => ∃ (k : Nat) (tn td : Int), k ≤ rs.length ∧ i = .int .i64 k ∧ run tn td (rs.drop k) = run 0 1 rs ∧ SumAt c w tn td 0 wr) (fun i _ => rs.length - (intOf i).toNat)
    case atStart => exact ⟨0, 0, 1, Nat.zero_le _, rfl, by simp, S0.out⟩
    case round =>
      obtain ⟨k, tn, td, hk, rfl, hrun, hS⟩ := hrel
      have Hrun := Lib.hid hrun
      have HS := Lib.hid hS
      have l3 := lt_of_block hS.ht
      have q2 := cell_two0 hS.ht
      have q3 := cell_two1 hS.ht
      have l4 := lt_of_block hS.hr
      have l5 := lt_of_block hS.hc
      have f2 := free_two0 hS.ht
      have f3 := free_two1 hS.ht
      have q4 := cell_two0 hS.hr
      have q5 := cell_two1 hS.hr
      have f4 := free_two0 hS.hr
      have f5 := free_two1 hS.hr
      by_cases hlt : k < rs.length
      · have ⟨h1, h2⟩ := HB.out k hlt
        have lb : b < wr.heap.size := Nat.lt_of_lt_of_le hb hS.kept.size
        have e1 : wr.cell? ⟨b, off + k * 2, none⟩ = some (.int .i64 rs[k].1) := (World.cell?_of_block (w := w) (hS.kept.block b hb hbc')).trans h1
        have e2 : wr.cell? ⟨b, off + k * 2 + 1, none⟩ = some (.int .i64 rs[k].2) := (World.cell?_of_block (w := w) (hS.kept.block b hb hbc')).trans h2
        have Hgo : Hid (addE tn td rs[k].1 rs[k].2 = 0 → run (addN tn td rs[k].1 rs[k].2) (addD tn td rs[k].1 rs[k].2) (rs.drop (k + 1)) = run 0 1 rs) := fun he => (run_go hlt he).symm.trans Hrun.out
        have Hst : Hid (addE tn td rs[k].1 rs[k].2 ≠ 0 → (tn, td, addE tn td rs[k].1 rs[k].2) = run 0 1 rs) := fun he => (run_stop hlt he).symm.trans Hrun.out
        generalize rs[k].1 = an at e1 Hgo Hst
        generalize rs[k].2 = ad at e2 Hgo Hst
        clear h1 h2 hrun hS
        go_wp2_with fail
        refine (add_pair tn td an ad _).mono ?_
        rintro e w1 ⟨rfl, hb1⟩
        have H1 := Lib.hid ((HS.out.alloc _).later hb1)
        clear hb1 q2 q3 q4 q5 f2 f3 f4 f5 e1 e2 l3 l4 l5
        have l3 := lt_of_block H1.out.ht
        have q2 := cell_two0 H1.out.ht
        have q3 := cell_two1 H1.out.ht
        have f2 := free_two0 H1.out.ht
        have f3 := free_two1 H1.out.ht
        have l4 := lt_of_block H1.out.hr
        have q4 := cell_two0 H1.out.hr
        have q5 := cell_two1 H1.out.hr
        have f4 := free_two0 H1.out.hr
        have f5 := free_two1 H1.out.hr
        by_cases he : addE tn td an ad = 0
        · have hz : (addE tn td an ad != 0) = false := by rw [he]; rfl
          have He := Lib.hid he
          clear he
          go_wp2_with fail
          go_roundw
          case rel => exact ⟨k + 1, addN tn td an ad, addD tn td an ad, by omega, by go_num, Hgo.out He.out, (H1.out.total l2 _ _).alloc _⟩
          case measure => simp [intOf]; omega
        · have hz : (addE tn td an ad != 0) = true := by rw [bne_iff_ne]; exact he
          have He := Lib.hid he
          clear he
          go_wp2_with fail
          refine (keep_first c _ _ (by exact (H1.out.alloc _).hc)).mono ?_
          rintro e w2 ⟨rfl, rfl⟩
          have B := Lib.hid (((H1.out.alloc (.cells #[.int .i64 (addN tn td an ad), .int .i64 (addD tn td an ad)] 23)).keeps l2 (addE tn td an ad)).back l2 (.int .i64 tn) (.int .i64 td))
          go_wp2_with fail
          have n1 : ¬ c = w.heap.size := by omega
          have n2 : ¬ w.heap.size = c := by omega
          refine bodyPost_ret (v := .agg #[.int .i64 tn, .int .i64 td]) (by simp [results, Tryd.results43, go_sem, q4, q5, n1, n2, l4]) rfl ⟨?_, B.out.1, ?_⟩
          · rw [← Hst.out He.out]
          · rw [← Hst.out He.out]; exact B.out.2
      · obtain rfl : k = rs.length := by omega
        have B := Lib.hid (hS.back l2 (.int .i64 tn) (.int .i64 td))
        have Hend : Hid ((tn, td, 0) = run 0 1 rs) := by rw [List.drop_length] at hrun; exact hrun
        clear hrun hS
        go_wp2_with fail
        refine bodyPost_ret (v := .agg #[.int .i64 tn, .int .i64 td]) (by simp [results, Tryd.results43, go_sem, q4, q5]) rfl ⟨?_, B.out.1, ?_⟩
        · rw [← Hend.out]
        · rw [← Hend.out]; exact B.out.2

theorem Elems.later {w w1 : World} {sv : Value} {rs : List (Int × Int)} (h : Elems w sv rs) (hb : Below w.heap.size w w1) : Elems w1 sv rs := by
  cases h with
  | none p cap => exact .none p cap
  | some b off cap _ hpos hlt hx =>
    refine .some b off cap rs hpos (Nat.lt_of_lt_of_le hlt hb.size) fun i hi => ?_
    exact ⟨(hb.cell (p := ⟨b, off + i * 2, Option.none⟩) hlt).trans (hx i hi).1, (hb.cell (p := ⟨b, off + i * 2 + 1, Option.none⟩) hlt).trans (hx i hi).2⟩
theorem Elems.block {w : World} {sv : Value} {rs : List (Int × Int)} (h : Elems w sv rs) {c : Nat} (hc : w.heap.size ≤ c) : ∀ b off cap, 0 < rs.length → sv = .slice (Option.some ⟨b, off, Option.none⟩) rs.length cap → b ≠ c := by
  cases h with
  | none p cap => intro b off cap h; simp at h
  | some b off cap _ hpos hlt hx =>
    intro b' off' cap' _ he
    cases he; omega

/-- What Sum hands back. -/
def sumN (rs : List (Int × Int)) : Int := outN [] (sumStep rs).1 (sumStep rs).2.2
def sumD (rs : List (Int × Int)) : Int := outN [] (sumStep rs).2.1 (sumStep rs).2.2
def sumE (rs : List (Int × Int)) : Int := (sumStep rs).2.2

theorem sum_step (c pl : Nat) (sv : Value) (rs : List (Int × Int)) (hmax : rs.length ≤ 1000) (w : World) (hc : w.heap[c]? = some (.cells #[.int .i64 0] 76 (0, 0)))
    (hpl : w.heap[pl]? = some (.cells #[sv] 39 (0, 0))) (hsv : Elems w sv rs) (hpc : pl ≠ c) (hbc : ∀ b off cap, 0 < rs.length → sv = .slice (some ⟨b, off, none⟩) rs.length cap → b ≠ c) :
    Calls Tryd.prog 43 #[.pointer (some ⟨c, 0, none⟩), .pointer (some ⟨pl, 0, none⟩)] w fun e w' =>
      e = .returned (.agg #[.int .i64 (sumStep rs).1, .int .i64 (sumStep rs).2.1]) ∧ Kept c w w' ∧ w'.heap[c]? = some (.cells #[.int .i64 (sumStep rs).2.2] 76 (0, 0)) := by
  by_cases hl : 200 < rs.length
  · rw [show sumStep rs = (0, 1, 4) by simp [sumStep, hl]]
    exact sum_step_many c pl sv rs hl hmax w hc hpl hsv hpc
  · rw [show sumStep rs = run 0 1 rs by simp [sumStep, hl]]
    exact sum_step_run c pl sv rs (by omega) w hc hpl hsv hbc

set_option maxHeartbeats 800000 in
theorem sum_any (sv : Value) (rs : List (Int × Int)) (hmax : rs.length ≤ 1000) (w : World) (hsv : Elems w sv rs) :
    Calls Tryd.prog 19 #[sv] w fun e w' => e = .returned (.tuple #[.agg #[.int .i64 (sumN rs), .int .i64 (sumD rs)], .int .i64 (sumE rs)]) ∧ Below w.heap.size w w' := by
  have hmf : ∀ (fn : Fn) (first cap : Array Value) (w : World), (Instr.makeFunc fn first cap).run Tryd.prog w = .ok (.func fn first cap) w := fun _ _ _ _ => rfl
  have HS := Lib.hid hsv
  clear hsv
  go_enter Tryd.func19, Tryd.ntmps19
  go_wp2_with fail
  obtain ⟨W, hW⟩ : ∃ W, W = (w.alloc (.cells #[sv] 39)).alloc (.cells #[.int .i64 0, .int .i64 0] 23) := ⟨_, rfl⟩
  have eL : W.heap[w.heap.size]? = some (.cells #[sv] 39 (0, 0)) := by rw [hW]; exact heap_alloc_old (heap_alloc_new _ _) _
  have eR : W.heap[w.heap.size + 1]? = some (.cells #[.int .i64 0, .int .i64 0] 23 (0, 0)) := by
    have := heap_alloc_new (w.alloc (.cells #[sv] 39)) (.cells #[.int .i64 0, .int .i64 0] 23)
    rw [hW]; simpa using this
  have eB : Below w.heap.size w W := by rw [hW]; exact ((Below.refl _ _).alloc (Nat.le_refl _) _).alloc (by simp) _
  have eS := HS.out.later eB
  rw [← hW]
  refine (calcR_none 43 #[.pointer (some ⟨w.heap.size, 0, none⟩)] (sumStep rs).1 (sumStep rs).2.1 (sumStep rs).2.2 W (fun us v => by simp [go_sem]) ?_).mono ?_
  · intro _ wr hcalc
    have hsz := hcalc.below.size
    refine (sum_step (W.heap.size + 1 + 1) w.heap.size sv rs hmax wr hcalc.hc ((hcalc.below.block _ (lt_of_block eL)).trans eL) (eS.later hcalc.below) (by have := lt_of_block eL; omega) (eS.block (by omega))).mono ?_
    rintro e w2 ⟨rfl, h1, h2⟩
    exact ⟨rfl, hcalc.of_kept h1 h2⟩
  rintro e w1 ⟨rfl, hb1⟩
  have HB := Lib.hid (eB.trans (hb1.mono eB.size))
  have e0 := below_new hb1 eR
  have l1 := lt_of_block e0
  have q5 := cell_two0 e0
  have q6 := cell_two1 e0
  have q7 := free_two0 e0
  have q8 := free_two1 e0
  clear hb1 eL eR eB eS e0 hW HS
  go_wp2_with fail
  refine bodyPost_ret (v := .tuple #[.agg #[.int .i64 (sumN rs), .int .i64 (sumD rs)], .int .i64 (sumE rs)]) ?_ rfl ⟨rfl, ?_⟩
  · simp [results, Tryd.results19, go_sem, q5, q6, sumN, sumD, sumE, outE, errAll_nil]
  · exact (HB.out.setCell (by show w.heap.size ≤ w.heap.size + 1; omega) _).setCell (by show w.heap.size ≤ w.heap.size + 1; omega) _

end Go.Proofs.YtchjkjhkmhkjeaaDoor
