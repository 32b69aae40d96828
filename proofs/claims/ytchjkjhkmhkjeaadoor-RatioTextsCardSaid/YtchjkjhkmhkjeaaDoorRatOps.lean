/-
  What Add, Sub, Mul and Div of package ratio hand back, for any two pairs of numbers.
-/
import Derived.Test.YtchjkjhkmhkjeaaDoorRatDoorR
namespace Go.Proofs.YtchjkjhkmhkjeaaDoor
open Go.RowKit
open RM
set_option linter.unusedVariables false
set_option linter.unusedSimpArgs false

theorem mul_bd {x y : Int} (hx : -1000000000 ≤ x) (hx2 : x ≤ 1000000000) (hy : -1000000000 ≤ y) (hy2 : y ≤ 1000000000) : -1000000000000000000 ≤ x * y ∧ x * y ≤ 1000000000000000000 := by
  have h : (x * y).natAbs ≤ 1000000000 * 1000000000 := by
    rw [Int.natAbs_mul]; exact Nat.mul_le_mul (by omega) (by omega)
  omega

theorem CalcAt.of_kept {w wr w2 : World} {res : Obj} {f : Int} (h : CalcAt w res 0 wr) (hk : Kept (w.heap.size + 1 + 1) wr w2) (hc : w2.heap[w.heap.size + 1 + 1]? = some (.cells #[.int .i64 f] 76 (0, 0))) : CalcAt w res f w2 :=
  have hs := h.below.size
  ⟨h.below.trans (hk.below (by omega) hs), (hk.block _ (lt_of_block h.hres) (by omega)).trans h.hres, (hk.block _ (lt_of_block h.hfault) (by omega)).trans h.hfault, hc⟩

/-- The results of an operation on two ratios: the error of the first that has one, else those of X / Y. -/
def op2N (v : Bool) (X Y : Int) : Int := if v = true then mkN X Y else 0
def op2D (v : Bool) (X Y : Int) : Int := if v = true then mkD X Y else 0
def op2E (v : Bool) (X Y : Int) : Int := if v = true then mkE X Y else 8
theorem mkN_err {X Y : Int} (h : mkE X Y ≠ 0) : mkN X Y = 0 ∧ mkD X Y = 0 := by
  have hf : fits X Y = false := by cases hf : fits X Y <;> simp_all [mkE]
  simp [mkN, mkD, hf]
theorem errAll_two (an ad bn bd : Int) : errAll [(an, ad), (bn, bd)] = if (vld an ad && vld bn bd) = true then 0 else 8 := by simp [errAll]
theorem errAll_one (an ad : Int) : errAll [(an, ad)] = if vld an ad = true then 0 else 8 := by simp [errAll]
theorem out_two (an ad bn bd X Y : Int) : outN [(an, ad), (bn, bd)] (mkN X Y) (mkE X Y) = op2N (vld an ad && vld bn bd) X Y ∧
    outN [(an, ad), (bn, bd)] (mkD X Y) (mkE X Y) = op2D (vld an ad && vld bn bd) X Y ∧ outE [(an, ad), (bn, bd)] (mkE X Y) = op2E (vld an ad && vld bn bd) X Y := by
  have h := errAll_two an ad bn bd
  by_cases hE : mkE X Y = 0
  · cases hv : vld an ad && vld bn bd <;> rw [hv] at h <;> simp [outN, outE, op2N, op2D, op2E, h, hE]
  · have := mkN_err hE
    cases hv : vld an ad && vld bn bd <;> rw [hv] at h <;> simp [outN, outE, op2N, op2D, op2E, h, this, hE]
/-- The result of a function that can't fail on valid ratios. -/
def okN (v : Bool) (X : Int) : Int := if v = true then X else 0
def okE (v : Bool) : Int := if v = true then 0 else 8
theorem out_ok2 (an ad bn bd X : Int) : outN [(an, ad), (bn, bd)] X 0 = okN (vld an ad && vld bn bd) X ∧ outE [(an, ad), (bn, bd)] 0 = okE (vld an ad && vld bn bd) := by
  have h := errAll_two an ad bn bd
  cases hv : vld an ad && vld bn bd <;> rw [hv] at h <;> simp [outN, outE, okN, okE, h]
theorem out_ok1 (an ad X : Int) : outN [(an, ad)] X 0 = okN (vld an ad) X ∧ outE [(an, ad)] 0 = okE (vld an ad) := by
  have h := errAll_one an ad
  cases hv : vld an ad <;> rw [hv] at h <;> simp [outN, outE, okN, okE, h]

theorem operands_two (w : World) (an ad bn bd : Int) (bs : Nat) (h : w.heap[bs]? = some (.cells #[.int .i64 an, .int .i64 ad, .int .i64 bn, .int .i64 bd] 23 (0, 0))) : Operands w bs [(an, ad), (bn, bd)] := by
  refine ⟨lt_of_block h, fun i hi => ?_⟩
  match i, hi with
  | 0, _ => constructor <;> simp [World.cell?, h]
  | 1, _ => constructor <;> simp [World.cell?, h]
theorem operands_one (w : World) (an ad : Int) (bs : Nat) (h : w.heap[bs]? = some (.cells #[.int .i64 an, .int .i64 ad] 23 (0, 0))) : Operands w bs [(an, ad)] := by
  refine ⟨lt_of_block h, fun i hi => ?_⟩
  match i, hi with
  | 0, _ => constructor <;> simp [World.cell?, h]

set_option maxHeartbeats 400000 in
theorem add_step (c pa pb : Nat) (an ad bn bd : Int) (ha : vld an ad = true) (hb : vld bn bd = true) (w : World) (hc : w.heap[c]? = some (.cells #[.int .i64 0] 76 (0, 0)))
    (ea : w.heap[pa]? = some (.cells #[.int .i64 an, .int .i64 ad] 23 (0, 0))) (eb : w.heap[pb]? = some (.cells #[.int .i64 bn, .int .i64 bd] 23 (0, 0))) :
    Calls Tryd.prog 42 #[.pointer (some ⟨c, 0, none⟩), .pointer (some ⟨pa, 0, none⟩), .pointer (some ⟨pb, 0, none⟩)] w (Reduced c (an * bd + bn * ad) (ad * bd) w) := by
  obtain ⟨a1, a2, a3, a4, a5⟩ := vld_iff.1 ha
  obtain ⟨b1, b2, b3, b4, b5⟩ := vld_iff.1 hb
  clear a5 b5 ha hb
  obtain ⟨m1a, m1b⟩ := mul_bd a3 a4 (by omega) b2
  obtain ⟨m2a, m2b⟩ := mul_bd b3 b4 (by omega) a2
  obtain ⟨m3a, m3b⟩ := mul_bd (by omega) a2 (by omega) b2
  obtain ⟨m4a, m4b⟩ := mul_bd a3 a4 b3 b4
  obtain ⟨m5a, m5b⟩ := mul_bd (by omega) a2 b3 b4
  have q1 : w.cell? ⟨pa, 0, none⟩ = some (.int .i64 an) := by simp [World.cell?, ea]
  have q2 : w.cell? ⟨pa, 1, none⟩ = some (.int .i64 ad) := by simp [World.cell?, ea]
  have q3 : w.cell? ⟨pb, 0, none⟩ = some (.int .i64 bn) := by simp [World.cell?, eb]
  have q4 : w.cell? ⟨pb, 1, none⟩ = some (.int .i64 bd) := by simp [World.cell?, eb]
  have l1 := lt_of_block ea
  have l2 := lt_of_block eb
  have l3 := lt_of_block hc
  have Hc := Lib.hid hc
  clear hc ea eb
  go_enter Tryd.func42, Tryd.ntmps42
  go_wp2_with fail
  refine (reduce_any c _ _ (by omega) (by omega) (by omega) (by omega) _ (by exact heap_alloc_old Hc.out _)).mono ?_
  rintro e w1 ⟨rfl, h1, h2⟩
  have H1 := Lib.hid h1
  have H2 := Lib.hid h2
  have hz : w.heap.size + 1 ≤ w1.heap.size := by simpa using h2.size
  have e0 : w1.heap[w.heap.size]? = some (.cells #[.int .i64 0, .int .i64 0] 23 (0, 0)) := (h2.block _ (by simp) (by omega)).trans (heap_alloc_new _ _)
  have q5 : w1.cell? ⟨w.heap.size, 0, none⟩ = some (.int .i64 0) := by simp [World.cell?, e0]
  have q6 : w1.cell? ⟨w.heap.size, 1, none⟩ = some (.int .i64 0) := by simp [World.cell?, e0]
  have q7 : w1.frozen? ⟨w.heap.size, 0, none⟩ = false := by simp [World.frozen?, e0]
  have q8 : w1.frozen? ⟨w.heap.size, 1, none⟩ = false := by simp [World.frozen?, e0]
  clear h1 h2 e0
  go_wp2_with fail
  refine bodyPost_ret (v := .agg #[.int .i64 (mkN (an * bd + bn * ad) (ad * bd)), .int .i64 (mkD (an * bd + bn * ad) (ad * bd))]) (by simp [results, Tryd.results42, go_sem, q5, q6]) rfl ⟨rfl, ?_, ?_⟩
  · exact heap_set_other (heap_set_other H1.out (by show c ≠ w.heap.size; omega) _) (by show c ≠ w.heap.size; omega) _
  · exact (((Kept.refl c w).alloc _).trans H2.out).setCell (.inr (Nat.le_refl _)) _ |>.setCell (.inr (Nat.le_refl _)) _

set_option maxHeartbeats 400000 in
/-- Add: X / Y with X = an * bd + bn * ad and Y = ad * bd. -/
theorem add_any (an ad bn bd : Int) (w : World) :
    Calls Tryd.prog 18 #[.agg #[.int .i64 an, .int .i64 ad], .agg #[.int .i64 bn, .int .i64 bd]] w fun e w' =>
      e = .returned (.tuple #[.agg #[.int .i64 (op2N (vld an ad && vld bn bd) (an * bd + bn * ad) (ad * bd)), .int .i64 (op2D (vld an ad && vld bn bd) (an * bd + bn * ad) (ad * bd))], .int .i64 (op2E (vld an ad && vld bn bd) (an * bd + bn * ad) (ad * bd))]) ∧ Below w.heap.size w w' := by
  have hmf : ∀ (fn : Fn) (first cap : Array Value) (w : World), (Instr.makeFunc fn first cap).run Tryd.prog w = .ok (.func fn first cap) w := fun _ _ _ _ => rfl
  go_enter Tryd.func18, Tryd.ntmps18
  go_wp2_with fail
  have eA : ((((w.alloc (.cells #[.int .i64 an, .int .i64 ad] 23)).alloc (.cells #[.int .i64 bn, .int .i64 bd] 23)).alloc (.cells #[.int .i64 0, .int .i64 0] 23)).alloc (.cells #[.int .i64 an, .int .i64 ad, .int .i64 bn, .int .i64 bd] 23)).heap[w.heap.size]? = some (.cells #[.int .i64 an, .int .i64 ad] 23 (0, 0)) :=
    heap_alloc_old (heap_alloc_old (heap_alloc_old (heap_alloc_new _ _) _) _) _
  have eB : ((((w.alloc (.cells #[.int .i64 an, .int .i64 ad] 23)).alloc (.cells #[.int .i64 bn, .int .i64 bd] 23)).alloc (.cells #[.int .i64 0, .int .i64 0] 23)).alloc (.cells #[.int .i64 an, .int .i64 ad, .int .i64 bn, .int .i64 bd] 23)).heap[w.heap.size + 1]? = some (.cells #[.int .i64 bn, .int .i64 bd] 23 (0, 0)) :=
    heap_alloc_old (heap_alloc_old (by have := heap_alloc_new (w.alloc (.cells #[.int .i64 an, .int .i64 ad] 23)) (.cells #[.int .i64 bn, .int .i64 bd] 23); simpa using this) _) _
  have eS : ((((w.alloc (.cells #[.int .i64 an, .int .i64 ad] 23)).alloc (.cells #[.int .i64 bn, .int .i64 bd] 23)).alloc (.cells #[.int .i64 0, .int .i64 0] 23)).alloc (.cells #[.int .i64 an, .int .i64 ad, .int .i64 bn, .int .i64 bd] 23)).heap[w.heap.size + 1 + 1 + 1]? = some (.cells #[.int .i64 an, .int .i64 ad, .int .i64 bn, .int .i64 bd] 23 (0, 0)) := by
    have := heap_alloc_new (((w.alloc (.cells #[.int .i64 an, .int .i64 ad] 23)).alloc (.cells #[.int .i64 bn, .int .i64 bd] 23)).alloc (.cells #[.int .i64 0, .int .i64 0] 23)) (.cells #[.int .i64 an, .int .i64 ad, .int .i64 bn, .int .i64 bd] 23)
    simpa using this
  refine (calcR_some 42 #[.pointer (some ⟨w.heap.size, 0, none⟩), .pointer (some ⟨w.heap.size + 1, 0, none⟩)] (w.heap.size + 1 + 1 + 1) 2 [(an, ad), (bn, bd)]
    (mkN (an * bd + bn * ad) (ad * bd)) (mkD (an * bd + bn * ad) (ad * bd)) (mkE (an * bd + bn * ad) (ad * bd)) _ (by simp) (operands_two _ an ad bn bd _ eS) (fun us v => by simp [go_sem]) ?_).mono ?_
  · intro herr wr hcalc
    have hv : (vld an ad && vld bn bd) = true := by rw [errAll_two] at herr; revert herr; split <;> simp_all
    rw [Bool.and_eq_true] at hv
    refine (add_step _ _ _ an ad bn bd hv.1 hv.2 wr hcalc.hc ((hcalc.below.block _ (lt_of_block eA)).trans eA) ((hcalc.below.block _ (lt_of_block eB)).trans eB)).mono ?_
    rintro e w2 ⟨rfl, h1, h2⟩
    exact ⟨rfl, hcalc.of_kept h2 h1⟩
  rintro e w1 ⟨rfl, hb1⟩
  have HB := Lib.hid hb1
  have hs1 : w.heap.size + 1 + 1 + 1 + 1 ≤ w1.heap.size := by simpa using hb1.size
  have e0 : w1.heap[w.heap.size + 1 + 1]? = some (.cells #[.int .i64 0, .int .i64 0] 23 (0, 0)) := by
    refine (hb1.block _ (by simp)).trans (heap_alloc_old ?_ _)
    have := heap_alloc_new ((w.alloc (.cells #[.int .i64 an, .int .i64 ad] 23)).alloc (.cells #[.int .i64 bn, .int .i64 bd] 23)) (.cells #[.int .i64 0, .int .i64 0] 23)
    simpa using this
  have q5 : w1.cell? ⟨w.heap.size + 1 + 1, 0, none⟩ = some (.int .i64 0) := by simp [World.cell?, e0]
  have q6 : w1.cell? ⟨w.heap.size + 1 + 1, 1, none⟩ = some (.int .i64 0) := by simp [World.cell?, e0]
  have q7 : w1.frozen? ⟨w.heap.size + 1 + 1, 0, none⟩ = false := by simp [World.frozen?, e0]
  have q8 : w1.frozen? ⟨w.heap.size + 1 + 1, 1, none⟩ = false := by simp [World.frozen?, e0]
  obtain ⟨o1, o2, o3⟩ := out_two an ad bn bd (an * bd + bn * ad) (ad * bd)
  rw [o1, o2, o3]
  clear hb1 eA eB eS e0 o1 o2 o3
  go_wp2_with fail
  refine bodyPost_ret (v := .tuple #[.agg #[.int .i64 (op2N (vld an ad && vld bn bd) (an * bd + bn * ad) (ad * bd)), .int .i64 (op2D (vld an ad && vld bn bd) (an * bd + bn * ad) (ad * bd))], .int .i64 (op2E (vld an ad && vld bn bd) (an * bd + bn * ad) (ad * bd))]) (by simp [results, Tryd.results18, go_sem, q5, q6]) rfl ⟨rfl, ?_⟩
  refine Below.setCell (Below.setCell (Below.trans ?_ (HB.out.mono ?_)) ?_ _) ?_ _
  · exact (((Below.refl _ _).alloc (Nat.le_refl _) _).alloc (by simp) _).alloc (by simp; omega) _ |>.alloc (by simp; omega) _
  all_goals (simp <;> omega)

set_option maxHeartbeats 400000 in
theorem sub_step (c pa pb : Nat) (an ad bn bd : Int) (ha : vld an ad = true) (hb : vld bn bd = true) (w : World) (hc : w.heap[c]? = some (.cells #[.int .i64 0] 76 (0, 0)))
    (ea : w.heap[pa]? = some (.cells #[.int .i64 an, .int .i64 ad] 23 (0, 0))) (eb : w.heap[pb]? = some (.cells #[.int .i64 bn, .int .i64 bd] 23 (0, 0))) :
    Calls Tryd.prog 48 #[.pointer (some ⟨c, 0, none⟩), .pointer (some ⟨pa, 0, none⟩), .pointer (some ⟨pb, 0, none⟩)] w (Reduced c (an * bd - bn * ad) (ad * bd) w) := by
  obtain ⟨a1, a2, a3, a4, a5⟩ := vld_iff.1 ha
  obtain ⟨b1, b2, b3, b4, b5⟩ := vld_iff.1 hb
  clear a5 b5 ha hb
  obtain ⟨m1a, m1b⟩ := mul_bd a3 a4 (by omega) b2
  obtain ⟨m2a, m2b⟩ := mul_bd b3 b4 (by omega) a2
  obtain ⟨m3a, m3b⟩ := mul_bd (by omega) a2 (by omega) b2
  obtain ⟨m4a, m4b⟩ := mul_bd a3 a4 b3 b4
  obtain ⟨m5a, m5b⟩ := mul_bd (by omega) a2 b3 b4
  have q1 : w.cell? ⟨pa, 0, none⟩ = some (.int .i64 an) := by simp [World.cell?, ea]
  have q2 : w.cell? ⟨pa, 1, none⟩ = some (.int .i64 ad) := by simp [World.cell?, ea]
  have q3 : w.cell? ⟨pb, 0, none⟩ = some (.int .i64 bn) := by simp [World.cell?, eb]
  have q4 : w.cell? ⟨pb, 1, none⟩ = some (.int .i64 bd) := by simp [World.cell?, eb]
  have l1 := lt_of_block ea
  have l2 := lt_of_block eb
  have l3 := lt_of_block hc
  have Hc := Lib.hid hc
  clear hc ea eb
  go_enter Tryd.func48, Tryd.ntmps48
  go_wp2_with fail
  refine (reduce_any c _ _ (by omega) (by omega) (by omega) (by omega) _ (by exact heap_alloc_old Hc.out _)).mono ?_
  rintro e w1 ⟨rfl, h1, h2⟩
  have H1 := Lib.hid h1
  have H2 := Lib.hid h2
  have hz : w.heap.size + 1 ≤ w1.heap.size := by simpa using h2.size
  have e0 : w1.heap[w.heap.size]? = some (.cells #[.int .i64 0, .int .i64 0] 23 (0, 0)) := (h2.block _ (by simp) (by omega)).trans (heap_alloc_new _ _)
  have q5 : w1.cell? ⟨w.heap.size, 0, none⟩ = some (.int .i64 0) := by simp [World.cell?, e0]
  have q6 : w1.cell? ⟨w.heap.size, 1, none⟩ = some (.int .i64 0) := by simp [World.cell?, e0]
  have q7 : w1.frozen? ⟨w.heap.size, 0, none⟩ = false := by simp [World.frozen?, e0]
  have q8 : w1.frozen? ⟨w.heap.size, 1, none⟩ = false := by simp [World.frozen?, e0]
  clear h1 h2 e0
  go_wp2_with fail
  refine bodyPost_ret (v := .agg #[.int .i64 (mkN (an * bd - bn * ad) (ad * bd)), .int .i64 (mkD (an * bd - bn * ad) (ad * bd))]) (by simp [results, Tryd.results48, go_sem, q5, q6]) rfl ⟨rfl, ?_, ?_⟩
  · exact heap_set_other (heap_set_other H1.out (by show c ≠ w.heap.size; omega) _) (by show c ≠ w.heap.size; omega) _
  · exact (((Kept.refl c w).alloc _).trans H2.out).setCell (.inr (Nat.le_refl _)) _ |>.setCell (.inr (Nat.le_refl _)) _

set_option maxHeartbeats 400000 in
/-- Sub: X / Y with X = an * bd - bn * ad and Y = ad * bd. -/
theorem sub_any (an ad bn bd : Int) (w : World) :
    Calls Tryd.prog 24 #[.agg #[.int .i64 an, .int .i64 ad], .agg #[.int .i64 bn, .int .i64 bd]] w fun e w' =>
      e = .returned (.tuple #[.agg #[.int .i64 (op2N (vld an ad && vld bn bd) (an * bd - bn * ad) (ad * bd)), .int .i64 (op2D (vld an ad && vld bn bd) (an * bd - bn * ad) (ad * bd))], .int .i64 (op2E (vld an ad && vld bn bd) (an * bd - bn * ad) (ad * bd))]) ∧ Below w.heap.size w w' := by
  have hmf : ∀ (fn : Fn) (first cap : Array Value) (w : World), (Instr.makeFunc fn first cap).run Tryd.prog w = .ok (.func fn first cap) w := fun _ _ _ _ => rfl
  go_enter Tryd.func24, Tryd.ntmps24
  go_wp2_with fail
  have eA : ((((w.alloc (.cells #[.int .i64 an, .int .i64 ad] 23)).alloc (.cells #[.int .i64 bn, .int .i64 bd] 23)).alloc (.cells #[.int .i64 0, .int .i64 0] 23)).alloc (.cells #[.int .i64 an, .int .i64 ad, .int .i64 bn, .int .i64 bd] 23)).heap[w.heap.size]? = some (.cells #[.int .i64 an, .int .i64 ad] 23 (0, 0)) :=
    heap_alloc_old (heap_alloc_old (heap_alloc_old (heap_alloc_new _ _) _) _) _
  have eB : ((((w.alloc (.cells #[.int .i64 an, .int .i64 ad] 23)).alloc (.cells #[.int .i64 bn, .int .i64 bd] 23)).alloc (.cells #[.int .i64 0, .int .i64 0] 23)).alloc (.cells #[.int .i64 an, .int .i64 ad, .int .i64 bn, .int .i64 bd] 23)).heap[w.heap.size + 1]? = some (.cells #[.int .i64 bn, .int .i64 bd] 23 (0, 0)) :=
    heap_alloc_old (heap_alloc_old (by have := heap_alloc_new (w.alloc (.cells #[.int .i64 an, .int .i64 ad] 23)) (.cells #[.int .i64 bn, .int .i64 bd] 23); simpa using this) _) _
  have eS : ((((w.alloc (.cells #[.int .i64 an, .int .i64 ad] 23)).alloc (.cells #[.int .i64 bn, .int .i64 bd] 23)).alloc (.cells #[.int .i64 0, .int .i64 0] 23)).alloc (.cells #[.int .i64 an, .int .i64 ad, .int .i64 bn, .int .i64 bd] 23)).heap[w.heap.size + 1 + 1 + 1]? = some (.cells #[.int .i64 an, .int .i64 ad, .int .i64 bn, .int .i64 bd] 23 (0, 0)) := by
    have := heap_alloc_new (((w.alloc (.cells #[.int .i64 an, .int .i64 ad] 23)).alloc (.cells #[.int .i64 bn, .int .i64 bd] 23)).alloc (.cells #[.int .i64 0, .int .i64 0] 23)) (.cells #[.int .i64 an, .int .i64 ad, .int .i64 bn, .int .i64 bd] 23)
    simpa using this
  refine (calcR_some 48 #[.pointer (some ⟨w.heap.size, 0, none⟩), .pointer (some ⟨w.heap.size + 1, 0, none⟩)] (w.heap.size + 1 + 1 + 1) 2 [(an, ad), (bn, bd)]
    (mkN (an * bd - bn * ad) (ad * bd)) (mkD (an * bd - bn * ad) (ad * bd)) (mkE (an * bd - bn * ad) (ad * bd)) _ (by simp) (operands_two _ an ad bn bd _ eS) (fun us v => by simp [go_sem]) ?_).mono ?_
  · intro herr wr hcalc
    have hv : (vld an ad && vld bn bd) = true := by rw [errAll_two] at herr; revert herr; split <;> simp_all
    rw [Bool.and_eq_true] at hv
    refine (sub_step _ _ _ an ad bn bd hv.1 hv.2 wr hcalc.hc ((hcalc.below.block _ (lt_of_block eA)).trans eA) ((hcalc.below.block _ (lt_of_block eB)).trans eB)).mono ?_
    rintro e w2 ⟨rfl, h1, h2⟩
    exact ⟨rfl, hcalc.of_kept h2 h1⟩
  rintro e w1 ⟨rfl, hb1⟩
  have HB := Lib.hid hb1
  have hs1 : w.heap.size + 1 + 1 + 1 + 1 ≤ w1.heap.size := by simpa using hb1.size
  have e0 : w1.heap[w.heap.size + 1 + 1]? = some (.cells #[.int .i64 0, .int .i64 0] 23 (0, 0)) := by
    refine (hb1.block _ (by simp)).trans (heap_alloc_old ?_ _)
    have := heap_alloc_new ((w.alloc (.cells #[.int .i64 an, .int .i64 ad] 23)).alloc (.cells #[.int .i64 bn, .int .i64 bd] 23)) (.cells #[.int .i64 0, .int .i64 0] 23)
    simpa using this
  have q5 : w1.cell? ⟨w.heap.size + 1 + 1, 0, none⟩ = some (.int .i64 0) := by simp [World.cell?, e0]
  have q6 : w1.cell? ⟨w.heap.size + 1 + 1, 1, none⟩ = some (.int .i64 0) := by simp [World.cell?, e0]
  have q7 : w1.frozen? ⟨w.heap.size + 1 + 1, 0, none⟩ = false := by simp [World.frozen?, e0]
  have q8 : w1.frozen? ⟨w.heap.size + 1 + 1, 1, none⟩ = false := by simp [World.frozen?, e0]
  obtain ⟨o1, o2, o3⟩ := out_two an ad bn bd (an * bd - bn * ad) (ad * bd)
  rw [o1, o2, o3]
  clear hb1 eA eB eS e0 o1 o2 o3
  go_wp2_with fail
  refine bodyPost_ret (v := .tuple #[.agg #[.int .i64 (op2N (vld an ad && vld bn bd) (an * bd - bn * ad) (ad * bd)), .int .i64 (op2D (vld an ad && vld bn bd) (an * bd - bn * ad) (ad * bd))], .int .i64 (op2E (vld an ad && vld bn bd) (an * bd - bn * ad) (ad * bd))]) (by simp [results, Tryd.results24, go_sem, q5, q6]) rfl ⟨rfl, ?_⟩
  refine Below.setCell (Below.setCell (Below.trans ?_ (HB.out.mono ?_)) ?_ _) ?_ _
  · exact (((Below.refl _ _).alloc (Nat.le_refl _) _).alloc (by simp) _).alloc (by simp; omega) _ |>.alloc (by simp; omega) _
  all_goals (simp <;> omega)

set_option maxHeartbeats 400000 in
theorem mul_step (c pa pb : Nat) (an ad bn bd : Int) (ha : vld an ad = true) (hb : vld bn bd = true) (w : World) (hc : w.heap[c]? = some (.cells #[.int .i64 0] 76 (0, 0)))
    (ea : w.heap[pa]? = some (.cells #[.int .i64 an, .int .i64 ad] 23 (0, 0))) (eb : w.heap[pb]? = some (.cells #[.int .i64 bn, .int .i64 bd] 23 (0, 0))) :
    Calls Tryd.prog 47 #[.pointer (some ⟨c, 0, none⟩), .pointer (some ⟨pa, 0, none⟩), .pointer (some ⟨pb, 0, none⟩)] w (Reduced c (an * bn) (ad * bd) w) := by
  obtain ⟨a1, a2, a3, a4, a5⟩ := vld_iff.1 ha
  obtain ⟨b1, b2, b3, b4, b5⟩ := vld_iff.1 hb
  clear a5 b5 ha hb
  obtain ⟨m1a, m1b⟩ := mul_bd a3 a4 (by omega) b2
  obtain ⟨m2a, m2b⟩ := mul_bd b3 b4 (by omega) a2
  obtain ⟨m3a, m3b⟩ := mul_bd (by omega) a2 (by omega) b2
  obtain ⟨m4a, m4b⟩ := mul_bd a3 a4 b3 b4
  obtain ⟨m5a, m5b⟩ := mul_bd (by omega) a2 b3 b4
  have q1 : w.cell? ⟨pa, 0, none⟩ = some (.int .i64 an) := by simp [World.cell?, ea]
  have q2 : w.cell? ⟨pa, 1, none⟩ = some (.int .i64 ad) := by simp [World.cell?, ea]
  have q3 : w.cell? ⟨pb, 0, none⟩ = some (.int .i64 bn) := by simp [World.cell?, eb]
  have q4 : w.cell? ⟨pb, 1, none⟩ = some (.int .i64 bd) := by simp [World.cell?, eb]
  have l1 := lt_of_block ea
  have l2 := lt_of_block eb
  have l3 := lt_of_block hc
  have Hc := Lib.hid hc
  clear hc ea eb
  go_enter Tryd.func47, Tryd.ntmps47
  go_wp2_with fail
  refine (reduce_any c _ _ (by omega) (by omega) (by omega) (by omega) _ (by exact heap_alloc_old Hc.out _)).mono ?_
  rintro e w1 ⟨rfl, h1, h2⟩
  have H1 := Lib.hid h1
  have H2 := Lib.hid h2
  have hz : w.heap.size + 1 ≤ w1.heap.size := by simpa using h2.size
  have e0 : w1.heap[w.heap.size]? = some (.cells #[.int .i64 0, .int .i64 0] 23 (0, 0)) := (h2.block _ (by simp) (by omega)).trans (heap_alloc_new _ _)
  have q5 : w1.cell? ⟨w.heap.size, 0, none⟩ = some (.int .i64 0) := by simp [World.cell?, e0]
  have q6 : w1.cell? ⟨w.heap.size, 1, none⟩ = some (.int .i64 0) := by simp [World.cell?, e0]
  have q7 : w1.frozen? ⟨w.heap.size, 0, none⟩ = false := by simp [World.frozen?, e0]
  have q8 : w1.frozen? ⟨w.heap.size, 1, none⟩ = false := by simp [World.frozen?, e0]
  clear h1 h2 e0
  go_wp2_with fail
  refine bodyPost_ret (v := .agg #[.int .i64 (mkN (an * bn) (ad * bd)), .int .i64 (mkD (an * bn) (ad * bd))]) (by simp [results, Tryd.results47, go_sem, q5, q6]) rfl ⟨rfl, ?_, ?_⟩
  · exact heap_set_other (heap_set_other H1.out (by show c ≠ w.heap.size; omega) _) (by show c ≠ w.heap.size; omega) _
  · exact (((Kept.refl c w).alloc _).trans H2.out).setCell (.inr (Nat.le_refl _)) _ |>.setCell (.inr (Nat.le_refl _)) _

set_option maxHeartbeats 400000 in
/-- Mul: X / Y with X = an * bn and Y = ad * bd. -/
theorem mul_any (an ad bn bd : Int) (w : World) :
    Calls Tryd.prog 23 #[.agg #[.int .i64 an, .int .i64 ad], .agg #[.int .i64 bn, .int .i64 bd]] w fun e w' =>
      e = .returned (.tuple #[.agg #[.int .i64 (op2N (vld an ad && vld bn bd) (an * bn) (ad * bd)), .int .i64 (op2D (vld an ad && vld bn bd) (an * bn) (ad * bd))], .int .i64 (op2E (vld an ad && vld bn bd) (an * bn) (ad * bd))]) ∧ Below w.heap.size w w' := by
  have hmf : ∀ (fn : Fn) (first cap : Array Value) (w : World), (Instr.makeFunc fn first cap).run Tryd.prog w = .ok (.func fn first cap) w := fun _ _ _ _ => rfl
  go_enter Tryd.func23, Tryd.ntmps23
  go_wp2_with fail
  have eA : ((((w.alloc (.cells #[.int .i64 an, .int .i64 ad] 23)).alloc (.cells #[.int .i64 bn, .int .i64 bd] 23)).alloc (.cells #[.int .i64 0, .int .i64 0] 23)).alloc (.cells #[.int .i64 an, .int .i64 ad, .int .i64 bn, .int .i64 bd] 23)).heap[w.heap.size]? = some (.cells #[.int .i64 an, .int .i64 ad] 23 (0, 0)) :=
    heap_alloc_old (heap_alloc_old (heap_alloc_old (heap_alloc_new _ _) _) _) _
  have eB : ((((w.alloc (.cells #[.int .i64 an, .int .i64 ad] 23)).alloc (.cells #[.int .i64 bn, .int .i64 bd] 23)).alloc (.cells #[.int .i64 0, .int .i64 0] 23)).alloc (.cells #[.int .i64 an, .int .i64 ad, .int .i64 bn, .int .i64 bd] 23)).heap[w.heap.size + 1]? = some (.cells #[.int .i64 bn, .int .i64 bd] 23 (0, 0)) :=
    heap_alloc_old (heap_alloc_old (by have := heap_alloc_new (w.alloc (.cells #[.int .i64 an, .int .i64 ad] 23)) (.cells #[.int .i64 bn, .int .i64 bd] 23); simpa using this) _) _
  have eS : ((((w.alloc (.cells #[.int .i64 an, .int .i64 ad] 23)).alloc (.cells #[.int .i64 bn, .int .i64 bd] 23)).alloc (.cells #[.int .i64 0, .int .i64 0] 23)).alloc (.cells #[.int .i64 an, .int .i64 ad, .int .i64 bn, .int .i64 bd] 23)).heap[w.heap.size + 1 + 1 + 1]? = some (.cells #[.int .i64 an, .int .i64 ad, .int .i64 bn, .int .i64 bd] 23 (0, 0)) := by
    have := heap_alloc_new (((w.alloc (.cells #[.int .i64 an, .int .i64 ad] 23)).alloc (.cells #[.int .i64 bn, .int .i64 bd] 23)).alloc (.cells #[.int .i64 0, .int .i64 0] 23)) (.cells #[.int .i64 an, .int .i64 ad, .int .i64 bn, .int .i64 bd] 23)
    simpa using this
  refine (calcR_some 47 #[.pointer (some ⟨w.heap.size, 0, none⟩), .pointer (some ⟨w.heap.size + 1, 0, none⟩)] (w.heap.size + 1 + 1 + 1) 2 [(an, ad), (bn, bd)]
    (mkN (an * bn) (ad * bd)) (mkD (an * bn) (ad * bd)) (mkE (an * bn) (ad * bd)) _ (by simp) (operands_two _ an ad bn bd _ eS) (fun us v => by simp [go_sem]) ?_).mono ?_
  · intro herr wr hcalc
    have hv : (vld an ad && vld bn bd) = true := by rw [errAll_two] at herr; revert herr; split <;> simp_all
    rw [Bool.and_eq_true] at hv
    refine (mul_step _ _ _ an ad bn bd hv.1 hv.2 wr hcalc.hc ((hcalc.below.block _ (lt_of_block eA)).trans eA) ((hcalc.below.block _ (lt_of_block eB)).trans eB)).mono ?_
    rintro e w2 ⟨rfl, h1, h2⟩
    exact ⟨rfl, hcalc.of_kept h2 h1⟩
  rintro e w1 ⟨rfl, hb1⟩
  have HB := Lib.hid hb1
  have hs1 : w.heap.size + 1 + 1 + 1 + 1 ≤ w1.heap.size := by simpa using hb1.size
  have e0 : w1.heap[w.heap.size + 1 + 1]? = some (.cells #[.int .i64 0, .int .i64 0] 23 (0, 0)) := by
    refine (hb1.block _ (by simp)).trans (heap_alloc_old ?_ _)
    have := heap_alloc_new ((w.alloc (.cells #[.int .i64 an, .int .i64 ad] 23)).alloc (.cells #[.int .i64 bn, .int .i64 bd] 23)) (.cells #[.int .i64 0, .int .i64 0] 23)
    simpa using this
  have q5 : w1.cell? ⟨w.heap.size + 1 + 1, 0, none⟩ = some (.int .i64 0) := by simp [World.cell?, e0]
  have q6 : w1.cell? ⟨w.heap.size + 1 + 1, 1, none⟩ = some (.int .i64 0) := by simp [World.cell?, e0]
  have q7 : w1.frozen? ⟨w.heap.size + 1 + 1, 0, none⟩ = false := by simp [World.frozen?, e0]
  have q8 : w1.frozen? ⟨w.heap.size + 1 + 1, 1, none⟩ = false := by simp [World.frozen?, e0]
  obtain ⟨o1, o2, o3⟩ := out_two an ad bn bd (an * bn) (ad * bd)
  rw [o1, o2, o3]
  clear hb1 eA eB eS e0 o1 o2 o3
  go_wp2_with fail
  refine bodyPost_ret (v := .tuple #[.agg #[.int .i64 (op2N (vld an ad && vld bn bd) (an * bn) (ad * bd)), .int .i64 (op2D (vld an ad && vld bn bd) (an * bn) (ad * bd))], .int .i64 (op2E (vld an ad && vld bn bd) (an * bn) (ad * bd))]) (by simp [results, Tryd.results23, go_sem, q5, q6]) rfl ⟨rfl, ?_⟩
  refine Below.setCell (Below.setCell (Below.trans ?_ (HB.out.mono ?_)) ?_ _) ?_ _
  · exact (((Below.refl _ _).alloc (Nat.le_refl _) _).alloc (by simp) _).alloc (by simp; omega) _ |>.alloc (by simp; omega) _
  all_goals (simp <;> omega)

set_option maxHeartbeats 400000 in
theorem div_step (c pa pb : Nat) (an ad bn bd : Int) (ha : vld an ad = true) (hb : vld bn bd = true) (w : World) (hc : w.heap[c]? = some (.cells #[.int .i64 0] 76 (0, 0)))
    (ea : w.heap[pa]? = some (.cells #[.int .i64 an, .int .i64 ad] 23 (0, 0))) (eb : w.heap[pb]? = some (.cells #[.int .i64 bn, .int .i64 bd] 23 (0, 0))) :
    Calls Tryd.prog 41 #[.pointer (some ⟨c, 0, none⟩), .pointer (some ⟨pa, 0, none⟩), .pointer (some ⟨pb, 0, none⟩)] w (Reduced c (an * bd) (ad * bn) w) := by
  obtain ⟨a1, a2, a3, a4, a5⟩ := vld_iff.1 ha
  obtain ⟨b1, b2, b3, b4, b5⟩ := vld_iff.1 hb
  clear a5 b5 ha hb
  obtain ⟨m1a, m1b⟩ := mul_bd a3 a4 (by omega) b2
  obtain ⟨m2a, m2b⟩ := mul_bd b3 b4 (by omega) a2
  obtain ⟨m3a, m3b⟩ := mul_bd (by omega) a2 (by omega) b2
  obtain ⟨m4a, m4b⟩ := mul_bd a3 a4 b3 b4
  obtain ⟨m5a, m5b⟩ := mul_bd (by omega) a2 b3 b4
  have q1 : w.cell? ⟨pa, 0, none⟩ = some (.int .i64 an) := by simp [World.cell?, ea]
  have q2 : w.cell? ⟨pa, 1, none⟩ = some (.int .i64 ad) := by simp [World.cell?, ea]
  have q3 : w.cell? ⟨pb, 0, none⟩ = some (.int .i64 bn) := by simp [World.cell?, eb]
  have q4 : w.cell? ⟨pb, 1, none⟩ = some (.int .i64 bd) := by simp [World.cell?, eb]
  have l1 := lt_of_block ea
  have l2 := lt_of_block eb
  have l3 := lt_of_block hc
  have Hc := Lib.hid hc
  clear hc ea eb
  go_enter Tryd.func41, Tryd.ntmps41
  go_wp2_with fail
  refine (reduce_any c _ _ (by omega) (by omega) (by omega) (by omega) _ (by exact heap_alloc_old Hc.out _)).mono ?_
  rintro e w1 ⟨rfl, h1, h2⟩
  have H1 := Lib.hid h1
  have H2 := Lib.hid h2
  have hz : w.heap.size + 1 ≤ w1.heap.size := by simpa using h2.size
  have e0 : w1.heap[w.heap.size]? = some (.cells #[.int .i64 0, .int .i64 0] 23 (0, 0)) := (h2.block _ (by simp) (by omega)).trans (heap_alloc_new _ _)
  have q5 : w1.cell? ⟨w.heap.size, 0, none⟩ = some (.int .i64 0) := by simp [World.cell?, e0]
  have q6 : w1.cell? ⟨w.heap.size, 1, none⟩ = some (.int .i64 0) := by simp [World.cell?, e0]
  have q7 : w1.frozen? ⟨w.heap.size, 0, none⟩ = false := by simp [World.frozen?, e0]
  have q8 : w1.frozen? ⟨w.heap.size, 1, none⟩ = false := by simp [World.frozen?, e0]
  clear h1 h2 e0
  go_wp2_with fail
  refine bodyPost_ret (v := .agg #[.int .i64 (mkN (an * bd) (ad * bn)), .int .i64 (mkD (an * bd) (ad * bn))]) (by simp [results, Tryd.results41, go_sem, q5, q6]) rfl ⟨rfl, ?_, ?_⟩
  · exact heap_set_other (heap_set_other H1.out (by show c ≠ w.heap.size; omega) _) (by show c ≠ w.heap.size; omega) _
  · exact (((Kept.refl c w).alloc _).trans H2.out).setCell (.inr (Nat.le_refl _)) _ |>.setCell (.inr (Nat.le_refl _)) _

set_option maxHeartbeats 400000 in
/-- Div: X / Y with X = an * bd and Y = ad * bn. -/
theorem div_any (an ad bn bd : Int) (w : World) :
    Calls Tryd.prog 16 #[.agg #[.int .i64 an, .int .i64 ad], .agg #[.int .i64 bn, .int .i64 bd]] w fun e w' =>
      e = .returned (.tuple #[.agg #[.int .i64 (op2N (vld an ad && vld bn bd) (an * bd) (ad * bn)), .int .i64 (op2D (vld an ad && vld bn bd) (an * bd) (ad * bn))], .int .i64 (op2E (vld an ad && vld bn bd) (an * bd) (ad * bn))]) ∧ Below w.heap.size w w' := by
  have hmf : ∀ (fn : Fn) (first cap : Array Value) (w : World), (Instr.makeFunc fn first cap).run Tryd.prog w = .ok (.func fn first cap) w := fun _ _ _ _ => rfl
  go_enter Tryd.func16, Tryd.ntmps16
  go_wp2_with fail
  have eA : ((((w.alloc (.cells #[.int .i64 an, .int .i64 ad] 23)).alloc (.cells #[.int .i64 bn, .int .i64 bd] 23)).alloc (.cells #[.int .i64 0, .int .i64 0] 23)).alloc (.cells #[.int .i64 an, .int .i64 ad, .int .i64 bn, .int .i64 bd] 23)).heap[w.heap.size]? = some (.cells #[.int .i64 an, .int .i64 ad] 23 (0, 0)) :=
    heap_alloc_old (heap_alloc_old (heap_alloc_old (heap_alloc_new _ _) _) _) _
  have eB : ((((w.alloc (.cells #[.int .i64 an, .int .i64 ad] 23)).alloc (.cells #[.int .i64 bn, .int .i64 bd] 23)).alloc (.cells #[.int .i64 0, .int .i64 0] 23)).alloc (.cells #[.int .i64 an, .int .i64 ad, .int .i64 bn, .int .i64 bd] 23)).heap[w.heap.size + 1]? = some (.cells #[.int .i64 bn, .int .i64 bd] 23 (0, 0)) :=
    heap_alloc_old (heap_alloc_old (by have := heap_alloc_new (w.alloc (.cells #[.int .i64 an, .int .i64 ad] 23)) (.cells #[.int .i64 bn, .int .i64 bd] 23); simpa using this) _) _
  have eS : ((((w.alloc (.cells #[.int .i64 an, .int .i64 ad] 23)).alloc (.cells #[.int .i64 bn, .int .i64 bd] 23)).alloc (.cells #[.int .i64 0, .int .i64 0] 23)).alloc (.cells #[.int .i64 an, .int .i64 ad, .int .i64 bn, .int .i64 bd] 23)).heap[w.heap.size + 1 + 1 + 1]? = some (.cells #[.int .i64 an, .int .i64 ad, .int .i64 bn, .int .i64 bd] 23 (0, 0)) := by
    have := heap_alloc_new (((w.alloc (.cells #[.int .i64 an, .int .i64 ad] 23)).alloc (.cells #[.int .i64 bn, .int .i64 bd] 23)).alloc (.cells #[.int .i64 0, .int .i64 0] 23)) (.cells #[.int .i64 an, .int .i64 ad, .int .i64 bn, .int .i64 bd] 23)
    simpa using this
  refine (calcR_some 41 #[.pointer (some ⟨w.heap.size, 0, none⟩), .pointer (some ⟨w.heap.size + 1, 0, none⟩)] (w.heap.size + 1 + 1 + 1) 2 [(an, ad), (bn, bd)]
    (mkN (an * bd) (ad * bn)) (mkD (an * bd) (ad * bn)) (mkE (an * bd) (ad * bn)) _ (by simp) (operands_two _ an ad bn bd _ eS) (fun us v => by simp [go_sem]) ?_).mono ?_
  · intro herr wr hcalc
    have hv : (vld an ad && vld bn bd) = true := by rw [errAll_two] at herr; revert herr; split <;> simp_all
    rw [Bool.and_eq_true] at hv
    refine (div_step _ _ _ an ad bn bd hv.1 hv.2 wr hcalc.hc ((hcalc.below.block _ (lt_of_block eA)).trans eA) ((hcalc.below.block _ (lt_of_block eB)).trans eB)).mono ?_
    rintro e w2 ⟨rfl, h1, h2⟩
    exact ⟨rfl, hcalc.of_kept h2 h1⟩
  rintro e w1 ⟨rfl, hb1⟩
  have HB := Lib.hid hb1
  have hs1 : w.heap.size + 1 + 1 + 1 + 1 ≤ w1.heap.size := by simpa using hb1.size
  have e0 : w1.heap[w.heap.size + 1 + 1]? = some (.cells #[.int .i64 0, .int .i64 0] 23 (0, 0)) := by
    refine (hb1.block _ (by simp)).trans (heap_alloc_old ?_ _)
    have := heap_alloc_new ((w.alloc (.cells #[.int .i64 an, .int .i64 ad] 23)).alloc (.cells #[.int .i64 bn, .int .i64 bd] 23)) (.cells #[.int .i64 0, .int .i64 0] 23)
    simpa using this
  have q5 : w1.cell? ⟨w.heap.size + 1 + 1, 0, none⟩ = some (.int .i64 0) := by simp [World.cell?, e0]
  have q6 : w1.cell? ⟨w.heap.size + 1 + 1, 1, none⟩ = some (.int .i64 0) := by simp [World.cell?, e0]
  have q7 : w1.frozen? ⟨w.heap.size + 1 + 1, 0, none⟩ = false := by simp [World.frozen?, e0]
  have q8 : w1.frozen? ⟨w.heap.size + 1 + 1, 1, none⟩ = false := by simp [World.frozen?, e0]
  obtain ⟨o1, o2, o3⟩ := out_two an ad bn bd (an * bd) (ad * bn)
  rw [o1, o2, o3]
  clear hb1 eA eB eS e0 o1 o2 o3
  go_wp2_with fail
  refine bodyPost_ret (v := .tuple #[.agg #[.int .i64 (op2N (vld an ad && vld bn bd) (an * bd) (ad * bn)), .int .i64 (op2D (vld an ad && vld bn bd) (an * bd) (ad * bn))], .int .i64 (op2E (vld an ad && vld bn bd) (an * bd) (ad * bn))]) (by simp [results, Tryd.results16, go_sem, q5, q6]) rfl ⟨rfl, ?_⟩
  refine Below.setCell (Below.setCell (Below.trans ?_ (HB.out.mono ?_)) ?_ _) ?_ _
  · exact (((Below.refl _ _).alloc (Nat.le_refl _) _).alloc (by simp) _).alloc (by simp; omega) _ |>.alloc (by simp; omega) _
  all_goals (simp <;> omega)

end Go.Proofs.YtchjkjhkmhkjeaaDoor
