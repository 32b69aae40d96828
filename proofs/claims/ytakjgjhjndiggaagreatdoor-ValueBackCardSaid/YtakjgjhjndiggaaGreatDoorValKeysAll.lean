/-
  The map of Same: keys that hold two extents, entries that are all true: what a look-up and a write do to it, whatever the tape answers. The map of Same in a walk: a look-up and a write, at the operation.
-/
import Derived.Test.YtakjgjhjndiggaaGreatDoorValHeapAll
import Derived.Deep.Draws
import Derived.Laws.StructEq
import Derived.MapKept
import Derived.Maps.OwnOps
import Derived.Test.YtakjgjhjndiggaaGreatDoorValVisit
namespace Go.Proofs.YtakjgjhjndiggaaGreatDoor
open Go.RowKit
open VM
set_option linter.unusedVariables false
set_option linter.unusedSimpArgs false

/-- A pointer that can be asked whether it is another one. -/
def PtrOk (B : Nat) (w : World) (p : Value) : Prop := p = .pointer none ∨ ∃ b off cs t f, b < B ∧ p = .pointer (some ⟨b, off, none⟩) ∧ w.heap[b]? = some (.cells cs t f) ∧ w.frozen? ⟨b, off, none⟩ = false
theorem PtrOk.of_heap {B : Nat} {w w1 : World} {p : Value} (h : PtrOk B w p) (hh : ∀ b, b < B → w1.heap[b]? = w.heap[b]?) : PtrOk B w1 p := by
  rcases h with h | ⟨b, off, cs, t, f, hb, h1, h2, h3⟩
  · exact Or.inl h
  · refine Or.inr ⟨b, off, cs, t, f, hb, h1, by rw [hh b hb]; exact h2, ?_⟩
    unfold World.frozen? at h3 ⊢
    simp only [hh b hb]; exact h3
theorem same_addr {P : Program} {B : Nat} {w : World} {a b : Addr} (ha : PtrOk B w (.pointer (some a))) (hb : PtrOk B w (.pointer (some b))) : ∃ r n, (sameAddr a b).run P w = .ok r (w.drewN n) := by
  rcases ha with ha | ⟨b1, o1, c1, t1, f1, -, ha, h1, f1'⟩
  · cases ha
  rcases hb with hb | ⟨b2, o2, c2, t2, f2, -, hb, h2, f2'⟩
  · cases hb
  injection ha with ha; injection ha with ha; subst ha
  injection hb with hb; injection hb with hb; subst hb
  by_cases hbl : b1 = b2
  · exact ⟨(⟨b1, o1, none⟩ : Addr) == ⟨b2, o2, none⟩, 0, by simp [sameAddr, hbl, World.drewN_zero]⟩
  · have key : ∃ c : Bool, (mayBeOne ⟨b1, o1, none⟩ ⟨b2, o2, none⟩).run P w = .ok c w := by
      simp [mayBeOne, stringish, f1', f2', World.shape?, h1, h2]
    obtain ⟨c, hc⟩ := key
    cases c
    · refine ⟨false, 0, ?_⟩
      simp [sameAddr, hbl, f1', f2', h1, h2, noView, viewAt, World.shape?, hc, World.drewN_zero]
    · obtain ⟨q, hq⟩ : ∃ q, q = Question.extern "sameAddr.stringBytes" 2 := ⟨_, rfl⟩
      have hf : q.forced = false := by subst hq; rfl
      refine ⟨q.cut (w.tape w.drawn q) == 1, 1, ?_⟩
      simp [sameAddr, hbl, f1', f2', h1, h2, noView, viewAt, World.shape?, hc, ← hq, hf, World.drewN]
section
variable {P : Program} {tm tk te tp ti ta : TypeId} {fs : Array Field} {iv : TypeInfo}
theorem same_ptr (d : Nat) {B : Nat} {w : World} {x y : Value} (hp : P.underlying tp = some (.pointer ta)) (hi : P.info? ta = some iv) (hz : iv.size ≠ 0) (hx : PtrOk B w x) (hy : PtrOk B w y) :
    ∃ r n, (Op.equalIn (d + 1) tp x y).run P w = .ok r (w.drewN n) := by
  rcases hx with rfl | ⟨b1, o1, c1, t1, f1, g1, rfl, h1⟩
  · rcases hy with rfl | ⟨b2, o2, c2, t2, f2, g2, rfl, h2⟩ 
    · exact ⟨true, 0, by simp [Op.equalIn, run_underlying hp, World.drewN_zero]⟩
    · exact ⟨false, 0, by simp [Op.equalIn, run_underlying hp, World.drewN_zero]⟩
  · rcases hy with rfl | ⟨b2, o2, c2, t2, f2, g2, rfl, h2⟩
    · exact ⟨false, 0, by simp [Op.equalIn, run_underlying hp, World.drewN_zero]⟩
    · obtain ⟨r, n, hr⟩ := same_addr (P := P) (Or.inr ⟨b1, o1, c1, t1, f1, g1, rfl, h1⟩ : PtrOk B w _) (Or.inr ⟨b2, o2, c2, t2, f2, g2, rfl, h2⟩)
      exact ⟨r, n, by simp [Op.equalIn, run_underlying hp, sizeOf, typeInfo, hi, hz, hr]⟩
/-- Two extents, one behind the other. -/
def KeyOk (B : Nat) (w : World) (k : Value) : Prop := ∃ p m q n, k = .agg #[p, .int .i64 m, q, .int .i64 n] ∧ PtrOk B w p ∧ PtrOk B w q
theorem KeyOk.of_heap {B : Nat} {w w1 : World} {p : Value} (h : KeyOk B w p) (hh : ∀ b, b < B → w1.heap[b]? = w.heap[b]?) : KeyOk B w1 p := by
  obtain ⟨p, m, q, n, h1, h2, h3⟩ := h
  exact ⟨p, m, q, n, h1, h2.of_heap hh, h3.of_heap hh⟩
end
theorem infoV : ∃ iv, Tryz.prog.info? 28 = some iv ∧ iv.size ≠ 0 := by
  have h : (Tryz.prog.info? 28).map (·.size) = some 6 := by kernel_rfl
  obtain ⟨iv, h1, h2⟩ := Option.map_eq_some_iff.1 h
  exact ⟨iv, h1, by omega⟩
theorem infoE : ∃ iv, Tryz.prog.info? 82 = some iv ∧ iv.size = 2 := by
  have h : (Tryz.prog.info? 82).map (·.size) = some 2 := by kernel_rfl
  obtain ⟨iv, h1, h2⟩ := Option.map_eq_some_iff.1 h
  exact ⟨iv, h1, h2⟩
theorem stoodE : Tryz.prog.stoodInHeld 82 = false := by kernel_rfl
theorem same_ext (d : Nat) {B : Nat} {w : World} {p q : Value} {m n : Int} (hp : PtrOk B w p) (hq : PtrOk B w q) :
    ∃ r k, (Op.equalIn (d + 2) 82 (.agg #[p, .int .i64 m]) (.agg #[q, .int .i64 n])).run Tryz.prog w = .ok r (w.drewN k) := by
  obtain ⟨iv, hi, hz⟩ := infoV
  obtain ⟨r, k, h⟩ := same_ptr (P := Tryz.prog) d (tp := 80) Tryz.underlying80 hi hz hp hq
  have U : Tryz.prog.underlying 82 = some (.struct (Tryz.prog.fieldsOf 82)) := by simp [Program.fieldsOf, Tryz.underlying82]
  have h2 := run_equalIn_int (P := Tryz.prog) (w.drewN k) d 3 .i64 .i64 m n Tryz.underlying3
  rw [run_equalIn_struct w (d + 1) _ _ _ U stoodE]
  cases r
  · refine ⟨false, k, ?_⟩
    simp [Program.fieldsOf, Tryz.underlying82, Op.eqFields, part, isAgg, run_underlying Tryz.underlying80, run_underlying Tryz.underlying3, h, h2]
  · refine ⟨m == n, k, ?_⟩
    simp [Program.fieldsOf, Tryz.underlying82, Op.eqFields, part, isAgg, run_underlying Tryz.underlying80, run_underlying Tryz.underlying3, h, h2]
    split <;> simp_all
theorem same_two (d : Nat) {B : Nat} {w : World} {p1 q1 p2 q2 : Value} {m1 n1 m2 n2 : Int} (hp1 : PtrOk B w p1) (hq1 : PtrOk B w q1) (hp2 : PtrOk B w p2) (hq2 : PtrOk B w q2) :
    ∃ r k, (Op.equalIn (d + 3) 84 (.agg #[p1, .int .i64 m1, q1, .int .i64 n1]) (.agg #[p2, .int .i64 m2, q2, .int .i64 n2])).run Tryz.prog w = .ok r (w.drewN k) := by
  obtain ⟨iv, hi, hz⟩ := infoE
  obtain ⟨r, k, h⟩ := same_ext d (m := m1) (n := m2) hp1 hp2
  obtain ⟨r2, k2, h2⟩ := same_ext d (w := w.drewN k) (m := n1) (n := n2) (hq1.of_heap fun _ _ => rfl) (hq2.of_heap fun _ _ => rfl)
  obtain ⟨e, he⟩ : ∃ e, e = d + 2 := ⟨_, rfl⟩
  rw [← he] at h h2
  rw [show d + 3 = e + 1 by omega]
  clear he
  have e1 : (part 82 #[p1, .int .i64 m1, q1, .int .i64 n1] 0).run Tryz.prog w = .ok (.agg #[p1, .int .i64 m1]) w := by simp [part, isAgg, run_underlying Tryz.underlying82, sizeOf, typeInfo, hi, hz]
  have e2 : (part 82 #[p2, .int .i64 m2, q2, .int .i64 n2] 0).run Tryz.prog w = .ok (.agg #[p2, .int .i64 m2]) w := by simp [part, isAgg, run_underlying Tryz.underlying82, sizeOf, typeInfo, hi, hz]
  have e3 : (part 82 #[p1, .int .i64 m1, q1, .int .i64 n1] 2).run Tryz.prog (w.drewN k) = .ok (.agg #[q1, .int .i64 n1]) (w.drewN k) := by simp [part, isAgg, run_underlying Tryz.underlying82, sizeOf, typeInfo, hi, hz]
  have e4 : (part 82 #[p2, .int .i64 m2, q2, .int .i64 n2] 2).run Tryz.prog (w.drewN k) = .ok (.agg #[q2, .int .i64 n2]) (w.drewN k) := by simp [part, isAgg, run_underlying Tryz.underlying82, sizeOf, typeInfo, hi, hz]
  have F : ∀ (k2 : Nat) (r : Bool), (∃ k3, Sem.run Tryz.prog (do
      for i in [0:2] do
        if !(← Op.equalIn e 82 (← part 82 #[p1, .int .i64 m1, q1, .int .i64 n1] (i * 2)) (← part 82 #[p2, .int .i64 m2, q2, .int .i64 n2] (i * 2))) then return false
      pure true : Sem Bool) w = .ok r (w.drewN k3)) → ∃ k3, (Op.equalIn (e + 1) 84 (.agg #[p1, .int .i64 m1, q1, .int .i64 n1]) (.agg #[p2, .int .i64 m2, q2, .int .i64 n2])).run Tryz.prog w = .ok r (w.drewN k3) := by
    intro k2 r ⟨k3, h⟩
    refine ⟨k3, ?_⟩
    rw [← h]
    simp only [Op.equalIn, Sem.run_bind, run_underlying Tryz.underlying84, Result.andThen_ok, sizeOf, typeInfo, run_program, hi, Sem.run_pure, hz]
  cases r
  · refine ⟨false, F 0 _ ⟨k, ?_⟩⟩
    simp only [Std.Legacy.Range.forIn_eq_forIn_range', Std.Legacy.Range.size, Nat.sub_zero, Nat.add_one_sub_one, Nat.div_one]
    simp [List.range'_succ, e1, e2, h]
  · cases r2
    · refine ⟨false, F 0 _ ⟨k + k2, ?_⟩⟩
      simp only [Std.Legacy.Range.forIn_eq_forIn_range', Std.Legacy.Range.size, Nat.sub_zero, Nat.add_one_sub_one, Nat.div_one]
      simp [List.range'_succ, e1, e2, h, e3, e4, h2]
    · refine ⟨true, F 0 _ ⟨k + k2, ?_⟩⟩
      simp only [Std.Legacy.Range.forIn_eq_forIn_range', Std.Legacy.Range.size, Nat.sub_zero, Nat.add_one_sub_one, Nat.div_one]
      simp [List.range'_succ, e1, e2, h, e3, e4, h2]
theorem same_key {B : Nat} {w : World} {x y : Value} (hx : KeyOk B w x) (hy : KeyOk B w y) : ∃ r k, (Op.equal 84 x y).run Tryz.prog w = .ok r (w.drewN k) := by
  obtain ⟨p1, m1, q1, n1, rfl, hp1, hq1⟩ := hx
  obtain ⟨p2, m2, q2, n2, rfl, hp2, hq2⟩ := hy
  exact same_two 9997 hp1 hq1 hp2 hq2
/-- What asking the keys in order hands back: nothing, or one of the entries. -/
theorem find_asking {B : Nat} {x : Value} (es : List MapEntry) : ∀ (i : Nat) (w : World), KeyOk B w x → (∀ e ∈ es, KeyOk B w e.key) →
    ∃ r k, (Instr.findAsking 84 x es i).run Tryz.prog w = .ok r (w.drewN k) ∧ (r = none ∨ ∃ j e, e ∈ es ∧ r = some (j, e.val)) := by
  induction es with
  | nil => exact fun i w _ _ => ⟨none, 0, by simp [Instr.findAsking, World.drewN_zero], Or.inl rfl⟩
  | cons e es ih =>
    intro i w hx h
    obtain ⟨r, k, h1⟩ := same_key hx (h e (by simp))
    cases r
    · obtain ⟨r2, k2, h2, h3⟩ := ih (i + 1) (w.drewN k) (hx.of_heap fun _ _ => rfl) (fun f hf => (h f (by simp [hf])).of_heap fun _ _ => rfl)
      refine ⟨r2, k + k2, by simp [Instr.findAsking, h1, h2], ?_⟩
      rcases h3 with h3 | ⟨j, f, hf, h3⟩
      · exact Or.inl h3
      · exact Or.inr ⟨j, f, by simp [hf], h3⟩
    · exact ⟨some (i, e.val), k, by simp [Instr.findAsking, h1], Or.inr ⟨i, e, by simp, rfl⟩⟩
theorem find_key {B : Nat} {x : Value} (es : List MapEntry) (w : World) (hx : KeyOk B w x) (h : ∀ e ∈ es, KeyOk B w e.key) :
    ∃ r k, (Instr.findKey 84 x es).run Tryz.prog w = .ok r (w.drewN k) ∧ (r = none ∨ ∃ j e, e ∈ es ∧ r = some (j, e.val)) := by
  cases es with
  | nil => exact ⟨none, 0, by simp [Instr.findKey, run_underlying Tryz.underlying84, Instr.findNow, World.drewN_zero], Or.inl rfl⟩
  | cons e es =>
    obtain ⟨r, k, h1, h2⟩ := find_asking (e :: es) 0 w hx h
    exact ⟨r, k, by simp [Instr.findKey, run_underlying Tryz.underlying84, Instr.findNow, Instr.sameNow, h1], h2⟩
theorem check_ptr {B : Nat} {p : Value} (em : Bool) (d : Nat) (w : World) (hp : PtrOk B w p) : (Instr.checkKey em (d + 1) 80 p).run Tryz.prog w = .ok () w := by
  rcases hp with rfl | ⟨b, off, cs, t, f, -, rfl, -⟩ <;> simp [Instr.checkKey, run_underlying Tryz.underlying80]
theorem check_int (em : Bool) (d : Nat) (m : Int) (w : World) : (Instr.checkKey em (d + 1) 3 (.int .i64 m)).run Tryz.prog w = .ok () w := by
  simp [Instr.checkKey, run_underlying Tryz.underlying3]
theorem check_ext {B : Nat} {p : Value} {m : Int} (em : Bool) (d : Nat) (w : World) (hp : PtrOk B w p) : (Instr.checkKey em (d + 2) 82 (.agg #[p, .int .i64 m])).run Tryz.prog w = .ok () w := by
  have h1 := check_ptr em d w hp
  have h2 := check_int em d m w
  obtain ⟨e, he⟩ : ∃ e, e = d + 1 := ⟨_, rfl⟩
  rw [← he] at h1 h2
  rw [show d + 2 = e + 1 by omega]
  clear he
  simp [Instr.checkKey, run_underlying Tryz.underlying82, part, isAgg, run_underlying Tryz.underlying80, run_underlying Tryz.underlying3, h1, h2]
theorem check_key {B : Nat} {x : Value} (em : Bool) (w : World) (hx : KeyOk B w x) : (Instr.checkKey em 10000 84 x).run Tryz.prog w = .ok () w := by
  obtain ⟨p, m, q, n, rfl, hp, hq⟩ := hx
  obtain ⟨iv, hi, hz⟩ := infoE
  have h1 := check_ext (m := m) em 9997 w hp
  have h2 := check_ext (m := n) em 9997 w hq
  obtain ⟨e, he⟩ : ∃ e, e = 9997 + 2 := ⟨_, rfl⟩
  rw [← he] at h1 h2
  rw [show 10000 = e + 1 by omega]
  clear he
  have e1 : (part 82 #[p, .int .i64 m, q, .int .i64 n] 0).run Tryz.prog w = .ok (.agg #[p, .int .i64 m]) w := by simp [part, isAgg, run_underlying Tryz.underlying82, sizeOf, typeInfo, hi, hz]
  have e3 : (part 82 #[p, .int .i64 m, q, .int .i64 n] 2).run Tryz.prog w = .ok (.agg #[q, .int .i64 n]) w := by simp [part, isAgg, run_underlying Tryz.underlying82, sizeOf, typeInfo, hi, hz]
  have F : (Instr.checkKey em (e + 1) 84 (.agg #[p, .int .i64 m, q, .int .i64 n])).run Tryz.prog w = Sem.run Tryz.prog (do
      for i in [0:2] do Instr.checkKey em e 82 (← part 82 #[p, .int .i64 m, q, .int .i64 n] (i * (← sizeOf 82))) : Sem Unit) w := by
    simp only [Instr.checkKey, Sem.run_bind, run_underlying Tryz.underlying84, Result.andThen_ok]
  have hs : (sizeOf 82).run Tryz.prog w = .ok 2 w := by simp [sizeOf, typeInfo, hi, hz]
  rw [F]
  simp only [Std.Legacy.Range.forIn_eq_forIn_range', Std.Legacy.Range.size, Nat.sub_zero, Nat.add_one_sub_one, Nat.div_one]
  simp [List.range'_succ, hs, e1, e3, h1, h2]
/-! ### The map -/
/-- The block m holds a map of true entries with keys that can be asked. -/
def Mapped (B m : Nat) (w : World) : Prop := ∃ es clock, w.heap[m]? = some (.map es clock) ∧ ∀ e ∈ es.toList, e.val = .bool true ∧ KeyOk B w e.key
theorem Mapped.of_heap {B m : Nat} {w w1 : World} (h : Mapped B m w) (hm : w1.heap[m]? = w.heap[m]?) (hh : ∀ b, b < B → w1.heap[b]? = w.heap[b]?) : Mapped B m w1 := by
  obtain ⟨es, c, h1, h2⟩ := h
  exact ⟨es, c, hm.trans h1, fun e he => ⟨(h2 e he).1, (h2 e he).2.of_heap hh⟩⟩
theorem zero_bool (w : World) : (zeroValue 4).run Tryz.prog w = .ok (.bool false) w := by kernel_rfl
theorem look_up {B m : Nat} {x : Value} {w : World} (h : Mapped B m w) (hx : KeyOk B w x) :
    ∃ (r : Bool) (k : Nat), (Instr.lookup 79 (.map (some m)) x false).run Tryz.prog w = .ok (.bool r) (w.drewN k) := by
  obtain ⟨es, c, h1, h2⟩ := h
  obtain ⟨r, k, h3, h4⟩ := find_key es.toList w hx fun e he => (h2 e he).2
  have h5 := check_key es.isEmpty w hx
  rcases h4 with rfl | ⟨j, e, he, rfl⟩
  · refine ⟨false, k, ?_⟩
    simp [Instr.lookup, run_underlying Tryz.underlying79, run_getObj_map w m es c h1, h5, h3, zero_bool]
  · refine ⟨true, k, ?_⟩
    have := (h2 e he).1
    simp [Instr.lookup, run_underlying Tryz.underlying79, run_getObj_map w m es c h1, h5, h3, this]
theorem set_obj {w : World} {m : Nat} {es : Array MapEntry} {c : Nat} (o : Obj) (h : w.heap[m]? = some (.map es c)) : (setObj m o).run Tryz.prog w = .ok () { w with heap := w.heap.setIfInBounds m o } := by
  simp [setObj, Sem.run, h]
theorem map_set {B m : Nat} {w : World} (k : Nat) (es : Array MapEntry) (c : Nat) (hlt : m < w.heap.size) (hm : B ≤ m) (h : ∀ e ∈ es.toList, e.val = .bool true ∧ KeyOk B w e.key) :
    Mapped B m ({ w.drewN k with heap := w.heap.setIfInBounds m (.map es c) } : World) ∧ (∀ b, b ≠ m → ({ w.drewN k with heap := w.heap.setIfInBounds m (.map es c) } : World).heap[b]? = w.heap[b]?) ∧ ({ w.drewN k with heap := w.heap.setIfInBounds m (.map es c) } : World).heap.size = w.heap.size ∧ ({ w.drewN k with heap := w.heap.setIfInBounds m (.map es c) } : World).os = w.os ∧ ({ w.drewN k with heap := w.heap.setIfInBounds m (.map es c) } : World).tape = w.tape ∧ ({ w.drewN k with heap := w.heap.setIfInBounds m (.map es c) } : World).output = w.output := by
  have ho : ∀ b, b ≠ m → ({ w.drewN k with heap := w.heap.setIfInBounds m (.map es c) } : World).heap[b]? = w.heap[b]? := by
    intro b hb
    simp [Array.getElem?_setIfInBounds]
    omega
  refine ⟨⟨es, c, ?_, fun e he => ⟨(h e he).1, (h e he).2.of_heap fun b hb => ho b (by omega)⟩⟩, ho, by simp, rfl, rfl, rfl⟩
  simp [Array.getElem?_setIfInBounds, hlt]
theorem key_stays (x y : Value) (w : World) : ∃ r k, (Instr.keyThatStays x y).run Tryz.prog w = .ok r (w.drewN k) ∧ (r = x ∨ r = y) := by
  by_cases h : Instr.sameBits 10000 x y = true
  · exact ⟨y, 0, by simp [Instr.keyThatStays, h, World.drewN_zero], Or.inr rfl⟩
  · obtain ⟨q, hq⟩ : ∃ q, q = Question.extern "map.whichKeyStays" 2 := ⟨_, rfl⟩
    have hf : q.forced = false := by subst hq; rfl
    simp only [Instr.keyThatStays, h, ← hq]
    refine ⟨if q.cut (w.tape w.drawn q) = 0 then y else x, 1, ?_, ?_⟩
    · simp [hf, World.drewN]
    · split
      · exact Or.inr rfl
      · exact Or.inl rfl
theorem map_write {B m : Nat} {x : Value} {w : World} (h : Mapped B m w) (hx : KeyOk B w x) (hm : B ≤ m) :
    ∃ w1, (Instr.mapUpdate 79 (.map (some m)) x (.bool true)).run Tryz.prog w = .ok () w1 ∧ Mapped B m w1 ∧ (∀ b, b ≠ m → w1.heap[b]? = w.heap[b]?) ∧ w1.heap.size = w.heap.size ∧ w1.os = w.os ∧ w1.tape = w.tape ∧ w1.output = w.output := by
  obtain ⟨es, c, h1, h2⟩ := h
  obtain ⟨r, k, h3, h4⟩ := find_key es.toList w hx fun e he => (h2 e he).2
  have h5 := check_key false w hx
  have hlt : m < w.heap.size := lt_of_block h1
  rcases h4 with rfl | ⟨j, e, he, rfl⟩
  · refine ⟨_, ?_, map_set k (es.push { key := x, val := .bool true, born := c }) (c + 1) hlt hm ?_⟩
    · simp [Instr.mapUpdate, run_underlying Tryz.underlying79, run_getObj_map w m es c h1, h5, h3, set_obj _ (show (w.drewN k).heap[m]? = _ from h1)]
    · intro e he
      simp only [Array.toList_push, List.mem_append, List.mem_singleton] at he
      rcases he with he | rfl
      · exact h2 e he
      · exact ⟨rfl, hx⟩
  · obtain ⟨x2, k2, h6, h7⟩ := key_stays (((es[j]?).map (·.key)).getD x) x (w.drewN k)
    have hx2 : KeyOk B w x2 := by
      rcases h7 with rfl | rfl
      · cases hj : es[j]? with
        | none => exact hx
        | some e2 => exact (h2 e2 (by rw [Array.getElem?_eq_some_iff] at hj; obtain ⟨hj, rfl⟩ := hj; simp)).2
      · exact hx
    refine ⟨_, ?_, map_set (k + k2) (es.modify j fun e => { e with key := x2, val := .bool true }) c hlt hm ?_⟩
    · simp [Instr.mapUpdate, run_underlying Tryz.underlying79, run_getObj_map w m es c h1, h5, h3, h6]
      rw [set_obj _ (show (w.drewN (k + k2)).heap[m]? = _ from h1)]
      rfl
    · intro e he
      rw [Array.toList_modify] at he
      rw [List.mem_iff_getElem?] at he
      obtain ⟨i, hi⟩ := he
      rw [List.getElem?_modify] at hi
      by_cases hij : j = i
      · simp only [hij, if_true] at hi
        rw [Option.map_eq_map, Option.map_eq_some_iff] at hi
        obtain ⟨e3, -, rfl⟩ := hi
        exact ⟨rfl, hx2⟩
      · simp only [hij, if_false] at hi
        exact h2 e (List.mem_of_getElem? (by simpa using hi))
end Go.Proofs.YtakjgjhjndiggaaGreatDoor
namespace Go.Proofs.YtakjgjhjndiggaaGreatDoor
open Go.RowKit
open VM
set_option linter.unusedVariables false
set_option linter.unusedSimpArgs false

theorem wpList_look_up {ops : Array Oper} {rest : List Oper} {o : Oper} {a : Act} {w : World} {Q : Exit → Act → World → Prop} (hg : o.guard = none) (m x : Operand) (hop : o.op = Op.lookup 79 m x false)
    (B b : Nat) (hm : a.eval m = .map (some b)) (h : Mapped B b w) (key : Value) (hx : a.eval x = key) (hk : KeyOk B w key)
    (hK : ∀ (r : Bool) (k : Nat), wpList Tryz.prog ops Q rest (a.put o.dst (.bool r)) (w.drewN k)) : wpList Tryz.prog ops Q (o :: rest) a w := by
  refine wpList_plain hg fun K' hK' => ?_
  obtain ⟨r, k, hrun⟩ := look_up h hk
  unfold Oper.wp
  simp [execOp, hop, hm, hx, hrun, Result.andThen]
  exact hK' _ _ (hK r k)
theorem map_write_kept {B m : Nat} {x : Value} {w : World} (h : Mapped B m w) (hx : KeyOk B w x) (hm : B ≤ m) :
    ∃ w1, (Instr.mapUpdate 79 (.map (some m)) x (.bool true)).run Tryz.prog w = .ok () w1 ∧ Mapped B m w1 ∧ KpC B B w w1 ∧ w1.heap.size = w.heap.size := by
  obtain ⟨es, c, h1, h2⟩ := id h
  obtain ⟨w1, hr, hM, hb, hs, ho⟩ := map_write h hx hm
  refine ⟨w1, hr, hM, ⟨⟨ho.1, ho.2.1, ho.2.2, by omega, fun k hk => hb k (by omega)⟩, fun k c t f hk hc => (hb k ?_).trans hc⟩, hs⟩
  rintro rfl
  rw [h1] at hc; cases hc
theorem wpList_map_write {ops : Array Oper} {rest : List Oper} {o : Oper} {a : Act} {w : World} {Q : Exit → Act → World → Prop} (hg : o.guard = none) (m x v : Operand) (hop : o.op = Op.mapUpdate 79 m x v)
    (B b : Nat) (hm : a.eval m = .map (some b)) (h : Mapped B b w) (hB : B ≤ b) (key : Value) (hx : a.eval x = key) (hv : a.eval v = .bool true) (hk : KeyOk B w key)
    (hK : ∀ w1, Mapped B b w1 → KpC B B w w1 → w1.heap.size = w.heap.size → wpList Tryz.prog ops Q rest (a.put o.dst undef) w1) : wpList Tryz.prog ops Q (o :: rest) a w := by
  refine wpList_plain hg fun K' hK' => ?_
  obtain ⟨w1, hrun, h1, h2, h3⟩ := map_write_kept h hk hB
  unfold Oper.wp
  simp [execOp, hop, hm, hx, hv, hrun, Result.andThen]
  exact hK' _ _ (hK w1 h1 h2 h3)
end Go.Proofs.YtakjgjhjndiggaaGreatDoor
