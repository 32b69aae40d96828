/-
  Rules that came in: opened.
-/
import Derived.Test.YtkjjehnfibfngaaWordOpen
import Derived.Test.YtkjjehnfibfngaaRewMem
namespace Go.Proofs.Ytkjjehnfibfngaa
open Go.ChangeShapes Go.WideShapes Go.ChangeAt Go.RowKit Go.Joins Go.Deep
open WM RM
set_option linter.unusedVariables false
set_option linter.unusedSimpArgs false
set_option maxRecDepth 100000

theorem ro_u8 {k : Int} (h : (Lit.int .u8 k).wf = true) : ∃ c : UInt8, k = ((c.toNat : Nat) : Int) := by
  have u1 : IntKind.u8.min = 0 := by decide
  have u2 : IntKind.u8.max = 255 := by decide
  simp [Lit.wf, u1, u2] at h
  exact ⟨UInt8.ofNat k.toNat, by rw [UInt8.toNat_ofNat']; omega⟩
theorem ro_cellsFs : Try.prog.cellsOf 51 = 1 := by kernel_rfl
theorem ro_cellsSs : Try.prog.cellsOf 52 = 1 := by kernel_rfl
/-- How long a form's, a shape's, a rule's parts may be. -/
def FmOk (f : Fm) : Prop := f.cs.length ≤ 9223372036854775807
def ShOk (s : Sh) : Prop := s.a.length ≤ 9223372036854775807 ∧ ∀ f ∈ s.a, FmOk f
def RwOk (r : Rw) : Prop := r.gs.length ≤ 9223372036854775807 ∧ r.out.length ≤ 9223372036854775807 ∧ (∀ f ∈ r.gs, FmOk f) ∧ ∀ s ∈ r.out, ShOk s
/-- The cells of a form, a shape, a rule. -/
def ro_fmC (W : World) (f : Fm) (cs : List Value) : Prop := ∃ v, cs = [.int .i64 f.k, v] ∧ Ints W v f.cs
def ro_shC (W : World) (s : Sh) (cs : List Value) : Prop := ∃ v, cs = [.int .u8 s.c.toNat, v] ∧ Fms W v s.a
def ro_rwC (W : World) (r : Rw) (cs : List Value) : Prop := ∃ v u, cs = [.int .u8 r.c.toNat, .int .i64 r.ar, .int .u8 r.l.toNat, .int .u8 r.r.toNat, v, .int .i64 r.wt, u] ∧ Fms W v r.gs ∧ Shs W u r.out
theorem ro_fmC_len {W : World} {f : Fm} {cs : List Value} (h : ro_fmC W f cs) : cs.length = 2 := by obtain ⟨v, rfl, _⟩ := h; rfl
theorem ro_shC_len {W : World} {s : Sh} {cs : List Value} (h : ro_shC W s cs) : cs.length = 2 := by obtain ⟨v, rfl, _⟩ := h; rfl
theorem ro_rwC_len {W : World} {r : Rw} {cs : List Value} (h : ro_rwC W r cs) : cs.length = 7 := by obtain ⟨v, u, rfl, _⟩ := h; rfl
theorem ro_fmC_at {W : World} {f : Fm} {cs : List Value} {b o : Nat} (h : ro_fmC W f cs) (hc : ∀ j, j < 2 → W.cell? ⟨b, o + j, none⟩ = cs[j]?) : W.cell? ⟨b, o, none⟩ = some (.int .i64 f.k) ∧ ∃ v, W.cell? ⟨b, o + 1, none⟩ = some v ∧ Ints W v f.cs := by
  obtain ⟨v, rfl, hi⟩ := h
  exact ⟨hc 0 (by omega), v, hc 1 (by omega), hi⟩
theorem ro_shC_at {W : World} {s : Sh} {cs : List Value} {b o : Nat} (h : ro_shC W s cs) (hc : ∀ j, j < 2 → W.cell? ⟨b, o + j, none⟩ = cs[j]?) : W.cell? ⟨b, o, none⟩ = some (.int .u8 s.c.toNat) ∧ ∃ v, W.cell? ⟨b, o + 1, none⟩ = some v ∧ Fms W v s.a := by
  obtain ⟨v, rfl, hi⟩ := h
  exact ⟨hc 0 (by omega), v, hc 1 (by omega), hi⟩
theorem ro_rwC_at {W : World} {r : Rw} {cs : List Value} {b o : Nat} (h : ro_rwC W r cs) (hc : ∀ j, j < 7 → W.cell? ⟨b, o + j, none⟩ = cs[j]?) :
    W.cell? ⟨b, o, none⟩ = some (.int .u8 r.c.toNat) ∧ W.cell? ⟨b, o + 1, none⟩ = some (.int .i64 r.ar) ∧ W.cell? ⟨b, o + 2, none⟩ = some (.int .u8 r.l.toNat) ∧ W.cell? ⟨b, o + 3, none⟩ = some (.int .u8 r.r.toNat) ∧
      W.cell? ⟨b, o + 5, none⟩ = some (.int .i64 r.wt) ∧ (∃ v, W.cell? ⟨b, o + 4, none⟩ = some v ∧ Fms W v r.gs) ∧ (∃ v, W.cell? ⟨b, o + 6, none⟩ = some v ∧ Shs W v r.out) := by
  obtain ⟨v, u, rfl, h1, h2⟩ := h
  exact ⟨hc 0 (by omega), hc 1 (by omega), hc 2 (by omega), hc 3 (by omega), hc 5 (by omega), ⟨v, hc 4 (by omega), h1⟩, u, hc 6 (by omega), h2⟩
theorem ro_fm_struct : ∃ fs : Array Field, Try.prog.underlying 25 = some (.struct fs) ∧ fs.map (fun f : Field => (f.offset, f.type)) = [(0, 3), (1, 23)].toArray := ⟨_, Try.underlying25, by simp⟩
theorem ro_fm_cells : Try.prog.cellsOf 25 = 2 := by kernel_rfl
theorem ro_sh_struct : ∃ fs : Array Field, Try.prog.underlying 56 = some (.struct fs) ∧ fs.map (fun f : Field => (f.offset, f.type)) = [(0, 5), (1, 51)].toArray := ⟨_, Try.underlying56, by simp⟩
theorem ro_sh_cells : Try.prog.cellsOf 56 = 2 := by kernel_rfl
theorem ro_rw_struct : ∃ fs : Array Field, Try.prog.underlying 54 = some (.struct fs) ∧ fs.map (fun f : Field => (f.offset, f.type)) = [(0, 5), (1, 3), (2, 5), (3, 5), (4, 51), (5, 3), (6, 52)].toArray := ⟨_, Try.underlying54, by simp⟩
theorem ro_rw_cells : Try.prog.cellsOf 54 = 7 := by kernel_rfl
section
variable {H : Type} {enc : TypeId × Value → H} {W : World} {base : Nat} {spare : Nat → Bool} {held : Bool}
theorem ro_fm_one {fuel : Nat} {cs : List Value} {x : DataW H × List MemPlace} (h : DataW.trod enc Try.prog W base spare held fuel 25 cs = some x) :
    ∃ f : Fm, FmOk f ∧ ro_fmC W f cs := by
  obtain ⟨fs, hu, hf⟩ := ro_fm_struct
  obtain ⟨xs, n, rfl, ex, hl, hxl, hx⟩ := DataW.trod_struct hu h
  have F := wo_fields hf
  rw [ro_fm_cells] at hl
  obtain ⟨c0, c1, rfl⟩ : ∃ c0 c1, cs = [c0, c1] := by
    match cs, hl with
    | [c0, c1], _ => exact ⟨c0, c1, rfl⟩
  have hsz : fs.size = 2 := by have := congrArg Array.size hf; simpa using this
  have get : ∀ i, i < 2 → ∃ y, xs[i]? = some y := fun i hi => ⟨xs[i]'(by omega), List.getElem?_eq_getElem (by omega)⟩
  have step : ∀ (i o : Nat) (t : TypeId) (y : DataW H × List MemPlace), ([(0, 3), (1, 23)] : List (Nat × TypeId))[i]? = some (o, t) → xs[i]? = some y → DataW.trod enc Try.prog W base spare held n t (([c0, c1].drop o).take (Try.prog.cellsOf t)) = some y := by
    intro i o t y h1 h2
    obtain ⟨f, h3, rfl, rfl⟩ := F i o t h1
    rw [hx i f h3, h2]
  obtain ⟨y0, g0⟩ := get 0 (by omega)
  have h0 := step 0 _ _ _ rfl g0
  rw [wo_cellsI] at h0
  simp only [List.drop_zero, List.drop_succ_cons, List.take_succ_cons, List.take_zero] at h0
  obtain ⟨k0, e0, -, w0⟩ := DataW.trod_int Try.underlying3 h0
  simp only [List.cons.injEq, and_true] at e0
  subst e0
  obtain ⟨y1, g1⟩ := get 1 (by omega)
  have h1 := step 1 _ _ _ rfl g1
  rw [wo_cellsL] at h1
  simp only [List.drop_zero, List.drop_succ_cons, List.take_succ_cons, List.take_zero] at h1
  obtain ⟨v1, l1, e1, m1, r1, _⟩ := wo_ints h1
  simp only [List.cons.injEq, and_true] at e1
  subst e1
  exact ⟨⟨k0, l1⟩, m1, _, rfl, r1⟩
theorem ro_forms {fuel : Nat} {cs : List Value} {x : DataW H × List MemPlace} (h : DataW.trod enc Try.prog W base spare held fuel 51 cs = some x) :
    ∃ (v : Value) (l : List Fm), cs = [v] ∧ l.length ≤ 9223372036854775807 ∧ (∀ m ∈ l, FmOk m) ∧ Fms W v l := by
  rcases DataW.trod_slice Try.underlying51 h with ⟨hcs, -⟩ | ⟨ad, len, cap, elems, rest, n, _, hcs, _, _, hlc, hcm, hel, hx, -⟩
  · exact ⟨_, [], hcs, by simp, by simp, .none _ _⟩
  · have one : ∀ i, i < len → ∃ p : Fm × List Value, (∃ b off, ad.add (i * 2) = ⟨b, off, none⟩ ∧ b < W.heap.size ∧ p.2.length = 2 ∧ ∀ j, j < 2 → W.cell? ⟨b, off + j, none⟩ = p.2[j]?) ∧ FmOk p.1 ∧ ro_fmC W p.1 p.2 := by
      intro i hi
      have h1 := hx i hi
      rw [ro_fm_cells, List.getElem?_eq_getElem (by omega)] at h1
      obtain ⟨cs', h2, h3⟩ := Option.bind_eq_some_iff.1 h1
      obtain ⟨m, h4, h5⟩ := ro_fm_one h3
      obtain ⟨hlen, _, hc⟩ := World.cells?_some h2
      obtain ⟨b, off, path, he⟩ : ∃ b off path, ad.add (i * 2) = ⟨b, off, path⟩ := ⟨_, _, _, rfl⟩
      rw [he] at hc
      have c0 := hc 0 (by omega)
      have hl' := ro_fmC_len h5
      rw [List.getElem?_eq_getElem (by omega)] at c0
      have hp : path = none := by simpa [Addr.add] using World.cell?_spot c0
      subst hp
      have hlt : b < W.heap.size := by
        rcases Nat.lt_or_ge b W.heap.size with h | h
        · exact h
        · simp [World.cell?, Addr.add, Array.getElem?_eq_none h] at c0
      refine ⟨(m, cs'), ⟨b, off, he, hlt, hl', fun j hj => ?_⟩, h4, h5⟩
      have := hc j (by omega)
      rw [wo_add] at this
      exact this
    have : Inhabited (Fm × List Value) := ⟨(⟨0, []⟩, [])⟩
    obtain ⟨f, hf⟩ := choose_lt one
    refine ⟨_, (List.range len).map fun i => (f i).1, hcs, ?_, ?_, ?_⟩
    · unfold maxLen at hcm
      simp; omega
    · intro m hm
      rw [List.mem_map] at hm
      obtain ⟨i, hi, rfl⟩ := hm
      exact (hf i (by simpa using hi)).2.1
    · rcases Nat.eq_zero_or_pos len with h0 | hpos
      · subst h0; exact .none _ _
      · obtain ⟨⟨b, off, e0, hlt, _⟩, _⟩ := hf 0 hpos
        have ea : ad = ⟨b, off, none⟩ := by simpa [Addr.add] using e0
        subst ea
        have hll : ((List.range len).map fun i => (f i).1).length = len := by simp
        have := Fms.some (w := W) b off cap ((List.range len).map fun i => (f i).1) (by omega) hlt (by
          intro i hi
          rw [hll] at hi
          obtain ⟨⟨b', off', e, _, hl', hc⟩, _, hC⟩ := hf i hi
          rw [wo_add] at e
          injection e with e1 e2 _
          subst e1 e2
          simp only [List.getElem_map, List.getElem_range]
          exact ro_fmC_at hC hc)
        rwa [hll] at this
theorem ro_sh_one {fuel : Nat} {cs : List Value} {x : DataW H × List MemPlace} (h : DataW.trod enc Try.prog W base spare held fuel 56 cs = some x) :
    ∃ s : Sh, ShOk s ∧ ro_shC W s cs := by
  obtain ⟨fs, hu, hf⟩ := ro_sh_struct
  obtain ⟨xs, n, rfl, ex, hl, hxl, hx⟩ := DataW.trod_struct hu h
  have F := wo_fields hf
  rw [ro_sh_cells] at hl
  obtain ⟨c0, c1, rfl⟩ : ∃ c0 c1, cs = [c0, c1] := by
    match cs, hl with
    | [c0, c1], _ => exact ⟨c0, c1, rfl⟩
  have hsz : fs.size = 2 := by have := congrArg Array.size hf; simpa using this
  have get : ∀ i, i < 2 → ∃ y, xs[i]? = some y := fun i hi => ⟨xs[i]'(by omega), List.getElem?_eq_getElem (by omega)⟩
  have step : ∀ (i o : Nat) (t : TypeId) (y : DataW H × List MemPlace), ([(0, 5), (1, 51)] : List (Nat × TypeId))[i]? = some (o, t) → xs[i]? = some y → DataW.trod enc Try.prog W base spare held n t (([c0, c1].drop o).take (Try.prog.cellsOf t)) = some y := by
    intro i o t y h1 h2
    obtain ⟨f, h3, rfl, rfl⟩ := F i o t h1
    rw [hx i f h3, h2]
  obtain ⟨y0, g0⟩ := get 0 (by omega)
  have h0 := step 0 _ _ _ rfl g0
  rw [wo_cellsU] at h0
  simp only [List.drop_zero, List.drop_succ_cons, List.take_succ_cons, List.take_zero] at h0
  obtain ⟨k0, e0, -, w0⟩ := DataW.trod_int Try.underlying5 h0
  simp only [List.cons.injEq, and_true] at e0
  subst e0
  obtain ⟨b0, rfl⟩ := ro_u8 w0
  obtain ⟨y1, g1⟩ := get 1 (by omega)
  have h1 := step 1 _ _ _ rfl g1
  rw [ro_cellsFs] at h1
  simp only [List.drop_zero, List.drop_succ_cons, List.take_succ_cons, List.take_zero] at h1
  obtain ⟨v1, l1, e1, m1, n1, r1⟩ := ro_forms h1
  simp only [List.cons.injEq, and_true] at e1
  subst e1
  exact ⟨⟨b0, l1⟩, ⟨m1, n1⟩, _, rfl, r1⟩
theorem ro_shapes {fuel : Nat} {cs : List Value} {x : DataW H × List MemPlace} (h : DataW.trod enc Try.prog W base spare held fuel 52 cs = some x) :
    ∃ (v : Value) (l : List Sh), cs = [v] ∧ l.length ≤ 9223372036854775807 ∧ (∀ m ∈ l, ShOk m) ∧ Shs W v l := by
  rcases DataW.trod_slice Try.underlying52 h with ⟨hcs, -⟩ | ⟨ad, len, cap, elems, rest, n, _, hcs, _, _, hlc, hcm, hel, hx, -⟩
  · exact ⟨_, [], hcs, by simp, by simp, .none _ _⟩
  · have one : ∀ i, i < len → ∃ p : Sh × List Value, (∃ b off, ad.add (i * 2) = ⟨b, off, none⟩ ∧ b < W.heap.size ∧ p.2.length = 2 ∧ ∀ j, j < 2 → W.cell? ⟨b, off + j, none⟩ = p.2[j]?) ∧ ShOk p.1 ∧ ro_shC W p.1 p.2 := by
      intro i hi
      have h1 := hx i hi
      rw [ro_sh_cells, List.getElem?_eq_getElem (by omega)] at h1
      obtain ⟨cs', h2, h3⟩ := Option.bind_eq_some_iff.1 h1
      obtain ⟨m, h4, h5⟩ := ro_sh_one h3
      obtain ⟨hlen, _, hc⟩ := World.cells?_some h2
      obtain ⟨b, off, path, he⟩ : ∃ b off path, ad.add (i * 2) = ⟨b, off, path⟩ := ⟨_, _, _, rfl⟩
      rw [he] at hc
      have c0 := hc 0 (by omega)
      have hl' := ro_shC_len h5
      rw [List.getElem?_eq_getElem (by omega)] at c0
      have hp : path = none := by simpa [Addr.add] using World.cell?_spot c0
      subst hp
      have hlt : b < W.heap.size := by
        rcases Nat.lt_or_ge b W.heap.size with h | h
        · exact h
        · simp [World.cell?, Addr.add, Array.getElem?_eq_none h] at c0
      refine ⟨(m, cs'), ⟨b, off, he, hlt, hl', fun j hj => ?_⟩, h4, h5⟩
      have := hc j (by omega)
      rw [wo_add] at this
      exact this
    have : Inhabited (Sh × List Value) := ⟨(⟨0, []⟩, [])⟩
    obtain ⟨f, hf⟩ := choose_lt one
    refine ⟨_, (List.range len).map fun i => (f i).1, hcs, ?_, ?_, ?_⟩
    · unfold maxLen at hcm
      simp; omega
    · intro m hm
      rw [List.mem_map] at hm
      obtain ⟨i, hi, rfl⟩ := hm
      exact (hf i (by simpa using hi)).2.1
    · rcases Nat.eq_zero_or_pos len with h0 | hpos
      · subst h0; exact .none _ _
      · obtain ⟨⟨b, off, e0, hlt, _⟩, _⟩ := hf 0 hpos
        have ea : ad = ⟨b, off, none⟩ := by simpa [Addr.add] using e0
        subst ea
        have hll : ((List.range len).map fun i => (f i).1).length = len := by simp
        have := Shs.some (w := W) b off cap ((List.range len).map fun i => (f i).1) (by omega) hlt (by
          intro i hi
          rw [hll] at hi
          obtain ⟨⟨b', off', e, _, hl', hc⟩, _, hC⟩ := hf i hi
          rw [wo_add] at e
          injection e with e1 e2 _
          subst e1 e2
          simp only [List.getElem_map, List.getElem_range]
          exact ro_shC_at hC hc)
        rwa [hll] at this
theorem ro_rw_one {fuel : Nat} {cs : List Value} {x : DataW H × List MemPlace} (h : DataW.trod enc Try.prog W base spare held fuel 54 cs = some x) :
    ∃ r : Rw, RwOk r ∧ ro_rwC W r cs := by
  obtain ⟨fs, hu, hf⟩ := ro_rw_struct
  obtain ⟨xs, n, rfl, ex, hl, hxl, hx⟩ := DataW.trod_struct hu h
  have F := wo_fields hf
  rw [ro_rw_cells] at hl
  obtain ⟨c0, c1, c2, c3, c4, c5, c6, rfl⟩ : ∃ c0 c1 c2 c3 c4 c5 c6, cs = [c0, c1, c2, c3, c4, c5, c6] := by
    match cs, hl with
    | [c0, c1, c2, c3, c4, c5, c6], _ => exact ⟨c0, c1, c2, c3, c4, c5, c6, rfl⟩
  have hsz : fs.size = 7 := by have := congrArg Array.size hf; simpa using this
  have get : ∀ i, i < 7 → ∃ y, xs[i]? = some y := fun i hi => ⟨xs[i]'(by omega), List.getElem?_eq_getElem (by omega)⟩
  have step : ∀ (i o : Nat) (t : TypeId) (y : DataW H × List MemPlace), ([(0, 5), (1, 3), (2, 5), (3, 5), (4, 51), (5, 3), (6, 52)] : List (Nat × TypeId))[i]? = some (o, t) → xs[i]? = some y → DataW.trod enc Try.prog W base spare held n t (([c0, c1, c2, c3, c4, c5, c6].drop o).take (Try.prog.cellsOf t)) = some y := by
    intro i o t y h1 h2
    obtain ⟨f, h3, rfl, rfl⟩ := F i o t h1
    rw [hx i f h3, h2]
  obtain ⟨y0, g0⟩ := get 0 (by omega)
  have h0 := step 0 _ _ _ rfl g0
  rw [wo_cellsU] at h0
  simp only [List.drop_zero, List.drop_succ_cons, List.take_succ_cons, List.take_zero] at h0
  obtain ⟨k0, e0, -, w0⟩ := DataW.trod_int Try.underlying5 h0
  simp only [List.cons.injEq, and_true] at e0
  subst e0
  obtain ⟨b0, rfl⟩ := ro_u8 w0
  obtain ⟨y1, g1⟩ := get 1 (by omega)
  have h1 := step 1 _ _ _ rfl g1
  rw [wo_cellsI] at h1
  simp only [List.drop_zero, List.drop_succ_cons, List.take_succ_cons, List.take_zero] at h1
  obtain ⟨k1, e1, -, w1⟩ := DataW.trod_int Try.underlying3 h1
  simp only [List.cons.injEq, and_true] at e1
  subst e1
  obtain ⟨y2, g2⟩ := get 2 (by omega)
  have h2 := step 2 _ _ _ rfl g2
  rw [wo_cellsU] at h2
  simp only [List.drop_zero, List.drop_succ_cons, List.take_succ_cons, List.take_zero] at h2
  obtain ⟨k2, e2, -, w2⟩ := DataW.trod_int Try.underlying5 h2
  simp only [List.cons.injEq, and_true] at e2
  subst e2
  obtain ⟨b2, rfl⟩ := ro_u8 w2
  obtain ⟨y3, g3⟩ := get 3 (by omega)
  have h3 := step 3 _ _ _ rfl g3
  rw [wo_cellsU] at h3
  simp only [List.drop_zero, List.drop_succ_cons, List.take_succ_cons, List.take_zero] at h3
  obtain ⟨k3, e3, -, w3⟩ := DataW.trod_int Try.underlying5 h3
  simp only [List.cons.injEq, and_true] at e3
  subst e3
  obtain ⟨b3, rfl⟩ := ro_u8 w3
  obtain ⟨y4, g4⟩ := get 4 (by omega)
  have h4 := step 4 _ _ _ rfl g4
  rw [ro_cellsFs] at h4
  simp only [List.drop_zero, List.drop_succ_cons, List.take_succ_cons, List.take_zero] at h4
  obtain ⟨v4, l4, e4, m4, n4, r4⟩ := ro_forms h4
  simp only [List.cons.injEq, and_true] at e4
  subst e4
  obtain ⟨y5, g5⟩ := get 5 (by omega)
  have h5 := step 5 _ _ _ rfl g5
  rw [wo_cellsI] at h5
  simp only [List.drop_zero, List.drop_succ_cons, List.take_succ_cons, List.take_zero] at h5
  obtain ⟨k5, e5, -, w5⟩ := DataW.trod_int Try.underlying3 h5
  simp only [List.cons.injEq, and_true] at e5
  subst e5
  obtain ⟨y6, g6⟩ := get 6 (by omega)
  have h6 := step 6 _ _ _ rfl g6
  rw [ro_cellsSs] at h6
  simp only [List.drop_zero, List.drop_succ_cons, List.take_succ_cons, List.take_zero] at h6
  obtain ⟨v6, l6, e6, m6, n6, r6⟩ := ro_shapes h6
  simp only [List.cons.injEq, and_true] at e6
  subst e6
  exact ⟨⟨b0, k1, b2, b3, l4, k5, l6⟩, ⟨m4, m6, n4, n6⟩, _, _, rfl, r4, r6⟩
theorem ro_rules {fuel : Nat} {cs : List Value} {x : DataW H × List MemPlace} (h : DataW.trod enc Try.prog W base spare held fuel 22 cs = some x) :
    ∃ (v : Value) (l : List Rw), cs = [v] ∧ l.length ≤ 9223372036854775807 ∧ (∀ m ∈ l, RwOk m) ∧ Rws W v l := by
  rcases DataW.trod_slice Try.underlying22 h with ⟨hcs, -⟩ | ⟨ad, len, cap, elems, rest, n, _, hcs, _, _, hlc, hcm, hel, hx, -⟩
  · exact ⟨_, [], hcs, by simp, by simp, .none _ _⟩
  · have one : ∀ i, i < len → ∃ p : Rw × List Value, (∃ b off, ad.add (i * 7) = ⟨b, off, none⟩ ∧ b < W.heap.size ∧ p.2.length = 7 ∧ ∀ j, j < 7 → W.cell? ⟨b, off + j, none⟩ = p.2[j]?) ∧ RwOk p.1 ∧ ro_rwC W p.1 p.2 := by
      intro i hi
      have h1 := hx i hi
      rw [ro_rw_cells, List.getElem?_eq_getElem (by omega)] at h1
      obtain ⟨cs', h2, h3⟩ := Option.bind_eq_some_iff.1 h1
      obtain ⟨m, h4, h5⟩ := ro_rw_one h3
      obtain ⟨hlen, _, hc⟩ := World.cells?_some h2
      obtain ⟨b, off, path, he⟩ : ∃ b off path, ad.add (i * 7) = ⟨b, off, path⟩ := ⟨_, _, _, rfl⟩
      rw [he] at hc
      have c0 := hc 0 (by omega)
      have hl' := ro_rwC_len h5
      rw [List.getElem?_eq_getElem (by omega)] at c0
      have hp : path = none := by simpa [Addr.add] using World.cell?_spot c0
      subst hp
      have hlt : b < W.heap.size := by
        rcases Nat.lt_or_ge b W.heap.size with h | h
        · exact h
        · simp [World.cell?, Addr.add, Array.getElem?_eq_none h] at c0
      refine ⟨(m, cs'), ⟨b, off, he, hlt, hl', fun j hj => ?_⟩, h4, h5⟩
      have := hc j (by omega)
      rw [wo_add] at this
      exact this
    have : Inhabited (Rw × List Value) := ⟨(⟨0, 0, 0, 0, [], 0, []⟩, [])⟩
    obtain ⟨f, hf⟩ := choose_lt one
    refine ⟨_, (List.range len).map fun i => (f i).1, hcs, ?_, ?_, ?_⟩
    · unfold maxLen at hcm
      simp; omega
    · intro m hm
      rw [List.mem_map] at hm
      obtain ⟨i, hi, rfl⟩ := hm
      exact (hf i (by simpa using hi)).2.1
    · rcases Nat.eq_zero_or_pos len with h0 | hpos
      · subst h0; exact .none _ _
      · obtain ⟨⟨b, off, e0, hlt, _⟩, _⟩ := hf 0 hpos
        have ea : ad = ⟨b, off, none⟩ := by simpa [Addr.add] using e0
        subst ea
        have hll : ((List.range len).map fun i => (f i).1).length = len := by simp
        have := Rws.some (w := W) b off cap ((List.range len).map fun i => (f i).1) (by omega) hlt (by
          intro i hi
          rw [hll] at hi
          obtain ⟨⟨b', off', e, _, hl', hc⟩, _, hC⟩ := hf i hi
          rw [wo_add] at e
          injection e with e1 e2 _
          subst e1 e2
          simp only [List.getElem_map, List.getElem_range]
          exact ro_rwC_at hC hc)
        rwa [hll] at this
/-- .. as an argument. -/
theorem rwsOpen {v : Value} {d : DataW H} {p : List MemPlace} {a0 : Option Addr} {len cap : Nat} (hv : v = .slice a0 len cap) (h : DataW.Trod enc Try.prog W base spare held 22 v d p) :
    ∃ l : List Rw, l.length ≤ 9223372036854775807 ∧ (∀ r ∈ l, RwOk r) ∧ Rws W v l := by
  obtain ⟨fuel, hf⟩ := h
  subst hv
  obtain ⟨v', l, e, h1, h2, h3⟩ := ro_rules (by simpa [Value.cells] using hf)
  simp at e
  subst e
  exact ⟨l, h1, h2, h3⟩
end
theorem readableR : Try.prog.readableRec 22 = true := by kernel_rfl
theorem smallR : 22 < Try.prog.types.size := of_decide_eq_true (by kernel_rfl)
end Go.Proofs.Ytkjjehnfibfngaa
