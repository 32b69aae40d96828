/-
  A value that came in: opened.
-/
import Derived.Test.YtakjgjhjndiggaaGreatDoorValHeapAll
import Derived.ProofKit
import Derived.OpenShut
import Derived.Deep.SlicePairs
import Derived.Lib.SmallJoins
namespace Go.Proofs.YtakjgjhjndiggaaGreatDoor
open Go.ChangeShapes Go.WideShapes Go.ChangeAt Go.RowKit Go.Joins Go.Deep
open VM
set_option linter.unusedVariables false
set_option linter.unusedSimpArgs false
set_option maxRecDepth 100000

theorem cellsV : Tryz.prog.cellsOf 28 = 6 := by kernel_rfl
theorem cellsR : Tryz.prog.cellsOf 25 = 2 := by kernel_rfl
theorem cells_u8 : Tryz.prog.cellsOf 5 = 1 := by kernel_rfl
theorem cells_i64 : Tryz.prog.cellsOf 2 = 1 := by kernel_rfl
theorem cells_b : Tryz.prog.cellsOf 4 = 1 := by kernel_rfl
theorem cells_s : Tryz.prog.cellsOf 9 = 1 := by kernel_rfl
theorem cells_l : Tryz.prog.cellsOf 26 = 1 := by kernel_rfl
theorem fields_of {fs : Array Field} {l : List (Nat × TypeId)} (h : fs.map (fun f : Field => (f.offset, f.type)) = l.toArray) : ∀ (i o : Nat) (t : TypeId), l[i]? = some (o, t) → ∃ f : Field, fs[i]? = some f ∧ f.offset = o ∧ f.type = t := by
  intro i o t hi
  have : (fs.map (fun f : Field => (f.offset, f.type)))[i]? = some (o, t) := by rw [h]; simpa using hi
  rw [Array.getElem?_map, Option.map_eq_some_iff] at this
  obtain ⟨f, h1, h2⟩ := this
  injection h2 with h2 h3
  exact ⟨f, h1, h2, h3⟩
theorem fieldsV : ∃ fs : Array Field, Tryz.prog.underlying 28 = some (.struct fs) ∧ fs.map (fun f : Field => (f.offset, f.type)) = [(0, 5), (1, 25), (3, 4), (4, 9), (5, 26)].toArray := ⟨_, Tryz.underlying28, by simp⟩
theorem fieldsR : ∃ fs : Array Field, Tryz.prog.underlying 25 = some (.struct fs) ∧ fs.map (fun f : Field => (f.offset, f.type)) = [(0, 2), (1, 2)].toArray := ⟨_, Tryz.underlying25, by simp⟩
theorem list6 {α : Type} {l : List α} (h : l.length = 6) : ∃ a b c d e f, l = [a, b, c, d, e, f] := by
  match l, h with
  | [a, b, c, d, e, f], _ => exact ⟨a, b, c, d, e, f, rfl⟩
section
variable {H : Type} {enc : TypeId × Value → H} {W : World} {base : Nat} {spare : Nat → Bool} {held : Bool}
/-- The six cells of a value's row, as they were read. -/
theorem open_row {fuel : Nat} {cs : List Value} {x : DataW H × List MemPlace} (h : DataW.trod enc Tryz.prog W base spare held fuel 28 cs = some x) :
    ∃ (a : Nd) (sl : Value) (n : Nat) (y : DataW H × List MemPlace), fuel = n + 1 ∧ cs = [.int .u8 a.k, .int .i64 a.n, .int .i64 a.d, .bool a.t, .string a.s, sl] ∧ a.Wf maxLen ∧
      DataW.trod enc Tryz.prog W base spare held n 26 [sl] = some y ∧ ∀ p ∈ y.2, p ∈ x.2 := by
  obtain ⟨fs, hu, hf⟩ := fieldsV
  obtain ⟨xs, n, rfl, ex, hl, hxl, hx⟩ := DataW.trod_struct hu h
  have F := fields_of hf
  rw [cellsV] at hl
  obtain ⟨c0, c1, c2, c3, c4, c5, rfl⟩ := list6 hl
  have hsz : fs.size = 5 := by have := congrArg Array.size hf; simpa using this
  have get : ∀ i, i < 5 → ∃ y, xs[i]? = some y := fun i hi => ⟨xs[i]'(by omega), List.getElem?_eq_getElem (by omega)⟩
  have step : ∀ (i o : Nat) (t : TypeId) (y : DataW H × List MemPlace), ([(0, 5), (1, 25), (3, 4), (4, 9), (5, 26)] : List (Nat × TypeId))[i]? = some (o, t) → xs[i]? = some y → DataW.trod enc Tryz.prog W base spare held n t (([c0, c1, c2, c3, c4, c5].drop o).take (Tryz.prog.cellsOf t)) = some y := by
    intro i o t y h1 h2
    obtain ⟨f, h3, rfl, rfl⟩ := F i o t h1
    rw [hx i f h3, h2]
  obtain ⟨y0, g0⟩ := get 0 (by omega)
  obtain ⟨y1, g1⟩ := get 1 (by omega)
  obtain ⟨y2, g2⟩ := get 2 (by omega)
  obtain ⟨y3, g3⟩ := get 3 (by omega)
  obtain ⟨y4, g4⟩ := get 4 (by omega)
  have h0 := step 0 _ _ _ rfl g0
  have h1 := step 1 _ _ _ rfl g1
  have h2 := step 2 _ _ _ rfl g2
  have h3 := step 3 _ _ _ rfl g3
  have h4 := step 4 _ _ _ rfl g4
  rw [cells_u8] at h0; rw [cellsR] at h1; rw [cells_b] at h2; rw [cells_s] at h3; rw [cells_l] at h4
  obtain ⟨k, e0, -, w0⟩ := DataW.trod_int Tryz.underlying5 h0
  obtain ⟨t, e2, -⟩ := DataW.trod_bool Tryz.underlying4 h2
  obtain ⟨s, e3, -, w3⟩ := DataW.trod_string Tryz.underlying9 h3
  simp only [List.drop_zero, List.drop_succ_cons, List.take_succ_cons, List.take_zero, List.cons.injEq, and_true] at e0 e2 e3
  simp only [List.drop_zero, List.drop_succ_cons, List.take_succ_cons, List.take_zero] at h1 h4
  obtain ⟨fr, hur, hfr⟩ := fieldsR
  obtain ⟨zs, m, hm, -, -, hzl, hz⟩ := DataW.trod_struct hur h1
  have FR := fields_of hfr
  have hsr : fr.size = 2 := by have := congrArg Array.size hfr; simpa using this
  have stepR : ∀ (i o : Nat) (t : TypeId), ([(0, 2), (1, 2)] : List (Nat × TypeId))[i]? = some (o, t) → i < 2 → ∃ y, DataW.trod enc Tryz.prog W base spare held m t (([c1, c2].drop o).take (Tryz.prog.cellsOf t)) = some y := by
    intro i o t h1 h2
    obtain ⟨f, h3, rfl, rfl⟩ := FR i o t h1
    rw [hz i f h3]
    exact ⟨zs[i]'(by omega), List.getElem?_eq_getElem (by omega)⟩
  obtain ⟨z0, k0⟩ := stepR 0 _ _ rfl (by omega)
  obtain ⟨z1, k1⟩ := stepR 1 _ _ rfl (by omega)
  rw [cells_i64] at k0 k1
  obtain ⟨p, e4, -, w4⟩ := DataW.trod_int Tryz.underlying2 k0
  obtain ⟨q, e5, -, w5⟩ := DataW.trod_int Tryz.underlying2 k1
  simp only [List.drop_zero, List.drop_succ_cons, List.take_succ_cons, List.take_zero, List.cons.injEq, and_true] at e4 e5
  subst e0 e2 e3 e4 e5
  have u1 : IntKind.u8.min = 0 := by decide
  have u2 : IntKind.u8.max = 255 := by decide
  have i1 : IntKind.i64.min = -9223372036854775808 := by decide
  have i2 : IntKind.i64.max = 9223372036854775807 := by decide
  simp [Lit.wf, u1, u2] at w0
  simp [Lit.wf, i1, i2] at w4 w5
  exact ⟨⟨k, p, q, t, s⟩, c5, n, y4, rfl, rfl, ⟨w0.1, w0.2, w4.1, w4.2, w5.1, w5.2, w3⟩, h4, fun p hp => by rw [ex]; exact List.mem_flatMap.2 ⟨y4, List.mem_of_getElem? g4, hp⟩⟩

theorem row_of_cells {a : Addr} {x : Nd} {sl : Value} (h : W.cells? base a 6 = some [.int .u8 x.k, .int .i64 x.n, .int .i64 x.d, .bool x.t, .string x.s, sl]) : ∃ b off, a = ⟨b, off, none⟩ ∧ Row6 W b off x sl := by
  obtain ⟨_, _, hc⟩ := World.cells?_some h
  obtain ⟨b, off, path⟩ := a
  have c0 := hc 0 (by omega)
  have hp : path = none := by simpa [Addr.add] using World.cell?_spot c0
  subst hp
  refine ⟨b, off, rfl, ?_⟩
  have c1 := hc 1 (by omega)
  have c2 := hc 2 (by omega)
  have c3 := hc 3 (by omega)
  have c4 := hc 4 (by omega)
  have c5 := hc 5 (by omega)
  simp [Addr.add] at c0 c1 c2 c3 c4 c5
  exact ⟨c0, c1, c2, c3, c4, c5⟩
theorem add_plain' (b off i : Nat) : (⟨b, off, none⟩ : Addr).add i = ⟨b, off + i, none⟩ := by
  unfold Addr.add; by_cases h : i = 0 <;> simp [h]
theorem open_val (fuel : Nat) : ∀ (cs : List Value) (x : DataW H × List MemPlace), DataW.trod enc Tryz.prog W base spare held fuel 28 cs = some x → W.noneFrozen x.2 →
    ∃ (v : V) (sl : Value), cs = [.int .u8 v.nd.k, .int .i64 v.nd.n, .int .i64 v.nd.d, .bool v.nd.t, .string v.nd.s, sl] ∧ RepL (· < W.heap.size) W v.list sl ∧ Wf maxLen v := by
  induction fuel using Nat.strongRecOn with
  | ind fuel ih =>
    intro cs x h hz
    obtain ⟨a, sl, n, y, rfl, rfl, ha, hs, hyx⟩ := open_row h
    rcases DataW.trod_slice Tryz.underlying26 hs with ⟨e, -⟩ | ⟨ad, len, cap, elems, rest, m, rfl, e, ey, -, hlc, hcm, hel, hx, -⟩
    · injection e with e _
      subst e
      exact ⟨.mk a [], .slice none 0 0, rfl, RepL.nil _ _ _ _, .mk _ _ ha (Nat.zero_le _) (by simp)⟩
    · injection e with e _
      subst e
      have one : ∀ i, i < len → ∃ p : V × Value, (∃ b off, ad.add (i * 6) = ⟨b, off, none⟩ ∧ Row6 W b off p.1.nd p.2) ∧ RepL (· < W.heap.size) W p.1.list p.2 ∧ Wf maxLen p.1 := by
        intro i hi
        have h1 := hx i hi
        rw [cellsV, List.getElem?_eq_getElem (by omega)] at h1
        obtain ⟨cs', h2, h3⟩ := Option.bind_eq_some_iff.1 h1
        obtain ⟨v, sl, rfl, h4, h5⟩ := ih m (by omega) cs' _ h3 fun b off hp => hz b off (hyx _ (by
          rw [ey]
          exact List.mem_append_right _ (List.mem_flatMap.2 ⟨_, List.mem_append_left _ (List.getElem_mem (by omega)), hp⟩)))
        obtain ⟨b, off, e, hr⟩ := row_of_cells h2
        exact ⟨(v, sl), ⟨b, off, e, hr⟩, h4, h5⟩
      have : Inhabited (V × Value) := ⟨(.mk a [], .slice none 0 0)⟩
      obtain ⟨f, hf⟩ := choose_lt one
      refine ⟨.mk a ((List.range len).map fun i => (f i).1), .slice (some ad) len cap, rfl, ?_, ?_⟩
      · have key : RepL (· < W.heap.size) W ((List.range len).map fun i => (f i).1) (.slice (some ad) ((List.range len).map fun i => (f i).1).length cap) := by
          refine .mk (some ad) cap _ (fun i => (f i).2) (fun hne => ?_) (fun i hi => ?_)
          · have hlen : 0 < len := by
              rcases Nat.eq_zero_or_pos len with h | h
              · subst h; simp at hne
              · exact h
            obtain ⟨⟨b, off, e0, hr0⟩, -, -⟩ := hf 0 hlen
            have ea : ad = ⟨b, off, none⟩ := by simpa [Addr.add] using e0
            subst ea
            refine ⟨b, off, rfl, hr0.lt, hz b off (hyx _ ?_), fun i hi => ?_⟩
            · rw [ey]
              refine List.mem_append_left _ (List.mem_map.2 ⟨0, List.mem_range.2 ?_, by simp⟩)
              rw [cellsV]; omega
            have hi' : i < len := by simpa using hi
            obtain ⟨⟨b', off', e, hr⟩, -, -⟩ := hf i hi'
            rw [add_plain'] at e
            injection e with e1 e2 _
            subst e1 e2
            simpa using hr
          · have hi' : i < len := by simpa using hi
            simpa using (hf i hi').2.1
        simpa using key
      · refine .mk _ _ ha (by simp; omega) (fun v hv => ?_)
        rw [List.mem_map] at hv
        obtain ⟨i, hi, rfl⟩ := hv
        exact (hf i (by simpa using hi)).2.2
/-- .. as an argument. -/
theorem valOpens {base' : Nat} {v : Value} {d : DataW H} {p : List MemPlace} (hv : Value.okWide Tryz.prog W .any base' 28 v) (h : DataW.Trod enc Tryz.prog W base spare held 28 v d p) (hz : W.noneFrozen p) :
    ∃ (x : V) (sl : Value), v = .agg #[.int .u8 x.nd.k, .int .i64 x.nd.n, .int .i64 x.nd.d, .bool x.nd.t, .string x.nd.s, sl] ∧ RepL (· < W.heap.size) W x.list sl ∧ Wf maxLen x := by
  obtain ⟨fs, hu, _⟩ := fieldsV
  obtain ⟨cs, rfl, hsz⟩ := okWide_struct hu hv
  obtain ⟨fuel, hf⟩ := h
  obtain ⟨x, sl, e, h1, h2⟩ := open_val fuel _ _ hf hz
  refine ⟨x, sl, ?_, h1, h2⟩
  have e2 : cs.toList = [.int .u8 x.nd.k, .int .i64 x.nd.n, .int .i64 x.nd.d, .bool x.nd.t, .string x.nd.s, sl] := by simpa [Value.cells] using e
  have : cs = #[.int .u8 x.nd.k, .int .i64 x.nd.n, .int .i64 x.nd.d, .bool x.nd.t, .string x.nd.s, sl] := by
    apply Array.ext'; exact e2
  rw [this]
end
theorem readableV : Tryz.prog.readableRec 28 = true := by kernel_rfl
theorem smallV : 28 < Tryz.prog.types.size := of_decide_eq_true (by kernel_rfl)
end Go.Proofs.YtakjgjhjndiggaaGreatDoor
