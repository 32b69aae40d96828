/-
  A word that came in: opened.
-/
import Derived.Test.YtkjjehnfibfngaaWordMem
import Derived.ProofKit
import Derived.OpenShut
import Derived.ChangeSlices
import Derived.Deep.SlicePairs
import Derived.Lib.SmallJoins
namespace Go.Proofs.Ytkjjehnfibfngaa
open Go.ChangeShapes Go.WideShapes Go.ChangeAt Go.RowKit Go.Joins Go.Deep
open WM
set_option linter.unusedVariables false
set_option linter.unusedSimpArgs false
set_option maxRecDepth 100000

theorem wo_cellsM : Try.prog.cellsOf 27 = 2 := by kernel_rfl
theorem wo_cellsU : Try.prog.cellsOf 5 = 1 := by kernel_rfl
theorem wo_cellsI : Try.prog.cellsOf 3 = 1 := by kernel_rfl
theorem wo_cellsL : Try.prog.cellsOf 23 = 1 := by kernel_rfl
theorem wo_fields {fs : Array Field} {l : List (Nat × TypeId)} (h : fs.map (fun f : Field => (f.offset, f.type)) = l.toArray) : ∀ (i o : Nat) (t : TypeId), l[i]? = some (o, t) → ∃ f : Field, fs[i]? = some f ∧ f.offset = o ∧ f.type = t := by
  intro i o t hi
  have : (fs.map (fun f : Field => (f.offset, f.type)))[i]? = some (o, t) := by rw [h]; simpa using hi
  rw [Array.getElem?_map, Option.map_eq_some_iff] at this
  obtain ⟨f, h1, h2⟩ := this
  injection h2 with h2 h3
  exact ⟨f, h1, h2, h3⟩
theorem wo_struct : ∃ fs : Array Field, Try.prog.underlying 27 = some (.struct fs) ∧ fs.map (fun f : Field => (f.offset, f.type)) = [(0, 5), (1, 23)].toArray := ⟨_, Try.underlying27, by simp⟩
theorem wo_add (b off i : Nat) : (⟨b, off, none⟩ : Addr).add i = ⟨b, off + i, none⟩ := by
  unfold Addr.add; by_cases h : i = 0 <;> simp [h]
section
variable {H : Type} {enc : TypeId × Value → H} {W : World} {base : Nat} {spare : Nat → Bool} {held : Bool}
theorem wo_ints {fuel : Nat} {cs : List Value} {x : DataW H × List MemPlace} (h : DataW.trod enc Try.prog W base spare held fuel 23 cs = some x) :
    ∃ (v : Value) (l : List Int), cs = [v] ∧ l.length ≤ 9223372036854775807 ∧ Ints W v l ∧ NilOr v := by
  rcases open_ints Try.underlying23 Try.underlying3 wo_cellsI h with ⟨hcs, hx⟩ | ⟨a, len, cap, zs, hcs, _, hl, hm, hz, hx, hc, hw⟩
  · exact ⟨_, [], hcs, by simp, .none _ _, .inl rfl⟩
  · refine ⟨_, zs.take len, hcs, ?_, ?_, .inr ⟨_, _, _, rfl⟩⟩
    · unfold maxLen at hm
      rw [List.length_take]; omega
    · have hzl : len ≤ zs.length := by rw [hz]; split <;> omega
      have hll : (zs.take len).length = len := by rw [List.length_take]; omega
      rcases Nat.eq_zero_or_pos len with h0 | hpos
      · subst h0; rw [List.take_zero]; exact .none _ _
      · have hfirst := hc 0 (by omega)
        obtain ⟨b, off, path⟩ := a
        have hp : path = none := by simpa [Addr.add] using World.cell?_spot hfirst
        subst hp
        have hlt : b < W.heap.size := by
          rcases Nat.lt_or_ge b W.heap.size with h | h
          · exact h
          · simp [World.cell?, Addr.add, Array.getElem?_eq_none h] at hfirst
        have := Ints.some (w := W) b off cap (zs.take len) (by omega) hlt (by
          intro i hi
          have e := hc i (by omega)
          rw [wo_add] at e
          rw [e]
          have : i < zs.length := by omega
          simp [List.getD, this])
        rwa [hll] at this
theorem wo_mod {fuel : Nat} {cs : List Value} {x : DataW H × List MemPlace} (h : DataW.trod enc Try.prog W base spare held fuel 27 cs = some x) :
    ∃ (m : Md) (v : Value), cs = [.int .u8 m.c.toNat, v] ∧ m.a.length ≤ 9223372036854775807 ∧ Ints W v m.a ∧ NilOr v := by
  obtain ⟨fs, hu, hf⟩ := wo_struct
  obtain ⟨xs, n, rfl, ex, hl, hxl, hx⟩ := DataW.trod_struct hu h
  have F := wo_fields hf
  rw [wo_cellsM] at hl
  obtain ⟨c0, c1, rfl⟩ : ∃ a b, cs = [a, b] := by
    match cs, hl with
    | [a, b], _ => exact ⟨a, b, rfl⟩
  have hsz : fs.size = 2 := by have := congrArg Array.size hf; simpa using this
  have get : ∀ i, i < 2 → ∃ y, xs[i]? = some y := fun i hi => ⟨xs[i]'(by omega), List.getElem?_eq_getElem (by omega)⟩
  have step : ∀ (i o : Nat) (t : TypeId) (y : DataW H × List MemPlace), ([(0, 5), (1, 23)] : List (Nat × TypeId))[i]? = some (o, t) → xs[i]? = some y → DataW.trod enc Try.prog W base spare held n t (([c0, c1].drop o).take (Try.prog.cellsOf t)) = some y := by
    intro i o t y h1 h2
    obtain ⟨f, h3, rfl, rfl⟩ := F i o t h1
    rw [hx i f h3, h2]
  obtain ⟨y0, g0⟩ := get 0 (by omega)
  obtain ⟨y1, g1⟩ := get 1 (by omega)
  have h0 := step 0 _ _ _ rfl g0
  have h1 := step 1 _ _ _ rfl g1
  rw [wo_cellsU] at h0
  rw [wo_cellsL] at h1
  obtain ⟨k, e0, -, w0⟩ := DataW.trod_int Try.underlying5 h0
  simp only [List.drop_zero, List.drop_succ_cons, List.take_succ_cons, List.take_zero, List.cons.injEq, and_true] at e0
  simp only [List.drop_zero, List.drop_succ_cons, List.take_succ_cons, List.take_zero] at h1
  obtain ⟨v, l, e1, h2, h3, h4⟩ := wo_ints h1
  simp only [List.cons.injEq, and_true] at e1
  subst e0 e1
  have u1 : IntKind.u8.min = 0 := by decide
  have u2 : IntKind.u8.max = 255 := by decide
  simp [Lit.wf, u1, u2] at w0
  refine ⟨⟨UInt8.ofNat k.toNat, l⟩, c1, ?_, h2, h3, h4⟩
  have : ((UInt8.ofNat k.toNat).toNat : Int) = k := by rw [UInt8.toNat_ofNat']; omega
  rw [this]
theorem wo_mods {fuel : Nat} {cs : List Value} {x : DataW H × List MemPlace} (h : DataW.trod enc Try.prog W base spare held fuel 39 cs = some x) :
    ∃ (v : Value) (l : List Md), cs = [v] ∧ l.length ≤ 9223372036854775807 ∧ (∀ m ∈ l, m.a.length ≤ 9223372036854775807) ∧ Mods W v l ∧ NilOr v := by
  rcases DataW.trod_slice Try.underlying39 h with ⟨hcs, -⟩ | ⟨ad, len, cap, elems, rest, n, _, hcs, _, _, hlc, hcm, hel, hx, -⟩
  · exact ⟨_, [], hcs, by simp, by simp, .none _ _, .inl rfl⟩
  · have one : ∀ i, i < len → ∃ p : Md × Value, (∃ b off, ad.add (i * 2) = ⟨b, off, none⟩ ∧ b < W.heap.size ∧ W.cell? ⟨b, off, none⟩ = some (.int .u8 p.1.c.toNat) ∧ W.cell? ⟨b, off + 1, none⟩ = some p.2) ∧ p.1.a.length ≤ 9223372036854775807 ∧ Ints W p.2 p.1.a ∧ NilOr p.2 := by
      intro i hi
      have h1 := hx i hi
      rw [wo_cellsM, List.getElem?_eq_getElem (by omega)] at h1
      obtain ⟨cs', h2, h3⟩ := Option.bind_eq_some_iff.1 h1
      obtain ⟨m, v, rfl, h4, h5, h6⟩ := wo_mod h3
      obtain ⟨_, _, hc⟩ := World.cells?_some h2
      obtain ⟨b, off, path, he⟩ : ∃ b off path, ad.add (i * 2) = ⟨b, off, path⟩ := ⟨_, _, _, rfl⟩
      rw [he] at hc
      have c0 := hc 0 (by omega)
      have hp : path = none := by simpa [Addr.add] using World.cell?_spot c0
      subst hp
      have c1 := hc 1 (by omega)
      have hlt : b < W.heap.size := by
        rcases Nat.lt_or_ge b W.heap.size with h | h
        · exact h
        · simp [World.cell?, Addr.add, Array.getElem?_eq_none h] at c0
      simp [Addr.add] at c0 c1
      exact ⟨(m, v), ⟨b, off, he, hlt, c0, c1⟩, h4, h5, h6⟩
    have : Inhabited (Md × Value) := ⟨(⟨0, []⟩, .slice none 0 0)⟩
    obtain ⟨f, hf⟩ := choose_lt one
    refine ⟨_, (List.range len).map fun i => (f i).1, hcs, ?_, ?_, ?_, .inr ⟨_, _, _, rfl⟩⟩
    · unfold maxLen at hcm
      simp; omega
    · intro m hm
      rw [List.mem_map] at hm
      obtain ⟨i, hi, rfl⟩ := hm
      exact (hf i (by simpa using hi)).2.1
    · rcases Nat.eq_zero_or_pos len with h0 | hpos
      · subst h0; exact .none _ _
      · obtain ⟨⟨b, off, e0, hlt, _⟩, _⟩ := hf 0 hpos
        have ea : ad = ⟨b, off, none⟩ := by simpa [Addr.add] using e0
        subst ea
        have hll : ((List.range len).map fun i => (f i).1).length = len := by simp
        have := Mods.some (w := W) b off cap ((List.range len).map fun i => (f i).1) (by omega) hlt (by
          intro i hi
          rw [hll] at hi
          obtain ⟨⟨b', off', e, _, hc0, hc1⟩, _, g1, g2⟩ := hf i hi
          rw [wo_add] at e
          injection e with e1 e2 _
          subst e1 e2
          simp only [List.getElem_map, List.getElem_range]
          exact ⟨hc0, _, hc1, g1, g2⟩)
        rwa [hll] at this
/-- .. as an argument. -/
theorem modsOpen {v : Value} {d : DataW H} {p : List MemPlace} {a0 : Option Addr} {len cap : Nat} (hv : v = .slice a0 len cap) (h : DataW.Trod enc Try.prog W base spare held 39 v d p) :
    ∃ l : List Md, l.length ≤ 9223372036854775807 ∧ (∀ m ∈ l, m.a.length ≤ 9223372036854775807) ∧ Mods W v l ∧ NilOr v := by
  obtain ⟨fuel, hf⟩ := h
  subst hv
  obtain ⟨v', l, e, h1, h2, h3, h4⟩ := wo_mods (by simpa [Value.cells] using hf)
  simp at e
  subst e
  exact ⟨l, h1, h2, h3, h4⟩
end
theorem readableM : Try.prog.readableRec 39 = true := by kernel_rfl
theorem smallM : 39 < Try.prog.types.size := of_decide_eq_true (by kernel_rfl)
end Go.Proofs.Ytkjjehnfibfngaa
