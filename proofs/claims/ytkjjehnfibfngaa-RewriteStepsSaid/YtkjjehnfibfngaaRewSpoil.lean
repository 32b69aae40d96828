/-
  What the law's spoil leaves as it was.
-/
import Derived.Test.YtkjjehnfibfngaaWordFr
namespace Go.Proofs.Ytkjjehnfibfngaa
open Go.RowKit
open WM
set_option linter.unusedVariables false
set_option linter.unusedSimpArgs false

/-- A memory of the same shape, which reads as before where the args of the row g stand. -/
structure Shp (base top g n : Nat) (w wr : World) : Prop where
  below : Below base w wr
  blk : ∀ (b : Nat) (cs : Array Value) (t : TypeId), w.heap[b]? = some (.cells cs t (0, 0)) → ∃ cs', wr.heap[b]? = some (.cells cs' t (0, 0)) ∧ cs'.size = cs.size
  args : ∀ i, i < n → wr.cell? ⟨g, i * 2 + 1, none⟩ = w.cell? ⟨g, i * 2 + 1, none⟩
  far : ∀ k, top ≤ k → wr.heap[k]? = w.heap[k]?
theorem Shp.refl (base top g n : Nat) (w : World) : Shp base top g n w w := ⟨Below.refl _ _, fun b cs t h => ⟨cs, h, rfl⟩, fun i _ => rfl, fun _ _ => rfl⟩
theorem cell_setCell_ne {w : World} {b j b' j' : Nat} {x : Value} (h : b ≠ b' ∨ j ≠ j') : (w.setCell ⟨b', j', none⟩ x).cell? ⟨b, j, none⟩ = w.cell? ⟨b, j, none⟩ := by
  by_cases e : b = b'
  · subst e
    have hj : j ≠ j' := by rcases h with h | h; exact absurd rfl h; exact h
    simp only [World.cell?, World.setCell, Array.getElem?_modify, if_true]
    cases hb : w.heap[b]? with
    | none => rfl
    | some o =>
      cases o <;> simp [Array.getElem?_setIfInBounds, Ne.symm hj]
  · exact World.cell?_of_block (a := ⟨b, j, none⟩) (Below.heap_setCell _ _ _ _ (by simpa using e))
theorem Shp.set {base top g n : Nat} {w wr : World} (h : Shp base top g n w wr) {b j : Nat} (hb : base ≤ b) (ht : b < top) (hne : b ≠ g ∨ ∃ i, j = i * 2) (x : Value) : Shp base top g n w (wr.setCell ⟨b, j, none⟩ x) := by
  refine ⟨h.below.setCell hb _, fun b' cs t e => ?_, fun i hi => ?_, fun k hk => (Below.heap_setCell _ _ _ _ (by simp; omega)).trans (h.far k hk)⟩
  · obtain ⟨cs', h1, h2⟩ := h.blk b' cs t e
    by_cases e2 : b' = b
    · subst e2
      refine ⟨cs'.setIfInBounds j x, ?_, by simpa using h2⟩
      simp only [World.setCell, Array.getElem?_modify, if_true, h1]; rfl
    · exact ⟨cs', (Below.heap_setCell _ _ _ _ (by simpa using e2)).trans h1, h2⟩
  · rw [cell_setCell_ne ?_]
    · exact h.args i hi
    · rcases hne with h | ⟨i', rfl⟩
      · exact .inl (Ne.symm h)
      · right; omega
theorem Shp.at {base top g n : Nat} {w wr : World} (h : Shp base top g n w wr) {b j : Nat} {cs : Array Value} {t : TypeId} (hb : w.heap[b]? = some (.cells cs t (0, 0))) (hj : j < cs.size) : (∃ z, wr.cell? ⟨b, j, none⟩ = some z) ∧ wr.frozen? ⟨b, j, none⟩ = false ∧ b < wr.heap.size := by
  obtain ⟨cs', h1, h2⟩ := h.blk b cs t hb
  refine ⟨⟨cs'[j]'(by omega), ?_⟩, by simp [World.frozen?, h1], lt_of_block h1⟩
  simp only [World.cell?, h1]
  exact Array.getElem?_eq_getElem _
/-- The word's own memory lies below a place. -/
def ModIn (top : Nat) (v : Value) (vs : List Value) : Prop := (∀ g, v.ownBlock = some g → g < top) ∧ ∀ u ∈ vs, ∀ g, u.ownBlock = some g → g < top
theorem ModFr.isIn {w : World} {base : Nat} {v : Value} {l : List Md} {vs : List Value} (h : ModFr w base v l vs) : ModIn w.heap.size v vs := by
  refine ⟨fun g hg => (owns_lt h.row g hg).2, fun u hu g hg => ?_⟩
  obtain ⟨k, hk, rfl⟩ := List.mem_iff_getElem.1 hu
  exact (owns_lt (h.args k (by rw [← h.len]; exact hk) hk).own g hg).2
theorem owns_far {w w' : World} {base n size : Nat} {e : TypeId} {v : Value} {xs : List Value} (h : w.ownsRow base e size v n xs) (hf : ∀ k, base ≤ k → w'.heap[k]? = w.heap[k]?) : w'.ownsRow base e size v n xs := by
  refine ⟨h.1, ?_⟩
  rcases h.2 with h1 | ⟨g, cap, cur, h1, h2, h3, h4⟩
  · exact .inl h1
  · exact .inr ⟨g, cap, cur, h1, h2, (hf g h2).trans h3, h4⟩
theorem ModFr.far {w w' : World} {base : Nat} {v : Value} {l : List Md} {vs : List Value} (h : ModFr w base v l vs) (hf : ∀ k, base ≤ k → w'.heap[k]? = w.heap[k]?) : ModFr w' base v l vs :=
  ⟨h.len, owns_far h.row hf, fun k hk hk2 => ⟨owns_far (h.args k hk hk2).own hf, (h.args k hk hk2).apart⟩⟩
set_option maxRecDepth 100000 in
set_option maxHeartbeats 1600000 in
theorem spoil_any (base top : Nat) (v : Value) (l : List Md) (vs : List Value) (hmax : l.length ≤ 1000000) (hargs : ∀ m ∈ l, m.a.length ≤ 1000000) (w : World) (h : ModFr w base v l vs) (hin : ModIn top v vs) :
    Calls Try.prog 19 #[v] w fun e w' => e = .returned (.tuple #[]) ∧ Below base w w' ∧ ∀ k, top ≤ k → w'.heap[k]? = w.heap[k]? := by
  have HM := Lib.hid h
  have HA := Lib.hid hargs
  clear hargs
  rcases h.row.2 with ⟨hv, h0⟩ | ⟨g, cap, cur, hv, hb, hg, hc1, hc2, hsz, htake⟩
  · subst hv
    clear h h0
    go_enter Try.func19, Try.ntmps19
    go_wp2_with fail
    go_loopw [2] (fun i wr => i = .int .i64 0 ∧ wr = w) (fun _ _ => 0)
    case atStart => exact ⟨rfl, rfl⟩
    case round =>
      obtain ⟨rfl, rfl⟩ := hrel
      go_wp2_with fail
      refine bodyPost_end (results_none rfl _ _ _) rfl ?_
      exact ⟨rfl, Below.refl _ _, fun _ _ => rfl⟩
  · subst hv
    have HG := Lib.hid hg
    have HSz : Hid (l.length * 2 ≤ cur.size) := Lib.hid (by rw [hsz]; omega)
    have hgt : g < top := hin.1 g rfl
    have HI := Lib.hid hin.2
    clear htake hsz hg h hin
    go_enter Try.func19, Try.ntmps19
    go_wp2_with fail
    go_loopw [2] (fun i wr => ∃ k : Nat, i = .int .i64 k ∧ k ≤ l.length ∧ Shp base top g l.length w wr) (fun i _ => l.length - (intOf i).toNat)
    case atStart => exact ⟨0, rfl, Nat.zero_le _, Shp.refl _ _ _ _ _⟩
    case round =>
      obtain ⟨k, rfl, hk, hS⟩ := hrel
      have HS := Lib.hid hS
      clear hS
      by_cases hlt : k < l.length
      · have k1 : (k : Int) < (l.length : Int) := by omega
        have hvl : k < vs.length := by rw [HM.out.len]; exact hlt
        have A := HM.out.args k hlt hvl
        have ha := HA.out l[k] (List.getElem_mem hlt)
        have hq : w.cell? ⟨g, k * 2 + 1, none⟩ = some vs[k] := by
          rw [HM.out.row.cellAt (k * 2 + 1) (by omega), (modC_get l vs k hlt hvl).2]
        have HQ : Hid (∀ wr, Shp base top g l.length w wr → wr.cell? ⟨g, k * 2 + 1, none⟩ = some vs[k]) := Lib.hid (fun wr h => (h.args k hlt).trans hq)
        obtain ⟨p, m, c, hsv, hpm⟩ : ∃ p m c, vs[k] = .slice p m c ∧ m ≤ 1000000 ∧ (m = 0 ∨ ∃ hb ds, p = some ⟨hb, 0, none⟩ ∧ base ≤ hb ∧ hb < top ∧ hb ≠ g ∧ w.heap[hb]? = some (.cells ds 3 (0, 0)) ∧ m ≤ ds.size) := by
          rcases A.own.2 with ⟨e, _⟩ | ⟨hb', cap', ds, e, h2, h3, h4, h5, h6, _⟩
          · exact ⟨_, _, _, e, by omega, .inl rfl⟩
          · refine ⟨_, _, _, e, ha, .inr ⟨hb', ds, rfl, h2, HI.out _ (List.getElem_mem hvl) hb' (by rw [e]; rfl), ?_, h3, by omega⟩⟩
            rcases A.apart with e2 | e2
            · rw [e] at e2; simp at e2
            · intro e3; subst e3; rw [e] at e2; simp [Value.ownBlock] at e2
        rw [hsv] at HQ
        have e1 := HQ.out wr HS.out
        obtain ⟨⟨z0, _⟩, _, lg⟩ := HS.out.at HG.out (j := k * 2) (by have := HSz.out; omega)
        obtain ⟨hm1, hpm⟩ := hpm
        have HP := Lib.hid hpm
        clear A ha hq hsv hpm
        go_wp2_with fail
        go_loopw [3] (fun i wr => ∃ j : Nat, i = .int .i64 j ∧ j ≤ m ∧ Shp base top g l.length w wr) (fun i _ => m - (intOf i).toNat)
        case atStart => exact ⟨0, rfl, Nat.zero_le _, HS.out⟩
        case round =>
          obtain ⟨j, rfl, hj, hS2⟩ := hrel
          have HS2 := Lib.hid hS2
          have e2 := HQ.out wr hS2
          obtain ⟨⟨z1, qz⟩, fz, lg2⟩ := hS2.at HG.out (j := k * 2) (by have := HSz.out; omega)
          clear hS2
          by_cases hjm : j < m
          · have j1 : (j : Int) < (m : Int) := by omega
            obtain ⟨hb2, ds, rfl, g1, g5, g2, g3, g4⟩ : ∃ hb ds, p = some ⟨hb, 0, none⟩ ∧ base ≤ hb ∧ hb < top ∧ hb ≠ g ∧ w.heap[hb]? = some (.cells ds 3 (0, 0)) ∧ m ≤ ds.size := by
              rcases HP.out with h | h
              · omega
              · exact h
            obtain ⟨⟨z2, q2⟩, f2, l2⟩ := HS2.out.at g3 (j := j) (by omega)
            have HT := Lib.hid (HS2.out.set (b := hb2) (j := j) g1 g5 (.inl g2) (.int .i64 77))
            clear g3 g4 g2
            go_wp2_with fail
            go_roundw
            case rel => exact ⟨j + 1, by go_num, by omega, HT.out⟩
            case measure => simp [intOf]; omega
          · have j1 : ¬ (j : Int) < (m : Int) := by omega
            have HT := Lib.hid (HS2.out.set (b := g) (j := k * 2) hb hgt (.inr ⟨k, rfl⟩) (.int .u8 63))
            go_wp2_with fail
            go_roundw
            case rel => exact ⟨k + 1, by go_num, by omega, HT.out⟩
            case measure => simp [intOf]; omega
      · have k1 : ¬ (k : Int) < (l.length : Int) := by omega
        go_wp2_with fail
        refine bodyPost_end (results_none rfl _ _ _) rfl ?_
        exact ⟨rfl, HS.out.below, HS.out.far⟩
end Go.Proofs.Ytkjjehnfibfngaa
