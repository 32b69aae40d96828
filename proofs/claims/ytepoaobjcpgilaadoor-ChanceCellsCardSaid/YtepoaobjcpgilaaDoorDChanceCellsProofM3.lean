/-
  Texts of the proof, merged: DWordFr, DChMem, DWordRefC, DChRefA, DWordTwinB.
-/
import Derived.Test.YtepoaobjcpgilaaDoorDChanceCellsProofM2
import Derived.OneCell
import Derived.Test.YtepoaobjcpgilaaDoorDChanceCellsProofM1
import Derived.Lib.QuietBelow
namespace Go.Proofs.YtepoaobjcpgilaaDoor
open Go.RowKit
open WM
set_option linter.unusedVariables false
set_option linter.unusedSimpArgs false

/-- Args in memory of the call's own, or nil. -/
structure ArgFr (w : World) (base : Nat) (rb : Option Nat) (v : Value) (a : List Int) : Prop where
  own : w.ownsRow base 3 1 v a.length (valsL a)
  apart : v = .slice none 0 0 ∨ v.ownBlock ≠ rb
/-- A word in memory of the call's own, its args as well. -/
structure ModFr (w : World) (base : Nat) (v : Value) (l : List Md) (vs : List Value) : Prop where
  len : vs.length = l.length
  row : w.ownsRow base 25 2 v l.length (modC l vs)
  args : ∀ k, (h : k < l.length) → (h2 : k < vs.length) → ArgFr w base v.ownBlock vs[k] l[k].a
theorem nilOr_of_owned {w : World} {base n size : Nat} {e : TypeId} {v : Value} {xs : List Value} (h : w.ownsRow base e size v n xs) : NilOr v := by
  rcases h.2 with ⟨h1, _⟩ | ⟨g, cap, cur, h1, _⟩
  · exact .inl h1
  · exact .inr ⟨_, _, _, h1⟩
theorem mods_of_rows {w : World} {base : Nat} {v : Value} {l : List Md} {vs : List Value} (hl : vs.length = l.length) (hr : w.ownsRow base 25 2 v l.length (modC l vs)) (ha : ∀ j, (h : j < l.length) → (h2 : j < vs.length) → Ints w vs[j] l[j].a ∧ NilOr vs[j]) : Mods w v l := by
  rcases Nat.eq_zero_or_pos l.length with h0 | h0
  · have e : l = [] := List.length_eq_zero_iff.1 h0
    subst e
    rcases hr.2 with ⟨hv, _⟩ | ⟨g, cap, cur, hv, _⟩
    · rw [hv]; exact .none _ _
    · rw [hv]; exact .none _ _
  · rcases hr.2 with ⟨_, h1⟩ | ⟨g, cap, cur, hv, hb, hg, hc1, hc2, hsz, htake⟩
    · omega
    · rw [hv]
      have hcell : ∀ j, j < l.length * 2 → w.cell? ⟨g, j, none⟩ = (modC l vs)[j]? := by
        intro j hj
        rw [← htake, List.getElem?_take_of_lt hj, Array.getElem?_toList]
        simp [World.cell?, hg]
      refine .some g 0 cap l h0 (lt_of_block hg) fun i hi => ?_
      have hv2 : i < vs.length := by rw [hl]; exact hi
      obtain ⟨g1, g2⟩ := modC_get l vs i hi hv2
      exact ⟨by rw [Nat.zero_add, hcell _ (by omega), g1], vs[i], by rw [Nat.zero_add, hcell _ (by omega), g2], (ha i hi hv2).1, (ha i hi hv2).2⟩
theorem ModFr.mods {w : World} {base : Nat} {v : Value} {l : List Md} {vs : List Value} (h : ModFr w base v l vs) : Mods w v l :=
  mods_of_rows h.len h.row fun j hj hj2 => ⟨ints_of_owned (h.args j hj hj2).own, nilOr_of_owned (h.args j hj hj2).own⟩
theorem ModFr.nilOr {w : World} {base : Nat} {v : Value} {l : List Md} {vs : List Value} (h : ModFr w base v l vs) : NilOr v := nilOr_of_owned h.row
theorem ModFr.mono {w : World} {b b' : Nat} {v : Value} {l : List Md} {vs : List Value} (h : ModFr w b v l vs) (hb : b' ≤ b) : ModFr w b' v l vs :=
  ⟨h.len, owns_mono h.row hb, fun k hk hk2 => ⟨owns_mono (h.args k hk hk2).own hb, (h.args k hk hk2).apart⟩⟩
theorem ArgFr.kept {w w' : World} {base : Nat} {rb rb' row : Option Nat} {v : Value} {a : List Int} (h : ArgFr w base rb v a) (hg : w.grownBy w' row) (hne : v.ownBlock = none ∨ v.ownBlock ≠ row) (hr : v = .slice none 0 0 ∨ v.ownBlock ≠ rb') : ArgFr w' base rb' v a :=
  ⟨h.own.kept hg hne, hr⟩
theorem ModFr.later {w w' : World} {base : Nat} {v : Value} {l : List Md} {vs : List Value} (h : ModFr w base v l vs) (hb : Below w.heap.size w w') : ModFr w' base v l vs :=
  ⟨h.len, h.row.kept (grown_of_below hb none) (by cases hv : v.ownBlock with | none => exact .inl rfl | some g => exact .inr (by simp)), fun k hk hk2 => (h.args k hk hk2).kept (grown_of_below hb none) (by cases hv : vs[k].ownBlock with | none => exact .inl rfl | some g => exact .inr (by simp)) (h.args k hk hk2).apart⟩
theorem modC_set : ∀ (l : List Md) (vs : List Value) (k : Nat) (u : Value), l.length = vs.length → (modC l vs).set (k * 2 + 1) u = modC l (vs.set k u)
  | [], [], k, u, _ => by simp [modC]
  | m :: l, v :: vs, 0, u, _ => rfl
  | m :: l, v :: vs, k + 1, u, h => by
    have := modC_set l vs k u (by simpa using h)
    have e : (k + 1) * 2 + 1 = k * 2 + 1 + 1 + 1 := by omega
    rw [e]; simp only [modC, List.set_cons_succ, this]
  | [], _ :: _, _, _, h => by simp at h
  | _ :: _, [], _, _, h => by simp at h
theorem j_app : ∀ (a b : List Md) (vs us : List Value), a.length = vs.length → modC (a ++ b) (vs ++ us) = modC a vs ++ modC b us
  | [], b, [], us, _ => rfl
  | m :: a, b, v :: vs, us, h => by
    have := j_app a b vs us (by simpa using h)
    simp [modC, this]
  | [], _, _ :: _, _, h => by simp at h
  | _ :: _, _, [], _, h => by simp at h
theorem j_mem : ∀ (l : List Md) (vs : List Value), ∀ u ∈ modC l vs, (∃ x, u = .int .u8 x) ∨ u ∈ vs
  | [], _, u, h => by simp [modC] at h
  | _ :: _, [], u, h => by simp [modC] at h
  | m :: l, v :: vs, u, h => by
    simp only [modC, List.mem_cons] at h
    rcases h with h | h | h
    · exact .inl ⟨_, h⟩
    · exact .inr (by rw [h]; simp)
    · rcases j_mem l vs u h with h | h
      · exact .inl h
      · exact .inr (List.mem_cons_of_mem _ h)
theorem j_one {w : World} {base : Nat} {v : Value} {l : List Md} {vs : List Value} (h : ModFr w base v l vs) : ∀ u ∈ modC l vs, u.oneCell' = true := by
  intro u hu
  rcases j_mem l vs u hu with ⟨x, rfl⟩ | hm
  · rfl
  · obtain ⟨k, hk, rfl⟩ := List.mem_iff_getElem.1 hm
    rcases nilOr_of_owned (h.args k (by rw [← h.len]; exact hk) hk).own with e | ⟨ad, n, c, e⟩
    · rw [e]; rfl
    · rw [e]; rfl
theorem none_or (v : Value) : v.ownBlock = none ∨ v.ownBlock ≠ none := by
  cases hv : v.ownBlock with
  | none => exact .inl rfl
  | some g => exact .inr (by simp)
theorem apart_or {v : Value} {rb : Option Nat} (h : v = .slice none 0 0 ∨ v.ownBlock ≠ rb) : v.ownBlock = none ∨ v.ownBlock ≠ rb := by
  rcases h with e | e
  · left; rw [e]; rfl
  · exact .inr e
theorem argFr_block {w : World} {base : Nat} {rb : Option Nat} {v : Value} {a : List Int} (h : ArgFr w base rb v a) : v = .slice none 0 0 ∨ ∃ q, v.ownBlock = some q ∧ base ≤ q ∧ q < w.heap.size := by
  rcases nilOr_of_owned h.own with e | ⟨ad, n, c, e⟩
  · exact .inl e
  · have := owns_lt h.own ad.block (by rw [e]; rfl)
    exact .inr ⟨ad.block, by rw [e]; rfl, this⟩
theorem modFr_join {X1 X2 X3 : World} {base : Nat} {v1 v2 v3 : Value} {a b : List Md} {vs1 vs2 : List Value}
    (h1 : ModFr X1 base v1 a vs1) (hb : Below X1.heap.size X1 X2) (h2 : ModFr X2 X1.heap.size v2 b vs2) (hbase : base ≤ X1.heap.size)
    (o : X3.ownsRow base 25 2 v3 (a.length + b.length) (modC a vs1 ++ modC b vs2)) (g : X2.grownBy X3 v1.ownBlock) (hv : v3.ownBlock = v1.ownBlock ∨ v3.ownBlock = some X2.heap.size) :
    ModFr X3 base v3 (a ++ b) (vs1 ++ vs2) := by
  have hvl := owns_lt h1.row
  have z := hb.size
  refine ⟨by rw [List.length_append, List.length_append, h1.len, h2.len], by rw [List.length_append, j_app _ _ _ _ h1.len.symm]; exact o, ?_⟩
  intro k hk hk2
  rcases Nat.lt_or_ge k a.length with hl | hl
  · have hl2 : k < vs1.length := by rw [h1.len]; exact hl
    rw [List.getElem_append_left hl, List.getElem_append_left hl2]
    have A := h1.args k hl hl2
    have A2 := A.kept (rb' := v1.ownBlock) (grown_of_below hb none) (none_or _) A.apart
    refine A2.kept g (apart_or A.apart) ?_
    rcases argFr_block A with e | ⟨q, ob, q1, q2⟩
    · exact .inl e
    · right; intro e2
      rcases hv with h | h
      · rcases A.apart with e | e
        · rw [e] at ob; simp [Value.ownBlock] at ob
        · exact e (e2.trans h)
      · rw [ob, h] at e2
        have := Option.some.inj e2; omega
  · have hl2 : vs1.length ≤ k := by rw [h1.len]; exact hl
    have hk3 : k - a.length < b.length := by rw [List.length_append] at hk; omega
    have hk4 : k - vs1.length < vs2.length := by rw [List.length_append] at hk2; omega
    have e1 : (vs1 ++ vs2)[k] = vs2[k - vs1.length] := List.getElem_append_right hl2
    have e2 : (a ++ b)[k] = b[k - a.length] := List.getElem_append_right hl
    have e3 : vs2[k - vs1.length] = vs2[k - a.length]'(by rw [h2.len]; exact hk3) := by congr 1; rw [h1.len]
    rw [e1, e2, e3]
    have A := h2.args (k - a.length) hk3 (by rw [h2.len]; exact hk3)
    have n1 : (vs2[k - a.length]'(by rw [h2.len]; exact hk3)) = .slice none 0 0 ∨ (vs2[k - a.length]'(by rw [h2.len]; exact hk3)).ownBlock ≠ v1.ownBlock := by
      rcases argFr_block A with e | ⟨q, ob, q1, q2⟩
      · exact .inl e
      · right; intro e4
        have := (hvl q (by rw [← e4, ob])).2; omega
    have n3 : (vs2[k - a.length]'(by rw [h2.len]; exact hk3)) = .slice none 0 0 ∨ (vs2[k - a.length]'(by rw [h2.len]; exact hk3)).ownBlock ≠ v3.ownBlock := by
      rcases argFr_block A with e | ⟨q, ob, q1, q2⟩
      · exact .inl e
      · right; intro e4
        rcases hv with h | h
        · have := (hvl q (by rw [← h, ← e4, ob])).2; omega
        · rw [ob, h] at e4
          have := Option.some.inj e4; omega
    have A2 := A.kept (rb' := v3.ownBlock) g (apart_or n1) n3
    exact ⟨owns_mono A2.own hbase, A2.apart⟩
theorem j_cells {w : World} {base : Nat} {ad : Addr} {n c : Nat} {l : List Md} {vs : List Value} (h : ModFr w base (.slice (some ad) n c) l vs) : n = l.length ∧ ∀ j u, (modC l vs)[j]? = some u → w.cell? (ad.add j) = some u := by
  rcases h.row.2 with ⟨hv, _⟩ | ⟨g, cap, cur, hv, hb, hg, hc1, hc2, hsz, htake⟩
  · simp at hv
  · cases hv
    refine ⟨rfl, fun j u hu => ?_⟩
    have hlen := modC_length l vs h.len.symm
    have hj : j < l.length * 2 := by
      have := (List.getElem?_eq_some_iff.1 hu).1; omega
    rw [← htake, List.getElem?_take_of_lt hj, Array.getElem?_toList] at hu
    have e : (⟨g, 0, none⟩ : Addr).add j = ⟨g, j, none⟩ := by
      unfold Addr.add
      rw [Nat.zero_add]
      split
      · rename_i h; rw [h]
      · rfl
    rw [e]
    simp only [World.cell?, hg]
    exact hu
theorem j_append_nil {P : Program} {w : World} {ops : Array Oper} {rest : List Oper} {o : Oper} {a : Act} {Q : Exit → Act → World → Prop} (hg : o.guard = none) (s x : Operand) (t : TypeId) (hop : o.op = Op.call { callee := Callee.builtin Builtin.append, args := #[s, x], argTypes := #[t, t] })
    (base : Nat) (e : TypeId) (i : TypeInfo) (size : Nat) (h1 : P.underlying t = some (.slice e)) (h2 : P.info? e = some i)
    (v : Value) (k : Nat) (xs : List Value) (hs : a.eval s = v) (hown : w.ownsRow base e size v k xs) (hx : a.eval x = .slice none 0 0)
    (hK : wpList P ops Q rest (a.put o.dst v) w) : wpList P ops Q (o :: rest) a w := by
  refine wpList_plain hg fun K hKK => ?_
  have hrun := run_append_owned_none (P := P) (w := w) base t o.type e i size h1 h2 v k xs hown
  unfold Oper.wp
  simp [execOp, hop, resolve, invoke, builtin, hs, hx, hrun, Result.andThen]
  exact hKK _ _ hK
theorem j_slice {w : World} {base : Nat} {v : Value} {l : List Md} {vs : List Value} (h : ModFr w base v l vs) : (v = .slice none 0 0 ∧ l = []) ∨ ∃ ad c, v = .slice (some ad) l.length c := by
  rcases h.row.2 with ⟨hv, h0⟩ | ⟨g, cap, cur, hv, _⟩
  · exact .inl ⟨hv, List.length_eq_zero_iff.1 h0⟩
  · exact .inr ⟨_, _, hv⟩
theorem modFr_nil (w : World) (base : Nat) : ModFr w base (.slice none 0 0) [] [] := ⟨rfl, World.ownsRow_nil _ _ _ _, fun k h => by simp at h⟩
theorem l_own_later {w w1 : World} {base n size : Nat} {e : TypeId} {v : Value} {xs : List Value} (h : w.ownsRow base e size v n xs) (hb : Below w.heap.size w w1) : w1.ownsRow base e size v n xs := by
  refine ⟨h.1, ?_⟩
  rcases h.2 with h1 | ⟨g, cap, cur, h1, h2, h3, h4⟩
  · exact .inl h1
  · exact .inr ⟨g, cap, cur, h1, h2, (hb.block g (lt_of_block h3)).trans h3, h4⟩
theorem modFr_snoc {base : Nat} {wr X3 X4 : World} {l : List Md} {m : Md} {v v' v2 : Value} {vs : List Value} (h : ModFr wr base v l vs) (hbase : base ≤ wr.heap.size) (e : Below wr.heap.size wr X3) (ha : X3.ownsRow wr.heap.size 3 1 v' m.a.length (valsL m.a))
    (o4 : X4.ownsRow base 25 2 v2 (l.length + 1) (modC l vs ++ [.int .u8 m.c.toNat, v'])) (g4 : X3.grownBy X4 v.ownBlock) (b4 : v2.ownBlock = v.ownBlock ∨ v2.ownBlock = some X3.heap.size) : ModFr X4 base v2 (l ++ [m]) (vs ++ [v']) := by
  have hvl := owns_lt h.row
  have z := e.size
  have hal := owns_lt ha
  have n1 : v' = .slice none 0 0 ∨ v'.ownBlock ≠ v.ownBlock := by
    rcases nilOr_of_owned ha with e | ⟨ad, n, c, e⟩
    · exact .inl e
    · right; intro e2
      have e3 : v'.ownBlock = some ad.block := by rw [e]; rfl
      have := (hal _ e3).1
      have := (hvl _ (by rw [← e2, e3])).2
      omega
  have n2 : v' = .slice none 0 0 ∨ v'.ownBlock ≠ v2.ownBlock := by
    rcases nilOr_of_owned ha with e | ⟨ad, n, c, e⟩
    · exact .inl e
    · right; intro e2
      have e3 : v'.ownBlock = some ad.block := by rw [e]; rfl
      rcases b4 with h | h
      · rcases n1 with e4 | e4
        · rw [e] at e4; simp at e4
        · exact e4 (e2.trans h)
      · have := (hal _ e3).2
        rw [e3, h] at e2
        have := Option.some.inj e2; omega
  refine ⟨by rw [List.length_append, List.length_append, h.len]; rfl, by rw [List.length_append, modC_snoc _ _ _ _ h.len.symm]; exact o4, ?_⟩
  intro k hk hk2
  rw [List.length_append, List.length_singleton] at hk
  rcases Nat.lt_or_eq_of_le (Nat.le_of_lt_succ hk) with hlt | heq
  · have hk3 : k < vs.length := by rw [h.len]; exact hlt
    rw [List.getElem_append_left hlt, List.getElem_append_left hk3]
    have A := h.args k hlt hk3
    have A2 := A.kept (rb' := v.ownBlock) (grown_of_below e none) (none_or _) A.apart
    refine A2.kept g4 (apart_or A.apart) ?_
    rcases argFr_block A with e | ⟨q, ob, q1, q2⟩
    · exact .inl e
    · right; intro e2
      rcases b4 with h | h
      · rcases A.apart with e | e
        · rw [e] at ob; simp [Value.ownBlock] at ob
        · exact e (e2.trans h)
      · rw [ob, h] at e2
        have := Option.some.inj e2; omega
  · subst heq
    have a1 : (vs ++ [v'])[l.length]'hk2 = v' := by rw [List.getElem_append_right (by rw [h.len]; exact Nat.le_refl _)]; simp
    have a2 : (l ++ [m])[l.length]'(by simp) = m := by simp
    rw [a1, a2]
    exact ⟨owns_mono (ha.kept g4 (apart_or n1)) hbase, n2⟩
end Go.Proofs.YtepoaobjcpgilaaDoor
namespace Go.Proofs.YtepoaobjcpgilaaDoor
open Go.RowKit
open WM RM CH
set_option linter.unusedVariables false
set_option linter.unusedSimpArgs false

/-- A slice's cells, which may be none. -/
inductive Ces (w : World) : Value → List Ce → Prop
  | none (p : Option Addr) (cap : Nat) : Ces w (.slice p 0 cap) []
  | some (b off cap : Nat) (l : List Ce) (hpos : 0 < l.length) (hb : b < w.heap.size)
      (h : ∀ i, (h : i < l.length) → w.cell? ⟨b, off + i * 3, Option.none⟩ = Option.some (.string (bA l[i].p)) ∧ w.cell? ⟨b, off + i * 3 + 1, Option.none⟩ = Option.some (.int .u8 l[i].m.c.toNat) ∧
        ∃ v, w.cell? ⟨b, off + i * 3 + 2, Option.none⟩ = Option.some v ∧ Ints w v l[i].m.a ∧ NilOr v) :
      Ces w (.slice (Option.some ⟨b, off, Option.none⟩) l.length cap) l
theorem Ces.later {w w1 : World} {v : Value} {l : List Ce} (h : Ces w v l) (hb : Below w.heap.size w w1) : Ces w1 v l := by
  cases h with
  | none p cap => exact .none p cap
  | some b off cap _ hpos hlt hx =>
    refine .some b off cap l hpos (Nat.lt_of_lt_of_le hlt hb.size) fun i hi => ?_
    obtain ⟨h0, h1, v, h2, h3, h4⟩ := hx i hi
    exact ⟨(hb.cell (p := ⟨b, off + i * 3, Option.none⟩) hlt).trans h0, (hb.cell (p := ⟨b, off + i * 3 + 1, Option.none⟩) hlt).trans h1, v, (hb.cell (p := ⟨b, off + i * 3 + 2, Option.none⟩) hlt).trans h2, h3.later hb, h4⟩
theorem Ces.slice {w : World} {v : Value} {l : List Ce} (h : Ces w v l) : ∃ p cap, v = .slice p l.length cap := by
  cases h with
  | none p cap => exact ⟨p, cap, rfl⟩
  | some b off cap _ _ _ _ => exact ⟨_, cap, rfl⟩
theorem Ces.at {w : World} {v : Value} {l : List Ce} (h : Ces w v l) {k : Nat} (hk : k < l.length) :
    ∃ b off cap p c, v = .slice (Option.some ⟨b, off, Option.none⟩) l.length cap ∧ w.cell? ⟨b, off + k * 3, Option.none⟩ = Option.some (.string (bA l[k].p)) ∧ w.cell? ⟨b, off + k * 3 + 1, Option.none⟩ = Option.some (.int .u8 l[k].m.c.toNat) ∧
      w.cell? ⟨b, off + k * 3 + 2, Option.none⟩ = Option.some (.slice p l[k].m.a.length c) ∧ Ints w (.slice p l[k].m.a.length c) l[k].m.a ∧ b < w.heap.size := by
  cases h with
  | none p cap => simp at hk
  | some b off cap _ _ hb hx =>
    obtain ⟨h0, h1, v, h2, h3, _⟩ := hx k hk
    obtain ⟨p, c, rfl⟩ := h3.slice
    exact ⟨b, off, cap, p, c, rfl, h0, h1, h2, h3, hb⟩
/-- The args of cells: a list of values. -/
theorem Ces.args {w : World} {v : Value} {l : List Ce} (h : Ces w v l) : ∃ vs : List Value, vs.length = l.length ∧ ∀ k, (hk : k < l.length) → (hk2 : k < vs.length) → Ints w vs[k] l[k].m.a ∧ NilOr vs[k] ∧
    ∃ b off cap p c, v = .slice (Option.some ⟨b, off, Option.none⟩) l.length cap ∧ vs[k] = .slice p l[k].m.a.length c ∧ w.cell? ⟨b, off + k * 3, Option.none⟩ = Option.some (.string (bA l[k].p)) ∧ w.cell? ⟨b, off + k * 3 + 1, Option.none⟩ = Option.some (.int .u8 l[k].m.c.toNat) ∧
      w.cell? ⟨b, off + k * 3 + 2, Option.none⟩ = Option.some (.slice p l[k].m.a.length c) ∧ b < w.heap.size := by
  cases h with
  | none p cap => exact ⟨[], rfl, fun k hk => by simp at hk⟩
  | some b off cap _ hpos hb hx =>
    have key : ∀ i : Fin l.length, ∃ v, w.cell? ⟨b, off + i.1 * 3 + 2, Option.none⟩ = Option.some v ∧ Ints w v l[i.1].m.a ∧ NilOr v := fun i => (hx i.1 i.2).2.2
    obtain ⟨f, hf⟩ := Classical.axiomOfChoice key
    refine ⟨List.ofFn f, List.length_ofFn, fun k hk hk2 => ?_⟩
    rw [List.getElem_ofFn]
    obtain ⟨g1, g2, g3⟩ := hf ⟨k, hk⟩
    obtain ⟨p, c, e⟩ := g2.slice
    rw [e] at g1
    exact ⟨g2, g3, b, off, cap, p, c, rfl, e, (hx k hk).1, (hx k hk).2.1, g1, hb⟩
/-- The cells of cells whose args are given. -/
def ceQ : List Ce → List Value → List Value
  | c :: l, v :: vs => .string (bA c.p) :: .int .u8 c.m.c.toNat :: v :: ceQ l vs
  | _, _ => []
theorem ceQ_length : ∀ (l : List Ce) (vs : List Value), l.length = vs.length → (ceQ l vs).length = l.length * 3
  | [], [], _ => rfl
  | m :: l, v :: vs, h => by
    have := ceQ_length l vs (by simpa using h)
    simp [ceQ, this]; omega
  | [], _ :: _, h => by simp at h
  | _ :: _, [], h => by simp at h
theorem ceQ_snoc : ∀ (l : List Ce) (vs : List Value) (m : Ce) (v : Value), l.length = vs.length → ceQ (l ++ [m]) (vs ++ [v]) = ceQ l vs ++ [.string (bA m.p), .int .u8 m.m.c.toNat, v]
  | [], [], m, v, _ => rfl
  | a :: l, b :: vs, m, v, h => by
    have := ceQ_snoc l vs m v (by simpa using h)
    simp [ceQ, this]
  | [], _ :: _, _, _, h => by simp at h
  | _ :: _, [], _, _, h => by simp at h
theorem ceQ_get : ∀ (l : List Ce) (vs : List Value) (k : Nat) (h1 : k < l.length) (h2 : k < vs.length), (ceQ l vs)[k * 3]? = some (.string (bA l[k].p)) ∧ (ceQ l vs)[k * 3 + 1]? = some (.int .u8 l[k].m.c.toNat) ∧ (ceQ l vs)[k * 3 + 2]? = some vs[k]
  | m :: l, v :: vs, 0, _, _ => ⟨rfl, rfl, rfl⟩
  | m :: l, v :: vs, k + 1, h1, h2 => by
    have := ceQ_get l vs k (by simpa using h1) (by simpa using h2)
    have e : (k + 1) * 3 = k * 3 + 1 + 1 + 1 := by omega
    simp only [ceQ, e, List.getElem?_cons_succ, List.getElem_cons_succ]
    exact this
theorem info_cell : (Tryd.prog.info? 50).map (fun i => (i.zero, i.size, i.bytes)) = some (some (.agg #[.string ⟨#[]⟩, .int .u8 0, .slice none 0 0]), 3, 48) := by kernel_rfl
theorem ces_of_rows {w : World} {base : Nat} {v : Value} {l : List Ce} {vs : List Value} (hl : vs.length = l.length) (hr : w.ownsRow base 50 3 v l.length (ceQ l vs)) (ha : ∀ j, (h : j < l.length) → (h2 : j < vs.length) → Ints w vs[j] l[j].m.a ∧ NilOr vs[j]) : Ces w v l := by
  rcases Nat.eq_zero_or_pos l.length with h0 | h0
  · have e : l = [] := List.length_eq_zero_iff.1 h0
    subst e
    rcases hr.2 with ⟨hv, _⟩ | ⟨g, cap, cur, hv, _⟩
    · rw [hv]; exact .none _ _
    · rw [hv]; exact .none _ _
  · rcases hr.2 with ⟨_, h1⟩ | ⟨g, cap, cur, hv, hb, hg, hc1, hc2, hsz, htake⟩
    · omega
    · rw [hv]
      have hcell : ∀ j, j < l.length * 3 → w.cell? ⟨g, j, none⟩ = (ceQ l vs)[j]? := by
        intro j hj
        rw [← htake, List.getElem?_take_of_lt hj, Array.getElem?_toList]
        simp [World.cell?, hg]
      refine .some g 0 cap l h0 (lt_of_block hg) fun i hi => ?_
      have hv2 : i < vs.length := by rw [hl]; exact hi
      obtain ⟨g0, g1, g2⟩ := ceQ_get l vs i hi hv2
      exact ⟨by rw [Nat.zero_add, hcell _ (by omega), g0], by rw [Nat.zero_add, hcell _ (by omega), g1], vs[i], by rw [Nat.zero_add, hcell _ (by omega), g2], ha i hi hv2⟩
/-- Where a loop stands that puts the modules of cells together. -/
structure MdAt (W : World) (l : List Ce) (vs : List Value) (k : Nat) (v : Value) (wr : World) : Prop where
  hi : k ≤ l.length
  below : Below W.heap.size W wr
  row : wr.ownsRow W.heap.size 25 2 v k (modC ((l.map Ce.m).take k) (vs.take k))
theorem mdAt_start (W : World) (l : List Ce) (vs : List Value) : MdAt W l vs 0 (.slice none 0 0) W :=
  ⟨Nat.zero_le _, Below.refl _ _, by simpa [modC] using World.ownsRow_nil W W.heap.size 25 2⟩
theorem mdAt_step {W wr X w2 : World} {l : List Ce} {vs : List Value} {k : Nat} {v v2 u : Value} (h : MdAt W l vs k v wr) (hk : k < l.length) (hv : vs.length = l.length) (hu : vs[k]? = some u) (hX : Below wr.heap.size wr X)
    (ho : w2.ownsRow W.heap.size 25 2 v2 (k + 1) (modC ((l.map Ce.m).take k) (vs.take k) ++ [.int .u8 l[k].m.c.toNat, u])) (hg : X.grownBy w2 v.ownBlock) : MdAt W l vs (k + 1) v2 w2 := by
  have hs := h.below.size
  have hb : Below W.heap.size W X := h.below.trans (hX.mono hs)
  refine ⟨hk, hb.grown hg hb.size (fun j e => (owns_lt h.row j e).1), ?_⟩
  have e1 : (l.map Ce.m).take (k + 1) = (l.map Ce.m).take k ++ [l[k].m] := by
    rw [List.take_succ_eq_append_getElem (by simpa using hk)]; simp
  obtain ⟨hk2, hu2⟩ := List.getElem?_eq_some_iff.1 hu
  have e2 : vs.take (k + 1) = vs.take k ++ [u] := by rw [List.take_succ_eq_append_getElem hk2, hu2]
  rw [e1, e2, modC_snoc _ _ _ _ (by simp; omega)]
  exact ho
theorem mdAt_end {W wr : World} {l : List Ce} {vs : List Value} {v : Value} (h : MdAt W l vs l.length v wr) (hv : vs.length = l.length) (ha : ∀ k, (hk : k < l.length) → (hk2 : k < vs.length) → Ints W vs[k] l[k].m.a ∧ NilOr vs[k]) : Mods wr v (l.map Ce.m) ∧ NilOr v := by
  have hr := h.row
  rw [show (l.map Ce.m).take l.length = l.map Ce.m by rw [List.take_of_length_le (by simp)], show vs.take l.length = vs by rw [← hv, List.take_length]] at hr
  refine ⟨mods_of_rows (by simpa using hv) (by simpa using hr) fun j hj hj2 => ?_, nilOr_of_owned hr⟩
  have h1 : j < l.length := by simpa using hj
  rw [List.getElem_map]
  exact ⟨(ha j h1 hj2).1.later h.below, (ha j h1 hj2).2⟩
/-- Where Begin's loop stands. -/
structure BgAt (d : Nat → Bs) (W : World) (u : List Md) (vs : List Value) (k : Nat) (v : Value) (wr : World) : Prop where
  hi : k ≤ u.length
  below : Below W.heap.size W wr
  row : wr.ownsRow W.heap.size 50 3 v k (ceQ (bgF d u k) (vs.take k))
theorem bgAt_start (d : Nat → Bs) (W : World) (u : List Md) (vs : List Value) : BgAt d W u vs 0 (.slice none 0 0) W :=
  ⟨Nat.zero_le _, Below.refl _ _, by simpa [ceQ, bgF] using World.ownsRow_nil W W.heap.size 50 3⟩
theorem bgAt_step {d : Nat → Bs} {W wr X w2 : World} {u : List Md} {vs : List Value} {k : Nat} {v v2 a : Value} (h : BgAt d W u vs k v wr) (hk : k < u.length) (hv : vs.length = u.length) (hu : vs[k]? = some a) (hX : Below wr.heap.size wr X)
    (ho : w2.ownsRow W.heap.size 50 3 v2 (k + 1) (ceQ (bgF d u k) (vs.take k) ++ [.string (bA (d k)), .int .u8 u[k].c.toNat, a])) (hg : X.grownBy w2 v.ownBlock) : BgAt d W u vs (k + 1) v2 w2 := by
  have hs := h.below.size
  have hb : Below W.heap.size W X := h.below.trans (hX.mono hs)
  refine ⟨hk, hb.grown hg hb.size (fun j e => (owns_lt h.row j e).1), ?_⟩
  obtain ⟨hk2, hu2⟩ := List.getElem?_eq_some_iff.1 hu
  have e2 : vs.take (k + 1) = vs.take k ++ [a] := by rw [List.take_succ_eq_append_getElem hk2, hu2]
  rw [bgF_succ d hk, e2, ceQ_snoc _ _ _ _ (by rw [bgF_length, List.length_take]; omega)]
  exact ho
theorem bgAt_end {d : Nat → Bs} {W wr : World} {u : List Md} {vs : List Value} {v : Value} (h : BgAt d W u vs u.length v wr) (hv : vs.length = u.length) (ha : ∀ k, (hk : k < u.length) → (hk2 : k < vs.length) → Ints W vs[k] u[k].a ∧ NilOr vs[k]) : Ces wr v (bgF d u u.length) := by
  have hr := h.row
  rw [show vs.take u.length = vs by rw [← hv, List.take_length]] at hr
  refine ces_of_rows (by rw [bgF_length]; exact hv) (by rw [bgF_length]; exact hr) fun j hj hj2 => ?_
  have h1 : j < u.length := by rw [bgF_length] at hj; exact hj
  rw [bgF_get d (Nat.le_refl _) h1]
  exact ⟨(ha j h1 hj2).1.later h.below, (ha j h1 hj2).2⟩
end Go.Proofs.YtepoaobjcpgilaaDoor
namespace Go.Proofs.YtepoaobjcpgilaaDoor
open Go.RowKit
open WM
set_option linter.unusedVariables false
set_option linter.unusedSimpArgs false

theorem md_ext {a b : Md} (h1 : a.c = b.c) (h2 : a.a = b.a) : a = b := by cases a; cases b; simp_all
theorem u8_ne {x y : UInt8} : ((x.toNat : Int) != (y.toNat : Int)) = !(x == y) := by rw [← u8_eq]; rfl
set_option maxHeartbeats 1600000 in
theorem samemod_any (a b : Md) (v1 v2 : Value) (h1 : a.a.length ≤ 9223372036854775807) (h2 : b.a.length ≤ 9223372036854775807) (w : World) (i1 : Ints w v1 a.a) (i2 : Ints w v2 b.a) :
    Calls Tryd.prog 65 #[.agg #[.int .u8 a.c.toNat, v1], .agg #[.int .u8 b.c.toNat, v2]] w fun e w' => e = .returned (.bool (decide (a = b))) ∧ Below w.heap.size w w' := by
  obtain ⟨p1, cap1, rfl⟩ := i1.slice
  obtain ⟨p2, cap2, rfl⟩ := i2.slice
  obtain ⟨W0, hW0⟩ : ∃ W, W = (w.alloc (.cells #[.int .u8 a.c.toNat, .slice p1 a.a.length cap1] 25)).alloc (.cells #[.int .u8 b.c.toNat, .slice p2 b.a.length cap2] 25) := ⟨_, rfl⟩
  have N1 : W0.heap[w.heap.size]? = some (.cells #[.int .u8 a.c.toNat, .slice p1 a.a.length cap1] 25 (0, 0)) := by rw [hW0]; exact heap_alloc_old (heap_alloc_new _ _) _
  have N2 : W0.heap[w.heap.size + 1]? = some (.cells #[.int .u8 b.c.toNat, .slice p2 b.a.length cap2] 25 (0, 0)) := by
    have := heap_alloc_new (w.alloc (.cells #[.int .u8 a.c.toNat, .slice p1 a.a.length cap1] 25)) (.cells #[.int .u8 b.c.toNat, .slice p2 b.a.length cap2] 25)
    rw [hW0]; simpa using this
  have B0 : Below w.heap.size w W0 := by rw [hW0]; exact ((Below.refl _ _).alloc (Nat.le_refl _) _).alloc (by simp) _
  have HB := Lib.hid B0
  have HI1 := Lib.hid (i1.later B0)
  have HI2 := Lib.hid (i2.later B0)
  have q0 := cell_two0 N1
  have q1 := cell_two1 N1
  have q2 := cell_two0 N2
  have q3 := cell_two1 N2
  have l1 := lt_of_block N1
  have l2 := lt_of_block N2
  clear N1 N2 B0 i1 i2
  by_cases hc : a.c = b.c
  · have t1 : ((a.c.toNat : Int) != (b.c.toNat : Int)) = false := by rw [hc]; simp
    by_cases hl : a.a.length = b.a.length
    · have HC := Lib.hid hc
      obtain ⟨n, hn⟩ : ∃ n, a.a.length = n := ⟨_, rfl⟩
      have hn2 : b.a.length = n := by omega
      have HN1 := Lib.hid hn
      have HN2 := Lib.hid hn2
      rw [hn] at q1 HI1 hW0 h1 ⊢
      rw [hn2] at q3 HI2 hW0 ⊢
      clear hn hn2 hl hc h2
      generalize a.c.toNat = ca at q0 t1 hW0 ⊢
      generalize b.c.toNat = cb at q2 t1 hW0 ⊢
      go_enter Tryd.func65, Tryd.ntmps65
      go_wp2_with fail
      rw [← hW0]
      clear hW0
      go_wp2_with fail
      go_loopw [5] (fun i wr => ∃ k q : Nat, k ≤ n ∧ i = .int .i64 k ∧ wr = W0.drewN q ∧ ∀ j, (hj : j < a.a.length) → (hj2 : j < b.a.length) → j < k → a.a[j] = b.a[j]) (fun i _ => n - (intOf i).toNat)
      case atStart => exact ⟨0, 0, Nat.zero_le _, rfl, rfl, fun j _ _ h => by omega⟩
      case round =>
        obtain ⟨k, q, hk, rfl, rfl, hok⟩ := hrel
        have HK := Lib.hid hok
        clear hok
        by_cases hlt : k < n
        · have ha : k < a.a.length := by rw [HN1.out]; exact hlt
          have hb : k < b.a.length := by rw [HN2.out]; exact hlt
          obtain ⟨b1, o1, c1, hp1, e1, lb1⟩ := HI1.out.at ha
          obtain ⟨b2, o2, c2, hp2, e2, lb2⟩ := HI2.out.at hb
          rw [HN1.out] at hp1
          rw [HN2.out] at hp2
          obtain rfl : p1 = some ⟨b1, o1, none⟩ := by cases hp1; rfl
          obtain rfl : p2 = some ⟨b2, o2, none⟩ := by cases hp2; rfl
          obtain ⟨x, hx⟩ : ∃ x, a.a[k] = x := ⟨_, rfl⟩
          obtain ⟨y, hy⟩ : ∃ y, b.a[k] = y := ⟨_, rfl⟩
          have HX := Lib.hid hx
          have HY := Lib.hid hy
          rw [hx] at e1
          rw [hy] at e2
          have k1 : (k : Int) < (n : Int) := by omega
          clear hx hy hp1 hp2
          by_cases hxy : x = y
          · have HG : Hid (∀ j, (hj : j < a.a.length) → (hj2 : j < b.a.length) → j < k + 1 → a.a[j] = b.a[j]) := Lib.hid (fun j hj hj2 h => by
              rcases Nat.lt_or_eq_of_le (Nat.le_of_lt_succ h) with h1 | h1
              · exact HK.out j hj hj2 h1
              · subst h1; rw [HX.out, HY.out]; exact hxy)
            subst hxy
            go_wp2_with fail
            go_quiet (fail)
            go_wp2_with fail
            go_roundw
            case rel => exact ⟨k + 1, _, by omega, by go_num, rfl, HG.out⟩
            case measure => simp [intOf]; omega
          · have t2 : (x != y) = true := by rw [bne_iff_ne]; exact hxy
            have HF : Hid (decide (a = b) = false) := Lib.hid (decide_eq_false (fun e => by
              have e3 := HX.out
              subst e
              exact hxy (e3.symm.trans HY.out)))
            go_wp2_with fail
            go_quiet (fail)
            go_wp2_with fail
            go_ret
            exact ⟨ret_bool HF.out.symm, below_drewN (below_drewN HB.out _) _⟩
        · obtain rfl : k = n := by omega
          have HF : Hid (decide (a = b) = true) := Lib.hid (decide_eq_true (md_ext HC.out (by
            apply List.ext_getElem (by rw [HN1.out, HN2.out])
            intro j h1 h2; exact HK.out j h1 h2 (by rw [HN1.out] at h1; exact h1))))
          go_wp2_with fail
          go_ret
          exact ⟨ret_bool HF.out.symm, below_drewN HB.out _⟩
    · have t2 : ((a.a.length : Int) != (b.a.length : Int)) = true := by rw [bne_iff_ne]; omega
      have HF : Hid (decide (a = b) = false) := Lib.hid (decide_eq_false (fun e => hl (by rw [e])))
      clear hc hl
      go_enter Tryd.func65, Tryd.ntmps65
      go_wp2_with fail
      rw [← hW0]
      clear hW0
      go_wp2_with fail
      go_ret
      exact ⟨ret_bool HF.out.symm, HB.out⟩
  · have t1 : ((a.c.toNat : Int) != (b.c.toNat : Int)) = true := by rw [u8_ne]; simp [hc]
    have HF : Hid (decide (a = b) = false) := Lib.hid (decide_eq_false (fun e => hc (by rw [e])))
    clear hc
    go_enter Tryd.func65, Tryd.ntmps65
    go_wp2_with fail
    rw [← hW0]
    clear hW0
    go_wp2_with fail
    go_ret
    exact ⟨ret_bool HF.out.symm, HB.out⟩

theorem same_at {a b : List Md} {k : Nat} (h1 : k < a.length) (h2 : k < b.length) (h : a[k] ≠ b[k]) : decide (a = b) = false := decide_eq_false (fun e => by subst e; exact h rfl)
set_option maxHeartbeats 1600000 in
theorem same_any (v1 v2 : Value) (a b : List Md) (h1 : a.length ≤ 9223372036854775807) (h2 : b.length ≤ 9223372036854775807) (g1 : ∀ m ∈ a, m.a.length ≤ 9223372036854775807) (g2 : ∀ m ∈ b, m.a.length ≤ 9223372036854775807)
    (w : World) (i1 : Mods w v1 a) (i2 : Mods w v2 b) :
    Calls Tryd.prog 35 #[v1, v2] w fun e w' => e = .returned (.bool (decide (a = b))) ∧ Below w.heap.size w w' := by
  obtain ⟨p1, cap1, rfl⟩ := i1.slice
  obtain ⟨p2, cap2, rfl⟩ := i2.slice
  have HI1 := Lib.hid i1
  have HI2 := Lib.hid i2
  have HG1 := Lib.hid g1
  have HG2 := Lib.hid g2
  clear i1 i2 g1 g2
  by_cases hl : a.length = b.length
  · obtain ⟨n, hn⟩ : ∃ n, a.length = n := ⟨_, rfl⟩
    have hn2 : b.length = n := by omega
    have HN1 := Lib.hid hn
    have HN2 := Lib.hid hn2
    rw [hn] at HI1 h1 ⊢
    rw [hn2] at HI2 ⊢
    clear hn hn2 hl h2
    go_enter Tryd.func35, Tryd.ntmps35
    go_wp2_with fail
    go_loopw [5] (fun i wr => ∃ k : Nat, k ≤ n ∧ i = .int .i64 k ∧ Below w.heap.size w wr ∧ ∀ j, (hj : j < a.length) → (hj2 : j < b.length) → j < k → a[j] = b[j]) (fun i _ => n - (intOf i).toNat)
    case atStart => exact ⟨0, Nat.zero_le _, rfl, Below.refl _ _, fun j _ _ h => by omega⟩
    case round =>
      obtain ⟨k, hk, rfl, hb, hok⟩ := hrel
      have HK := Lib.hid hok
      have HB := Lib.hid hb
      clear hok hb
      by_cases hlt : k < n
      · have ha : k < a.length := by rw [HN1.out]; exact hlt
        have hb : k < b.length := by rw [HN2.out]; exact hlt
        obtain ⟨b1, o1, c1, q1, d1, hp1, e1, f1, j1, lb1⟩ := (HI1.out.later (HB.out.mono (Nat.le_refl _))).at ha
        obtain ⟨b2, o2, c2, q2, d2, hp2, e2, f2, j2, lb2⟩ := (HI2.out.later (HB.out.mono (Nat.le_refl _))).at hb
        rw [HN1.out] at hp1
        rw [HN2.out] at hp2
        obtain rfl : p1 = some ⟨b1, o1, none⟩ := by cases hp1; rfl
        obtain rfl : p2 = some ⟨b2, o2, none⟩ := by cases hp2; rfl
        have k1 : (k : Int) < (n : Int) := by omega
        have hx1 := HG1.out _ (List.getElem_mem ha)
        have hx2 := HG2.out _ (List.getElem_mem hb)
        have HC : Hid (∀ (d : Nat) (os : Array Obj), Calls Tryd.prog 65 #[.agg #[.int .u8 a[k].c.toNat, .slice q1 a[k].a.length d1], .agg #[.int .u8 b[k].c.toNat, .slice q2 b[k].a.length d2]] («Sort».grow (redrawn wr d) os) fun e w' =>
            e = .returned (.bool (decide (a[k] = b[k]))) ∧ Below («Sort».grow (redrawn wr d) os).heap.size («Sort».grow (redrawn wr d) os) w') :=
          Lib.hid (fun d os => samemod_any a[k] b[k] _ _ hx1 hx2 _ (j1.later (below_regrown wr d os)) (j2.later (below_regrown wr d os)))
        obtain ⟨t, ht⟩ : ∃ t, decide (a[k] = b[k]) = t := ⟨_, rfl⟩
        have HT := Lib.hid ht
        rw [ht] at HC
        clear hp1 hp2 j1 j2 ht hx1 hx2
        generalize a[k].c.toNat = ca at e1 HC
        generalize b[k].c.toNat = cb at e2 HC
        generalize a[k].a.length = la at f1 HC
        generalize b[k].a.length = lb at f2 HC
        have r1 := fun d os => cell_regrown e1 d os
        have r2 := fun d os => cell_regrown f1 d os
        have r3 := fun d os => cell_regrown e2 d os
        have r4 := fun d os => cell_regrown f2 d os
        go_wp2_with fail
        refine wp_region_quiet_below (by kernel_rfl) (by kernel_rfl) ?_
        repeat (any_goals (first | go_big_quiet_step ((go_at_call 65; exact Calls.regrown_of (HC.out _ _))) | quiet_step ((go_at_call 65; exact Calls.regrown_of (HC.out _ _)))))
        refine wpQuiet_nil ?_
        intro _ hw'
        obtain ⟨⟨dq, osq⟩, hw''⟩ := hw'
        subst hw''
        have HB2 : Hid (Below w.heap.size w («Sort».grow (redrawn wr dq) osq)) := Lib.hid (HB.out.trans ((below_regrown wr dq osq).mono HB.out.size))
        cases t with
        | true =>
          have HG : Hid (∀ j, (hj : j < a.length) → (hj2 : j < b.length) → j < k + 1 → a[j] = b[j]) := Lib.hid (fun j hj hj2 h => by
            rcases Nat.lt_or_eq_of_le (Nat.le_of_lt_succ h) with h1 | h1
            · exact HK.out j hj hj2 h1
            · subst h1; exact of_decide_eq_true HT.out)
          go_wp2_with fail
          go_roundw
          case rel => exact ⟨k + 1, by omega, by go_num, HB2.out, HG.out⟩
          case measure => simp [intOf]; omega
        | false =>
          have HF := Lib.hid (same_at ha hb (of_decide_eq_false HT.out))
          go_wp2_with fail
          go_ret
          exact ⟨ret_bool HF.out.symm, HB2.out⟩
      · obtain rfl : k = n := by omega
        have HF : Hid (decide (a = b) = true) := Lib.hid (decide_eq_true (by
          apply List.ext_getElem (by rw [HN1.out, HN2.out])
          intro j h1 h2; exact HK.out j h1 h2 (by rw [HN1.out] at h1; exact h1)))
        go_wp2_with fail
        go_ret
        exact ⟨ret_bool HF.out.symm, HB.out⟩
  · have t2 : ((a.length : Int) != (b.length : Int)) = true := by rw [bne_iff_ne]; omega
    have HF : Hid (decide (a = b) = false) := Lib.hid (decide_eq_false (fun e => hl (by rw [e])))
    clear hl
    go_enter Tryd.func35, Tryd.ntmps35
    go_wp2_with fail
    go_ret
    exact ⟨ret_bool HF.out.symm, Below.refl _ _⟩
end Go.Proofs.YtepoaobjcpgilaaDoor
namespace Go.Proofs.YtepoaobjcpgilaaDoor
open Go.RowKit
open WM RM CH
set_option linter.unusedVariables false
set_option linter.unusedSimpArgs false

theorem dig_of {c : UInt8} (h : (48 ≤ c.toNat ∧ c.toNat ≤ 57) ∨ c.toNat = 47) : digB c = true := by
  unfold digB
  rw [Bool.or_eq_true, Bool.and_eq_true, decide_eq_true_eq, decide_eq_true_eq, beq_iff_eq]
  rcases h with ⟨a, b⟩ | h
  · exact .inl ⟨UInt8.le_iff_toNat_le.2 a, UInt8.le_iff_toNat_le.2 b⟩
  · exact .inr (UInt8.toNat_inj.1 h)
theorem dig_no {c : UInt8} (h : c.toNat ≠ 47) (h2 : c.toNat < 48 ∨ 57 < c.toNat) : digB c = false := by
  unfold digB
  rw [Bool.or_eq_false_iff, Bool.and_eq_false_iff, decide_eq_false_iff_not, decide_eq_false_iff_not, beq_eq_false_iff_ne]
  refine ⟨?_, fun e => h (by rw [e]; rfl)⟩
  rcases h2 with a | a
  · exact .inl fun e => by have := UInt8.le_iff_toNat_le.1 e; simp at this; omega
  · exact .inr fun e => by have := UInt8.le_iff_toNat_le.1 e; simp at this; omega
theorem path_no {s : Bs} {k : Nat} (hk : k < s.length) (h : digB s[k] = false) : pathB s = false := by
  unfold pathB
  rw [Bool.and_eq_false_iff]
  exact .inr (by rw [List.all_eq_false]; exact ⟨_, List.getElem_mem hk, by rw [h]; simp⟩)
theorem path_yes {s : Bs} (h : ∀ k, (hk : k < s.length) → digB s[k] = true) : pathB s = (decide (1 ≤ s.length) && decide (s.length ≤ 200)) := by
  unfold pathB
  rw [show s.all digB = true by
    rw [List.all_eq_true]
    intro c hc
    obtain ⟨k, hk, rfl⟩ := List.mem_iff_getElem.1 hc
    exact h k hk, Bool.and_true]
theorem path_len {s : Bs} (h : s.length < 1 ∨ 200 < s.length) : pathB s = false := by
  unfold pathB
  rcases h with h | h
  · rw [decide_eq_false (by omega : ¬ 1 ≤ s.length)]; rfl
  · rw [decide_eq_false (by omega : ¬ s.length ≤ 200)]; simp
set_option maxHeartbeats 1600000 in
theorem refpath_any (s : ByteArray) (hs : s.size ≤ 9223372036854775807) (w : World) : Calls Tryd.prog 40 #[.string s] w fun e w' => e = .returned (.bool (pathB (lA s))) ∧ w = w' := by
  go_enter Tryd.func40, Tryd.ntmps40
  go_wp2_with fail
  go_loop [3] (fun i => ∃ k : Nat, k ≤ s.size ∧ i = .int .i64 k ∧ ∀ j, (hj : j < s.size) → j < k → digB (s[j]'hj) = true) (fun i => s.size - (intOf i).toNat)
  case atStart => exact ⟨0, Nat.zero_le _, rfl, fun j _ h => by omega⟩
  case round =>
    obtain ⟨k, hk, rfl, hno⟩ := hrel
    have HN := Lib.hid hno
    clear hno
    by_cases hlt : k < s.size
    · obtain ⟨b, hb⟩ : ∃ b, s[k]'hlt = b := ⟨_, rfl⟩
      have HNo : Hid (digB b = false → pathB (lA s) = false) := Lib.hid (fun h => path_no (s := lA s) (k := k) (by rw [lA_len]; exact hlt) (by rw [lA_get s k hlt, hb]; exact h))
      have HG : Hid (digB b = true → ∀ j, (hj : j < s.size) → j < k + 1 → digB (s[j]'hj) = true) := Lib.hid (fun hd j hj h => by
        rcases Nat.lt_or_eq_of_le (Nat.le_of_lt_succ h) with h1 | h1
        · exact HN.out j hj h1
        · subst h1; rw [hb]; exact hd)
      have HDg := Lib.hid (dig_of (c := b))
      have HDn := Lib.hid (dig_no (c := b))
      obtain ⟨n, hn⟩ : ∃ n, b.toNat = n := ⟨_, rfl⟩
      have hb2 : s[k].toNat = n := by rw [hb]; exact hn
      rw [hn] at HDg HDn
      by_cases c0 : n = 47
      · have t1 : ((s[k].toNat : Int) != 47) = false := by rw [hb2, c0]; rfl
        have t3 : ¬ (48 : Int) ≤ (s[k].toNat : Int) := by rw [hb2, c0]; decide
        have HX := Lib.hid (HG.out (HDg.out (.inr c0)))
        clear c0 hb hn hb2
        go_wp2_with fail
        go_round
        case rel => exact ⟨k + 1, by omega, by go_num, HX.out⟩
        case measure => simp [intOf]; omega
      · have t1 : ((s[k].toNat : Int) != 47) = true := by rw [hb2, bne_iff_ne]; omega
        by_cases c1 : n < 48
        · have t2 : (s[k].toNat : Int) < 48 := by rw [hb2]; omega
          have t3 : ¬ (48 : Int) ≤ (s[k].toNat : Int) := by rw [hb2]; omega
          have HX := Lib.hid (HNo.out (HDn.out c0 (.inl c1)))
          clear c0 c1 hb hn hb2
          go_wp2_with fail
          go_ret
          exact ⟨ret_bool HX.out.symm, rfl⟩
        · have t2 : ¬ (s[k].toNat : Int) < 48 := by rw [hb2]; omega
          have t3 : (48 : Int) ≤ (s[k].toNat : Int) := by rw [hb2]; omega
          by_cases c2 : 57 < n
          · have t4 : (57 : Int) < (s[k].toNat : Int) := by rw [hb2]; omega
            have t5 : ¬ (s[k].toNat : Int) ≤ 57 := by rw [hb2]; omega
            have HX := Lib.hid (HNo.out (HDn.out c0 (.inr c2)))
            clear c0 c1 c2 hb hn hb2
            go_wp2_with fail
            go_ret
            exact ⟨ret_bool HX.out.symm, rfl⟩
          · have t4 : ¬ (57 : Int) < (s[k].toNat : Int) := by rw [hb2]; omega
            have t5 : (s[k].toNat : Int) ≤ 57 := by rw [hb2]; omega
            have HX := Lib.hid (HG.out (HDg.out (.inl ⟨by omega, by omega⟩)))
            clear c0 c1 c2 hb hn hb2
            go_wp2_with fail
            go_round
            case rel => exact ⟨k + 1, by omega, by go_num, HX.out⟩
            case measure => simp [intOf]; omega
    · obtain rfl : k = s.size := by omega
      have HL : Hid (pathB (lA s) = (decide (1 ≤ s.size) && decide (s.size ≤ 200))) := Lib.hid (by
        rw [← lA_len s]
        exact path_yes fun j hj => by
          have hj2 : j < s.size := by rw [lA_len] at hj; exact hj
          rw [lA_get s j hj2]; exact HN.out j hj2 hj2)
      clear HN
      by_cases c1 : (1 : Int) ≤ (s.size : Int)
      · by_cases c2 : (s.size : Int) ≤ 200
        · have HX : Hid (pathB (lA s) = true) := Lib.hid (by rw [HL.out, decide_eq_true (by omega), decide_eq_true (by omega)]; rfl)
          go_wp2_with fail
          go_ret
          exact ⟨ret_bool HX.out.symm, rfl⟩
        · have HX : Hid (pathB (lA s) = false) := Lib.hid (by rw [HL.out, decide_eq_false (by omega : ¬ s.size ≤ 200)]; simp)
          go_wp2_with fail
          go_ret
          exact ⟨ret_bool HX.out.symm, rfl⟩
      · have HX : Hid (pathB (lA s) = false) := Lib.hid (by rw [HL.out, decide_eq_false (by omega : ¬ 1 ≤ s.size)]; rfl)
        go_wp2_with fail
        go_ret
        exact ⟨ret_bool HX.out.symm, rfl⟩
set_option maxHeartbeats 1600000 in
theorem pproper_any (s : ByteArray) (hs : s.size ≤ 9223372036854775807) (w : World) : Calls Tryd.prog 53 #[.string s] w fun e w' => e = .returned (.bool (pathB (lA s))) ∧ w = w' := by
  by_cases z1 : (s.size : Int) < 1
  · have HX : Hid (pathB (lA s) = false) := Lib.hid (path_len (.inl (by rw [lA_len]; omega)))
    go_enter Tryd.func53, Tryd.ntmps53
    go_wp2_with fail
    go_ret
    exact ⟨ret_bool HX.out.symm, rfl⟩
  by_cases z2 : (200 : Int) < (s.size : Int)
  · have HX : Hid (pathB (lA s) = false) := Lib.hid (path_len (.inr (by rw [lA_len]; omega)))
    go_enter Tryd.func53, Tryd.ntmps53
    go_wp2_with fail
    go_ret
    exact ⟨ret_bool HX.out.symm, rfl⟩
  go_enter Tryd.func53, Tryd.ntmps53
  go_wp2_with fail
  go_loop [15] (fun i => ∃ k : Nat, k ≤ s.size ∧ i = .int .i64 k ∧ ∀ j, (hj : j < s.size) → j < k → digB (s[j]'hj) = true) (fun i => s.size - (intOf i).toNat)
  case atStart => exact ⟨0, Nat.zero_le _, rfl, fun j _ h => by omega⟩
  case round =>
    obtain ⟨k, hk, rfl, hno⟩ := hrel
    have HN := Lib.hid hno
    clear hno
    by_cases hlt : k < s.size
    · obtain ⟨b, hb⟩ : ∃ b, s[k]'hlt = b := ⟨_, rfl⟩
      have HNo : Hid (digB b = false → pathB (lA s) = false) := Lib.hid (fun h => path_no (s := lA s) (k := k) (by rw [lA_len]; exact hlt) (by rw [lA_get s k hlt, hb]; exact h))
      have HG : Hid (digB b = true → ∀ j, (hj : j < s.size) → j < k + 1 → digB (s[j]'hj) = true) := Lib.hid (fun hd j hj h => by
        rcases Nat.lt_or_eq_of_le (Nat.le_of_lt_succ h) with h1 | h1
        · exact HN.out j hj h1
        · subst h1; rw [hb]; exact hd)
      have HDg := Lib.hid (dig_of (c := b))
      have HDn := Lib.hid (dig_no (c := b))
      obtain ⟨n, hn⟩ : ∃ n, b.toNat = n := ⟨_, rfl⟩
      have hb2 : s[k].toNat = n := by rw [hb]; exact hn
      rw [hn] at HDg HDn
      by_cases c0 : n = 47
      · have t1 : ((s[k].toNat : Int) != 47) = false := by rw [hb2, c0]; rfl
        have t3 : ¬ (48 : Int) ≤ (s[k].toNat : Int) := by rw [hb2, c0]; decide
        have HX := Lib.hid (HG.out (HDg.out (.inr c0)))
        clear c0 hb hn hb2
        go_wp2_with fail
        go_round
        case rel => exact ⟨k + 1, by omega, by go_num, HX.out⟩
        case measure => simp [intOf]; omega
      · have t1 : ((s[k].toNat : Int) != 47) = true := by rw [hb2, bne_iff_ne]; omega
        by_cases c1 : n < 48
        · have t2 : (s[k].toNat : Int) < 48 := by rw [hb2]; omega
          have t3 : ¬ (48 : Int) ≤ (s[k].toNat : Int) := by rw [hb2]; omega
          have HX := Lib.hid (HNo.out (HDn.out c0 (.inl c1)))
          clear c0 c1 hb hn hb2
          go_wp2_with fail
          go_ret
          exact ⟨ret_bool HX.out.symm, rfl⟩
        · have t2 : ¬ (s[k].toNat : Int) < 48 := by rw [hb2]; omega
          have t3 : (48 : Int) ≤ (s[k].toNat : Int) := by rw [hb2]; omega
          by_cases c2 : 57 < n
          · have t4 : (57 : Int) < (s[k].toNat : Int) := by rw [hb2]; omega
            have t5 : ¬ (s[k].toNat : Int) ≤ 57 := by rw [hb2]; omega
            have HX := Lib.hid (HNo.out (HDn.out c0 (.inr c2)))
            clear c0 c1 c2 hb hn hb2
            go_wp2_with fail
            go_ret
            exact ⟨ret_bool HX.out.symm, rfl⟩
          · have t4 : ¬ (57 : Int) < (s[k].toNat : Int) := by rw [hb2]; omega
            have t5 : (s[k].toNat : Int) ≤ 57 := by rw [hb2]; omega
            have HX := Lib.hid (HG.out (HDg.out (.inl ⟨by omega, by omega⟩)))
            clear c0 c1 c2 hb hn hb2
            go_wp2_with fail
            go_round
            case rel => exact ⟨k + 1, by omega, by go_num, HX.out⟩
            case measure => simp [intOf]; omega
    · obtain rfl : k = s.size := by omega
      have HL : Hid (pathB (lA s) = (decide (1 ≤ s.size) && decide (s.size ≤ 200))) := Lib.hid (by
        rw [← lA_len s]
        exact path_yes fun j hj => by
          have hj2 : j < s.size := by rw [lA_len] at hj; exact hj
          rw [lA_get s j hj2]; exact HN.out j hj2 hj2)
      clear HN
      have HX : Hid (pathB (lA s) = true) := Lib.hid (by rw [HL.out, decide_eq_true (by omega), decide_eq_true (by omega)]; rfl)
      go_wp2_with fail
      go_ret
      exact ⟨ret_bool HX.out.symm, rfl⟩
theorem bA_size (l : Bs) : (bA l).size = l.length := by rw [← lA_len, lA_bA]
set_option maxHeartbeats 1600000 in
theorem refcgreat_any (v : Value) (l : List Ce) (hmax : l.length ≤ 9223372036854775807) (w : World) (hv : Ces w v l) (hi : ∀ c ∈ l, c.p.length ≤ 9223372036854775807 ∧ c.m.a.length ≤ 9223372036854775807) :
    Calls Tryd.prog 26 #[v] w fun e w' => e = .returned (.bool (greatC l)) ∧ w = w' := by
  obtain ⟨p, cap, rfl⟩ := hv.slice
  have HV := Lib.hid hv
  have HI := Lib.hid hi
  clear hv hi
  go_enter Tryd.func26, Tryd.ntmps26
  go_wp2_with fail
  go_loop [3] (fun i => ∃ k : Nat, k ≤ l.length ∧ i = .int .i64 k ∧ ∀ j, (h : j < l.length) → j < k → l[j].p.length ≤ 300 ∧ l[j].m.a.length ≤ 10) (fun i => l.length - (intOf i).toNat)
  case atStart => exact ⟨0, Nat.zero_le _, rfl, fun j _ h => by omega⟩
  case round =>
    obtain ⟨k, hk, rfl, hok⟩ := hrel
    have HK := Lib.hid hok
    clear hok
    by_cases hlt : k < l.length
    · obtain ⟨b, off, cap', q, c, hp, e0, e1, e2, _, lb⟩ := HV.out.at hlt
      obtain rfl : p = some ⟨b, off, none⟩ := by cases hp; rfl
      have hin := HI.out l[k] (List.getElem_mem hlt)
      have k1 : (k : Int) < (l.length : Int) := by omega
      have HS : Hid ((bA l[k].p).size = l[k].p.length) := Lib.hid (bA_size _)
      have HA := Lib.hid (greatC_at hlt)
      have HG : Hid (l[k].p.length ≤ 300 ∧ l[k].m.a.length ≤ 10 → ∀ j, (h : j < l.length) → j < k + 1 → l[j].p.length ≤ 300 ∧ l[j].m.a.length ≤ 10) := Lib.hid (fun hg j h hj => by
        rcases Nat.lt_or_eq_of_le (Nat.le_of_lt_succ hj) with h1 | h1
        · exact HK.out j h h1
        · subst h1; exact hg)
      clear hp e1
      generalize bA l[k].p = s at e0 HS
      rw [← HS.out] at HA HG hin
      generalize l[k].m.a.length = n at e2 hin HA HG
      by_cases h1 : 300 < s.size
      · have HF := Lib.hid (HA.out (.inl h1))
        have c1 : (300 : Int) < (s.size : Int) := by omega
        go_wp2_with fail
        go_ret
        exact ⟨ret_bool HF.out.symm, rfl⟩
      · have c1 : ¬ (300 : Int) < (s.size : Int) := by omega
        by_cases h2 : 10 < n
        · have HF := Lib.hid (HA.out (.inr h2))
          have c2 : (10 : Int) < (n : Int) := by omega
          go_wp2_with fail
          go_ret
          exact ⟨ret_bool HF.out.symm, rfl⟩
        · have c2 : ¬ (10 : Int) < (n : Int) := by omega
          have HX := Lib.hid (HG.out ⟨by omega, by omega⟩)
          go_wp2_with fail
          go_round
          case rel => exact ⟨k + 1, by omega, by go_num, HX.out⟩
          case measure => simp [intOf]; omega
    · obtain rfl : k = l.length := by omega
      have HF := Lib.hid (greatC_end fun j h => HK.out j h h)
      clear HK
      by_cases c1 : (2100 : Int) < (l.length : Int)
      · have HX : Hid (greatC l = true) := Lib.hid (by rw [HF.out, decide_eq_true (by omega)])
        go_wp2_with fail
        go_ret
        exact ⟨ret_bool HX.out.symm, rfl⟩
      · have HX : Hid (greatC l = false) := Lib.hid (by rw [HF.out, decide_eq_false (by omega : ¬ 2100 < l.length)])
        go_wp2_with fail
        go_ret
        exact ⟨ret_bool HX.out.symm, rfl⟩
end Go.Proofs.YtepoaobjcpgilaaDoor
namespace Go.Proofs.YtepoaobjcpgilaaDoor
open Go.RowKit
open WM
set_option linter.unusedVariables false
set_option linter.unusedSimpArgs false

set_option maxHeartbeats 1600000 in
theorem twin_any (v : Value) (l : List Md) (hmax : l.length ≤ 2100) (hargs : ∀ m ∈ l, m.a.length ≤ 10) (w : World) (hv : Mods w v l) :
    Calls Tryd.prog 60 #[v] w fun e w' => ∃ v' vs, e = .returned v' ∧ Below w.heap.size w w' ∧ ModOwn w' w.heap.size v' l vs := by
  obtain ⟨p, cap, rfl⟩ := hv.slice
  have HV := Lib.hid hv
  have HA := Lib.hid hargs
  obtain ⟨i0, hi, hz0, hz1, hz2⟩ := info_parts info_int
  obtain ⟨j0, hj, hy0, hy1, hy2⟩ := info_parts info_mod
  have HM : Hid (maxLen = 9223372036854775807) := Lib.hid rfl
  have S0 := Lib.hid (twAt_start w l)
  clear hv hargs
  go_enter Tryd.func60, Tryd.ntmps60
  go_wp2_with fail
  go_loopw [3, 4] (fun v i wr => ∃ k : Nat, i = .int .i64 k ∧ TwAt w l k v wr) (fun _ i _ => l.length - (intOf i).toNat)
  case atStart => exact ⟨0, rfl, S0.out⟩
  case round =>
    obtain ⟨k, rfl, hT⟩ := hrel
    have HT := Lib.hid hT
    have n1 := hT.hi
    have hsz := hT.below.size
    obtain ⟨vs, hO⟩ := hT.own
    have HO := Lib.hid hO
    clear hT hO
    by_cases hlt : k < l.length
    · obtain ⟨b, off, cap', q, c, hp, e1, e2, hin, lb, hnil⟩ := (HV.out.later (HT.out.below.mono (Nat.le_refl _))).at2 hlt
      obtain rfl : p = some ⟨b, off, none⟩ := by cases hp; rfl
      have k1 : (k : Int) < (l.length : Int) := by omega
      clear hp
      have hlk : (l.take k).length = k := by rw [List.length_take]; omega
      have ha10 := HA.out _ (List.getElem_mem hlt)
      have hrow := HO.out.row
      rw [hlk] at hrow
      have HR := Lib.hid hrow
      have hvl := owns_lt hrow
      have HVl := Lib.hid hvl
      have O1 : Hid ((wr.alloc (.cells #[] 3)).drew.ownsRow wr.heap.size 3 1 (.slice (some ⟨wr.heap.size, 0, none⟩) 0 0) 0 []) := Lib.hid (World.ownsRow_lit wr #[] 0 (Nat.le_refl _) (by omega) (by simp))
      have E1 : Hid (Below wr.heap.size wr (wr.alloc (.cells #[] 3)).drew) := Lib.hid (below_drewN ((Below.refl _ _).alloc (Nat.le_refl _) _) 1)
      have R1 : Hid ((wr.alloc (.cells #[] 3)).drew.ownsRow w.heap.size 25 2 u3 k (modC (l.take k) vs)) := Lib.hid (hrow.alloc (.cells #[] 3))
      have R2 : Hid (u3.ownBlock = none ∨ u3.ownBlock ≠ some wr.heap.size) := Lib.hid (.inr (fun e => by have := (hvl _ e).2; omega))
      clear hrow hvl
      cases q with
      | some ad =>
        have HC := Lib.hid (ints_cells hin _ E1.out)
        have C5 : Hid (∀ w1, (wr.alloc (.cells #[] 3)).drew.grownBy w1 (some wr.heap.size) → w1.cell? ⟨b, off + k * 2, none⟩ = some (.int .u8 l[k].c.toNat)) := Lib.hid (fun w1 hg => by
          rw [far_cell hg _ (by have := E1.out.size; exact Nat.lt_of_lt_of_le lb this) (by intro e; have := Option.some.inj e; exact absurd this (Nat.ne_of_lt lb))]
          exact (E1.out.cell lb).trans e1)
        clear hin hnil
        go_wp2_with fail
        go_region_law? (first
          | (refine step_append_own _ rfl (.tmp 17) (.tmp 22) 23 rfl wr.heap.size 3 i0 (.int .i64 0) 1 8 Tryd.underlying23 hi hz0 hz1 hz2 rfl (by decide) (.slice (some ⟨wr.heap.size, 0, none⟩) 0 0) 0 [] rfl O1.out ad l[k].a.length c (valsL l[k].a) rfl (by simp [valsL]) HC.out (vals_one _) (by rw [HM.out]; omega) (by omega) (by simp) ?_
             intro v1 w1 ho1 hg1 hn1 hb1
             simp only [Nat.zero_add, List.nil_append] at ho1
             obtain ⟨g1, c1, rfl⟩ := owned_shape ho1 (fun e => by have := hn1.1 e; simp at this)
             have P1 := Lib.hid ho1
             have P4 : wr.heap.size < w1.heap.size := Nat.lt_of_lt_of_le (Nat.lt_succ_self _) (by have h := hg1.size; rw [show (wr.alloc (.cells #[] 3)).drew.heap.size = wr.heap.size + 1 by simp] at h; exact h)
             have P5 := Lib.hid ((R1.out.kept hg1 R2.out).alloc (.cells #[.int .u8 l[k].c.toNat, .slice (some ⟨g1, 0, none⟩) l[k].a.length c1] 25))
             have P2 := Lib.hid hg1
             have P3 := Lib.hid hb1
             have c5 : w1.cell? ⟨b, off + k * 2, none⟩ = some (.int .u8 l[k].c.toNat) := C5.out w1 hg1
             clear ho1 hg1 hn1 hb1)
          | (refine step_append_own _ rfl (.tmp 11) (.tmp 25) 41 rfl w.heap.size 25 j0 (.agg #[.int .u8 0, .slice none 0 0]) 2 32 Tryd.underlying41 hj hy0 hy1 hy2 rfl (by decide) u3 k (modC (l.take k) vs) rfl P5.out ⟨w1.heap.size, 0, none⟩ 1 1 [.int .u8 l[k].c.toNat, .slice (some ⟨g1, 0, none⟩) l[k].a.length c1] rfl rfl (two_new _ _ _ _) (by simp [Value.oneCell']) (by rw [HM.out]; omega) (by omega) (by simp; omega) ?_
             intro v2 w2 ho2 hg2 hn2 hb2))
        all_goals
          have T1 := Lib.hid (twAt_step (X1 := (wr.alloc (.cells #[] 3)).drew) (X2 := w1) (X4 := w2) hlt HT.out.below HO.out E1.out (by simp) P1.out P2.out ⟨g1, c1, rfl⟩ P3.out (((Below.refl w1.heap.size w1).alloc (Nat.le_refl _) _)) (by simp) ho2 hg2 hb2)
          clear ho2 hg2 hn2 hb2
          go_wp2_with fail
          go_roundw
          case rel => exact ⟨k + 1, by go_num, T1.out⟩
          case measure => simp [intOf]; omega
      | none =>
        obtain ⟨hl0, rfl⟩ := hnil rfl
        have ha0 : l[k].a = [] := List.length_eq_zero_iff.1 hl0
        have e3 : wr.cell? ⟨b, off + k * 2 + 1, none⟩ = some (.slice none 0 0) := by rw [e2, hl0]
        have HL := Lib.hid hl0
        have HA0 := Lib.hid ha0
        clear hin hnil e2 hl0 ha0
        go_wp2_with fail
        go_region_law? (first
          | (refine step_append_nil _ rfl (.tmp 17) (.tmp 22) 23 rfl wr.heap.size 3 i0 1 Tryd.underlying23 hi (.slice (some ⟨wr.heap.size, 0, none⟩) 0 0) 0 [] rfl O1.out rfl ?_
             have P5 := Lib.hid (R1.out.alloc (.cells #[.int .u8 l[k].c.toNat, .slice (some ⟨wr.heap.size, 0, none⟩) 0 0] 25)))
          | (refine step_append_own _ rfl (.tmp 11) (.tmp 25) 41 rfl w.heap.size 25 j0 (.agg #[.int .u8 0, .slice none 0 0]) 2 32 Tryd.underlying41 hj hy0 hy1 hy2 rfl (by decide) u3 k (modC (l.take k) vs) rfl P5.out ⟨wr.heap.size + 1, 0, none⟩ 1 1 [.int .u8 l[k].c.toNat, .slice (some ⟨wr.heap.size, 0, none⟩) 0 0] rfl rfl (fun j u h => by have h9 := two_new (wr.alloc (.cells #[] 3)) _ _ 25 j u h; simpa using h9) (by simp [Value.oneCell']) (by rw [HM.out]; omega) (by omega) (by simp; omega) ?_
             intro v2 w2 ho2 hg2 hn2 hb2))
        all_goals
          have T1 := Lib.hid (twAt_step (X1 := (wr.alloc (.cells #[] 3)).drew) (X2 := (wr.alloc (.cells #[] 3)).drew) (v1 := .slice (some ⟨wr.heap.size, 0, none⟩) 0 0) (X4 := w2) hlt HT.out.below HO.out E1.out (by simp) (by rw [HA0.out]; exact O1.out) (grown_of_below (Below.refl _ _) _) ⟨wr.heap.size, 0, by rw [HL.out]⟩ (.inl rfl) (((Below.refl _ _).alloc (Nat.le_refl _) _)) (by simp) ho2 hg2 hb2)
          clear ho2 hg2 hn2 hb2
          go_wp2_with fail
          go_roundw
          case rel => exact ⟨k + 1, by go_num, T1.out⟩
          case measure => simp [intOf]; omega
    · have hk : k = l.length := by omega
      have HX := Lib.hid hk
      have hm : ¬ (k : Int) < (l.length : Int) := by omega
      clear hk hlt
      go_wp2_with fail
      go_ret
      exact ⟨_, rfl, HT.out.below, vs, by have := HO.out; rw [HX.out, List.take_length] at this; exact this⟩
end Go.Proofs.YtepoaobjcpgilaaDoor
