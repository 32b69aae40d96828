/-
  Words in memory of a call's own: kept, joined, made longer.
-/
import Derived.Test.YtkjjehnfibfngaaWordTwin
import Derived.OneCell
namespace Go.Proofs.Ytkjjehnfibfngaa
open Go.RowKit
open WM
set_option linter.unusedVariables false
set_option linter.unusedSimpArgs false

/-- Args in memory of the call's own, or nil. -/
structure ArgFr (w : World) (base : Nat) (rb : Option Nat) (v : Value) (a : List Int) : Prop where
  own : w.ownsRow base 3 1 v a.length (valsL a)
  apart : v = .slice none 0 0 ∨ v.ownBlock ≠ rb
/-- A word in memory of the call's own, its args as well. -/
structure ModFr (w : World) (base : Nat) (v : Value) (l : List Md) (vs : List Value) : Prop where
  len : vs.length = l.length
  row : w.ownsRow base 27 2 v l.length (modC l vs)
  args : ∀ k, (h : k < l.length) → (h2 : k < vs.length) → ArgFr w base v.ownBlock vs[k] l[k].a
theorem nilOr_of_owned {w : World} {base n size : Nat} {e : TypeId} {v : Value} {xs : List Value} (h : w.ownsRow base e size v n xs) : NilOr v := by
  rcases h.2 with ⟨h1, _⟩ | ⟨g, cap, cur, h1, _⟩
  · exact .inl h1
  · exact .inr ⟨_, _, _, h1⟩
theorem mods_of_rows {w : World} {base : Nat} {v : Value} {l : List Md} {vs : List Value} (hl : vs.length = l.length) (hr : w.ownsRow base 27 2 v l.length (modC l vs)) (ha : ∀ j, (h : j < l.length) → (h2 : j < vs.length) → Ints w vs[j] l[j].a ∧ NilOr vs[j]) : Mods w v l := by
  rcases Nat.eq_zero_or_pos l.length with h0 | h0
  · have e : l = [] := List.length_eq_zero_iff.1 h0
    subst e
    rcases hr.2 with ⟨hv, _⟩ | ⟨g, cap, cur, hv, _⟩
    · rw [hv]; exact .none _ _
    · rw [hv]; exact .none _ _
  · rcases hr.2 with ⟨_, h1⟩ | ⟨g, cap, cur, hv, hb, hg, hc1, hc2, hsz, htake⟩
    · omega
    · rw [hv]
      have hcell : ∀ j, j < l.length * 2 → w.cell? ⟨g, j, none⟩ = (modC l vs)[j]? := by
        intro j hj
        rw [← htake, List.getElem?_take_of_lt hj, Array.getElem?_toList]
        simp [World.cell?, hg]
      refine .some g 0 cap l h0 (lt_of_block hg) fun i hi => ?_
      have hv2 : i < vs.length := by rw [hl]; exact hi
      obtain ⟨g1, g2⟩ := modC_get l vs i hi hv2
      exact ⟨by rw [Nat.zero_add, hcell _ (by omega), g1], vs[i], by rw [Nat.zero_add, hcell _ (by omega), g2], (ha i hi hv2).1, (ha i hi hv2).2⟩
theorem ModFr.mods {w : World} {base : Nat} {v : Value} {l : List Md} {vs : List Value} (h : ModFr w base v l vs) : Mods w v l :=
  mods_of_rows h.len h.row fun j hj hj2 => ⟨ints_of_owned (h.args j hj hj2).own, nilOr_of_owned (h.args j hj hj2).own⟩
theorem ModFr.nilOr {w : World} {base : Nat} {v : Value} {l : List Md} {vs : List Value} (h : ModFr w base v l vs) : NilOr v := nilOr_of_owned h.row
theorem ModFr.mono {w : World} {b b' : Nat} {v : Value} {l : List Md} {vs : List Value} (h : ModFr w b v l vs) (hb : b' ≤ b) : ModFr w b' v l vs :=
  ⟨h.len, owns_mono h.row hb, fun k hk hk2 => ⟨owns_mono (h.args k hk hk2).own hb, (h.args k hk hk2).apart⟩⟩
theorem ArgFr.kept {w w' : World} {base : Nat} {rb rb' row : Option Nat} {v : Value} {a : List Int} (h : ArgFr w base rb v a) (hg : w.grownBy w' row) (hne : v.ownBlock = none ∨ v.ownBlock ≠ row) (hr : v = .slice none 0 0 ∨ v.ownBlock ≠ rb') : ArgFr w' base rb' v a :=
  ⟨h.own.kept hg hne, hr⟩
theorem ModFr.later {w w' : World} {base : Nat} {v : Value} {l : List Md} {vs : List Value} (h : ModFr w base v l vs) (hb : Below w.heap.size w w') : ModFr w' base v l vs :=
  ⟨h.len, h.row.kept (grown_of_below hb none) (by cases hv : v.ownBlock with | none => exact .inl rfl | some g => exact .inr (by simp)), fun k hk hk2 => (h.args k hk hk2).kept (grown_of_below hb none) (by cases hv : vs[k].ownBlock with | none => exact .inl rfl | some g => exact .inr (by simp)) (h.args k hk hk2).apart⟩
theorem modC_set : ∀ (l : List Md) (vs : List Value) (k : Nat) (u : Value), l.length = vs.length → (modC l vs).set (k * 2 + 1) u = modC l (vs.set k u)
  | [], [], k, u, _ => by simp [modC]
  | m :: l, v :: vs, 0, u, _ => rfl
  | m :: l, v :: vs, k + 1, u, h => by
    have := modC_set l vs k u (by simpa using h)
    have e : (k + 1) * 2 + 1 = k * 2 + 1 + 1 + 1 := by omega
    rw [e]; simp only [modC, List.set_cons_succ, this]
  | [], _ :: _, _, _, h => by simp at h
  | _ :: _, [], _, _, h => by simp at h
theorem j_app : ∀ (a b : List Md) (vs us : List Value), a.length = vs.length → modC (a ++ b) (vs ++ us) = modC a vs ++ modC b us
  | [], b, [], us, _ => rfl
  | m :: a, b, v :: vs, us, h => by
    have := j_app a b vs us (by simpa using h)
    simp [modC, this]
  | [], _, _ :: _, _, h => by simp at h
  | _ :: _, _, [], _, h => by simp at h
theorem j_mem : ∀ (l : List Md) (vs : List Value), ∀ u ∈ modC l vs, (∃ x, u = .int .u8 x) ∨ u ∈ vs
  | [], _, u, h => by simp [modC] at h
  | _ :: _, [], u, h => by simp [modC] at h
  | m :: l, v :: vs, u, h => by
    simp only [modC, List.mem_cons] at h
    rcases h with h | h | h
    · exact .inl ⟨_, h⟩
    · exact .inr (by rw [h]; simp)
    · rcases j_mem l vs u h with h | h
      · exact .inl h
      · exact .inr (List.mem_cons_of_mem _ h)
theorem j_one {w : World} {base : Nat} {v : Value} {l : List Md} {vs : List Value} (h : ModFr w base v l vs) : ∀ u ∈ modC l vs, u.oneCell' = true := by
  intro u hu
  rcases j_mem l vs u hu with ⟨x, rfl⟩ | hm
  · rfl
  · obtain ⟨k, hk, rfl⟩ := List.mem_iff_getElem.1 hm
    rcases nilOr_of_owned (h.args k (by rw [← h.len]; exact hk) hk).own with e | ⟨ad, n, c, e⟩
    · rw [e]; rfl
    · rw [e]; rfl
theorem none_or (v : Value) : v.ownBlock = none ∨ v.ownBlock ≠ none := by
  cases hv : v.ownBlock with
  | none => exact .inl rfl
  | some g => exact .inr (by simp)
theorem apart_or {v : Value} {rb : Option Nat} (h : v = .slice none 0 0 ∨ v.ownBlock ≠ rb) : v.ownBlock = none ∨ v.ownBlock ≠ rb := by
  rcases h with e | e
  · left; rw [e]; rfl
  · exact .inr e
theorem argFr_block {w : World} {base : Nat} {rb : Option Nat} {v : Value} {a : List Int} (h : ArgFr w base rb v a) : v = .slice none 0 0 ∨ ∃ q, v.ownBlock = some q ∧ base ≤ q ∧ q < w.heap.size := by
  rcases nilOr_of_owned h.own with e | ⟨ad, n, c, e⟩
  · exact .inl e
  · have := owns_lt h.own ad.block (by rw [e]; rfl)
    exact .inr ⟨ad.block, by rw [e]; rfl, this⟩
theorem modFr_join {X1 X2 X3 : World} {base : Nat} {v1 v2 v3 : Value} {a b : List Md} {vs1 vs2 : List Value}
    (h1 : ModFr X1 base v1 a vs1) (hb : Below X1.heap.size X1 X2) (h2 : ModFr X2 X1.heap.size v2 b vs2) (hbase : base ≤ X1.heap.size)
    (o : X3.ownsRow base 27 2 v3 (a.length + b.length) (modC a vs1 ++ modC b vs2)) (g : X2.grownBy X3 v1.ownBlock) (hv : v3.ownBlock = v1.ownBlock ∨ v3.ownBlock = some X2.heap.size) :
    ModFr X3 base v3 (a ++ b) (vs1 ++ vs2) := by
  have hvl := owns_lt h1.row
  have z := hb.size
  refine ⟨by rw [List.length_append, List.length_append, h1.len, h2.len], by rw [List.length_append, j_app _ _ _ _ h1.len.symm]; exact o, ?_⟩
  intro k hk hk2
  rcases Nat.lt_or_ge k a.length with hl | hl
  · have hl2 : k < vs1.length := by rw [h1.len]; exact hl
    rw [List.getElem_append_left hl, List.getElem_append_left hl2]
    have A := h1.args k hl hl2
    have A2 := A.kept (rb' := v1.ownBlock) (grown_of_below hb none) (none_or _) A.apart
    refine A2.kept g (apart_or A.apart) ?_
    rcases argFr_block A with e | ⟨q, ob, q1, q2⟩
    · exact .inl e
    · right; intro e2
      rcases hv with h | h
      · rcases A.apart with e | e
        · rw [e] at ob; simp [Value.ownBlock] at ob
        · exact e (e2.trans h)
      · rw [ob, h] at e2
        have := Option.some.inj e2; omega
  · have hl2 : vs1.length ≤ k := by rw [h1.len]; exact hl
    have hk3 : k - a.length < b.length := by rw [List.length_append] at hk; omega
    have hk4 : k - vs1.length < vs2.length := by rw [List.length_append] at hk2; omega
    have e1 : (vs1 ++ vs2)[k] = vs2[k - vs1.length] := List.getElem_append_right hl2
    have e2 : (a ++ b)[k] = b[k - a.length] := List.getElem_append_right hl
    have e3 : vs2[k - vs1.length] = vs2[k - a.length]'(by rw [h2.len]; exact hk3) := by congr 1; rw [h1.len]
    rw [e1, e2, e3]
    have A := h2.args (k - a.length) hk3 (by rw [h2.len]; exact hk3)
    have n1 : (vs2[k - a.length]'(by rw [h2.len]; exact hk3)) = .slice none 0 0 ∨ (vs2[k - a.length]'(by rw [h2.len]; exact hk3)).ownBlock ≠ v1.ownBlock := by
      rcases argFr_block A with e | ⟨q, ob, q1, q2⟩
      · exact .inl e
      · right; intro e4
        have := (hvl q (by rw [← e4, ob])).2; omega
    have n3 : (vs2[k - a.length]'(by rw [h2.len]; exact hk3)) = .slice none 0 0 ∨ (vs2[k - a.length]'(by rw [h2.len]; exact hk3)).ownBlock ≠ v3.ownBlock := by
      rcases argFr_block A with e | ⟨q, ob, q1, q2⟩
      · exact .inl e
      · right; intro e4
        rcases hv with h | h
        · have := (hvl q (by rw [← h, ← e4, ob])).2; omega
        · rw [ob, h] at e4
          have := Option.some.inj e4; omega
    have A2 := A.kept (rb' := v3.ownBlock) g (apart_or n1) n3
    exact ⟨owns_mono A2.own hbase, A2.apart⟩
theorem j_cells {w : World} {base : Nat} {ad : Addr} {n c : Nat} {l : List Md} {vs : List Value} (h : ModFr w base (.slice (some ad) n c) l vs) : n = l.length ∧ ∀ j u, (modC l vs)[j]? = some u → w.cell? (ad.add j) = some u := by
  rcases h.row.2 with ⟨hv, _⟩ | ⟨g, cap, cur, hv, hb, hg, hc1, hc2, hsz, htake⟩
  · simp at hv
  · cases hv
    refine ⟨rfl, fun j u hu => ?_⟩
    have hlen := modC_length l vs h.len.symm
    have hj : j < l.length * 2 := by
      have := (List.getElem?_eq_some_iff.1 hu).1; omega
    rw [← htake, List.getElem?_take_of_lt hj, Array.getElem?_toList] at hu
    have e : (⟨g, 0, none⟩ : Addr).add j = ⟨g, j, none⟩ := by
      unfold Addr.add
      rw [Nat.zero_add]
      split
      · rename_i h; rw [h]
      · rfl
    rw [e]
    simp only [World.cell?, hg]
    exact hu
theorem j_append_nil {P : Program} {w : World} {ops : Array Oper} {rest : List Oper} {o : Oper} {a : Act} {Q : Exit → Act → World → Prop} (hg : o.guard = none) (s x : Operand) (t : TypeId) (hop : o.op = Op.call { callee := Callee.builtin Builtin.append, args := #[s, x], argTypes := #[t, t] })
    (base : Nat) (e : TypeId) (i : TypeInfo) (size : Nat) (h1 : P.underlying t = some (.slice e)) (h2 : P.info? e = some i)
    (v : Value) (k : Nat) (xs : List Value) (hs : a.eval s = v) (hown : w.ownsRow base e size v k xs) (hx : a.eval x = .slice none 0 0)
    (hK : wpList P ops Q rest (a.put o.dst v) w) : wpList P ops Q (o :: rest) a w := by
  refine wpList_plain hg fun K hKK => ?_
  have hrun := run_append_owned_none (P := P) (w := w) base t o.type e i size h1 h2 v k xs hown
  unfold Oper.wp
  simp [execOp, hop, resolve, invoke, builtin, hs, hx, hrun, Result.andThen]
  exact hKK _ _ hK
theorem j_slice {w : World} {base : Nat} {v : Value} {l : List Md} {vs : List Value} (h : ModFr w base v l vs) : (v = .slice none 0 0 ∧ l = []) ∨ ∃ ad c, v = .slice (some ad) l.length c := by
  rcases h.row.2 with ⟨hv, h0⟩ | ⟨g, cap, cur, hv, _⟩
  · exact .inl ⟨hv, List.length_eq_zero_iff.1 h0⟩
  · exact .inr ⟨_, _, hv⟩
theorem modFr_nil (w : World) (base : Nat) : ModFr w base (.slice none 0 0) [] [] := ⟨rfl, World.ownsRow_nil _ _ _ _, fun k h => by simp at h⟩
theorem l_own_later {w w1 : World} {base n size : Nat} {e : TypeId} {v : Value} {xs : List Value} (h : w.ownsRow base e size v n xs) (hb : Below w.heap.size w w1) : w1.ownsRow base e size v n xs := by
  refine ⟨h.1, ?_⟩
  rcases h.2 with h1 | ⟨g, cap, cur, h1, h2, h3, h4⟩
  · exact .inl h1
  · exact .inr ⟨g, cap, cur, h1, h2, (hb.block g (lt_of_block h3)).trans h3, h4⟩
theorem modFr_snoc {base : Nat} {wr X3 X4 : World} {l : List Md} {m : Md} {v v' v2 : Value} {vs : List Value} (h : ModFr wr base v l vs) (hbase : base ≤ wr.heap.size) (e : Below wr.heap.size wr X3) (ha : X3.ownsRow wr.heap.size 3 1 v' m.a.length (valsL m.a))
    (o4 : X4.ownsRow base 27 2 v2 (l.length + 1) (modC l vs ++ [.int .u8 m.c.toNat, v'])) (g4 : X3.grownBy X4 v.ownBlock) (b4 : v2.ownBlock = v.ownBlock ∨ v2.ownBlock = some X3.heap.size) : ModFr X4 base v2 (l ++ [m]) (vs ++ [v']) := by
  have hvl := owns_lt h.row
  have z := e.size
  have hal := owns_lt ha
  have n1 : v' = .slice none 0 0 ∨ v'.ownBlock ≠ v.ownBlock := by
    rcases nilOr_of_owned ha with e | ⟨ad, n, c, e⟩
    · exact .inl e
    · right; intro e2
      have e3 : v'.ownBlock = some ad.block := by rw [e]; rfl
      have := (hal _ e3).1
      have := (hvl _ (by rw [← e2, e3])).2
      omega
  have n2 : v' = .slice none 0 0 ∨ v'.ownBlock ≠ v2.ownBlock := by
    rcases nilOr_of_owned ha with e | ⟨ad, n, c, e⟩
    · exact .inl e
    · right; intro e2
      have e3 : v'.ownBlock = some ad.block := by rw [e]; rfl
      rcases b4 with h | h
      · rcases n1 with e4 | e4
        · rw [e] at e4; simp at e4
        · exact e4 (e2.trans h)
      · have := (hal _ e3).2
        rw [e3, h] at e2
        have := Option.some.inj e2; omega
  refine ⟨by rw [List.length_append, List.length_append, h.len]; rfl, by rw [List.length_append, modC_snoc _ _ _ _ h.len.symm]; exact o4, ?_⟩
  intro k hk hk2
  rw [List.length_append, List.length_singleton] at hk
  rcases Nat.lt_or_eq_of_le (Nat.le_of_lt_succ hk) with hlt | heq
  · have hk3 : k < vs.length := by rw [h.len]; exact hlt
    rw [List.getElem_append_left hlt, List.getElem_append_left hk3]
    have A := h.args k hlt hk3
    have A2 := A.kept (rb' := v.ownBlock) (grown_of_below e none) (none_or _) A.apart
    refine A2.kept g4 (apart_or A.apart) ?_
    rcases argFr_block A with e | ⟨q, ob, q1, q2⟩
    · exact .inl e
    · right; intro e2
      rcases b4 with h | h
      · rcases A.apart with e | e
        · rw [e] at ob; simp [Value.ownBlock] at ob
        · exact e (e2.trans h)
      · rw [ob, h] at e2
        have := Option.some.inj e2; omega
  · subst heq
    have a1 : (vs ++ [v'])[l.length]'hk2 = v' := by rw [List.getElem_append_right (by rw [h.len]; exact Nat.le_refl _)]; simp
    have a2 : (l ++ [m])[l.length]'(by simp) = m := by simp
    rw [a1, a2]
    exact ⟨owns_mono (ha.kept g4 (apart_or n1)) hbase, n2⟩
end Go.Proofs.Ytkjjehnfibfngaa
