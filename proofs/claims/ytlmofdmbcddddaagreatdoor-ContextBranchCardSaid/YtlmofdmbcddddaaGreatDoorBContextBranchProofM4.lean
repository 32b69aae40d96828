/-
  Texts of the proof, merged: BWordFr, BWordPrF, BWordStM, BWordPrG, BWordPrH, BWordPrI, BWordPrJ, BWordLs, BWordUni, BWordLsB.
-/
import Derived.Test.YtlmofdmbcddddaaGreatDoorBContextBranchProofM3
import Derived.OneCell
import Derived.Lib.QuietBelow
import Derived.Test.YtlmofdmbcddddaaGreatDoorBContextBranchProofM2
namespace Go.Proofs.YtlmofdmbcddddaaGreatDoor
open Go.RowKit
open WM
set_option linter.unusedVariables false
set_option linter.unusedSimpArgs false

/-- Args in memory of the call's own, or nil. -/
structure ArgFr (w : World) (base : Nat) (rb : Option Nat) (v : Value) (a : List Int) : Prop where
  own : w.ownsRow base 3 1 v a.length (valsL a)
  apart : v = .slice none 0 0 ∨ v.ownBlock ≠ rb
/-- A word in memory of the call's own, its args as well. -/
structure ModFr (w : World) (base : Nat) (v : Value) (l : List Md) (vs : List Value) : Prop where
  len : vs.length = l.length
  row : w.ownsRow base 27 2 v l.length (modC l vs)
  args : ∀ k, (h : k < l.length) → (h2 : k < vs.length) → ArgFr w base v.ownBlock vs[k] l[k].a
theorem nilOr_of_owned {w : World} {base n size : Nat} {e : TypeId} {v : Value} {xs : List Value} (h : w.ownsRow base e size v n xs) : NilOr v := by
  rcases h.2 with ⟨h1, _⟩ | ⟨g, cap, cur, h1, _⟩
  · exact .inl h1
  · exact .inr ⟨_, _, _, h1⟩
theorem mods_of_rows {w : World} {base : Nat} {v : Value} {l : List Md} {vs : List Value} (hl : vs.length = l.length) (hr : w.ownsRow base 27 2 v l.length (modC l vs)) (ha : ∀ j, (h : j < l.length) → (h2 : j < vs.length) → Ints w vs[j] l[j].a ∧ NilOr vs[j]) : Mods w v l := by
  rcases Nat.eq_zero_or_pos l.length with h0 | h0
  · have e : l = [] := List.length_eq_zero_iff.1 h0
    subst e
    rcases hr.2 with ⟨hv, _⟩ | ⟨g, cap, cur, hv, _⟩
    · rw [hv]; exact .none _ _
    · rw [hv]; exact .none _ _
  · rcases hr.2 with ⟨_, h1⟩ | ⟨g, cap, cur, hv, hb, hg, hc1, hc2, hsz, htake⟩
    · omega
    · rw [hv]
      have hcell : ∀ j, j < l.length * 2 → w.cell? ⟨g, j, none⟩ = (modC l vs)[j]? := by
        intro j hj
        rw [← htake, List.getElem?_take_of_lt hj, Array.getElem?_toList]
        simp [World.cell?, hg]
      refine .some g 0 cap l h0 (lt_of_block hg) fun i hi => ?_
      have hv2 : i < vs.length := by rw [hl]; exact hi
      obtain ⟨g1, g2⟩ := modC_get l vs i hi hv2
      exact ⟨by rw [Nat.zero_add, hcell _ (by omega), g1], vs[i], by rw [Nat.zero_add, hcell _ (by omega), g2], (ha i hi hv2).1, (ha i hi hv2).2⟩
theorem ModFr.mods {w : World} {base : Nat} {v : Value} {l : List Md} {vs : List Value} (h : ModFr w base v l vs) : Mods w v l :=
  mods_of_rows h.len h.row fun j hj hj2 => ⟨ints_of_owned (h.args j hj hj2).own, nilOr_of_owned (h.args j hj hj2).own⟩
theorem ModFr.nilOr {w : World} {base : Nat} {v : Value} {l : List Md} {vs : List Value} (h : ModFr w base v l vs) : NilOr v := nilOr_of_owned h.row
theorem ModFr.mono {w : World} {b b' : Nat} {v : Value} {l : List Md} {vs : List Value} (h : ModFr w b v l vs) (hb : b' ≤ b) : ModFr w b' v l vs :=
  ⟨h.len, owns_mono h.row hb, fun k hk hk2 => ⟨owns_mono (h.args k hk hk2).own hb, (h.args k hk hk2).apart⟩⟩
theorem ArgFr.kept {w w' : World} {base : Nat} {rb rb' row : Option Nat} {v : Value} {a : List Int} (h : ArgFr w base rb v a) (hg : w.grownBy w' row) (hne : v.ownBlock = none ∨ v.ownBlock ≠ row) (hr : v = .slice none 0 0 ∨ v.ownBlock ≠ rb') : ArgFr w' base rb' v a :=
  ⟨h.own.kept hg hne, hr⟩
theorem ModFr.later {w w' : World} {base : Nat} {v : Value} {l : List Md} {vs : List Value} (h : ModFr w base v l vs) (hb : Below w.heap.size w w') : ModFr w' base v l vs :=
  ⟨h.len, h.row.kept (grown_of_below hb none) (by cases hv : v.ownBlock with | none => exact .inl rfl | some g => exact .inr (by simp)), fun k hk hk2 => (h.args k hk hk2).kept (grown_of_below hb none) (by cases hv : vs[k].ownBlock with | none => exact .inl rfl | some g => exact .inr (by simp)) (h.args k hk hk2).apart⟩
theorem modC_set : ∀ (l : List Md) (vs : List Value) (k : Nat) (u : Value), l.length = vs.length → (modC l vs).set (k * 2 + 1) u = modC l (vs.set k u)
  | [], [], k, u, _ => by simp [modC]
  | m :: l, v :: vs, 0, u, _ => rfl
  | m :: l, v :: vs, k + 1, u, h => by
    have := modC_set l vs k u (by simpa using h)
    have e : (k + 1) * 2 + 1 = k * 2 + 1 + 1 + 1 := by omega
    rw [e]; simp only [modC, List.set_cons_succ, this]
  | [], _ :: _, _, _, h => by simp at h
  | _ :: _, [], _, _, h => by simp at h
theorem j_app : ∀ (a b : List Md) (vs us : List Value), a.length = vs.length → modC (a ++ b) (vs ++ us) = modC a vs ++ modC b us
  | [], b, [], us, _ => rfl
  | m :: a, b, v :: vs, us, h => by
    have := j_app a b vs us (by simpa using h)
    simp [modC, this]
  | [], _, _ :: _, _, h => by simp at h
  | _ :: _, _, [], _, h => by simp at h
theorem j_mem : ∀ (l : List Md) (vs : List Value), ∀ u ∈ modC l vs, (∃ x, u = .int .u8 x) ∨ u ∈ vs
  | [], _, u, h => by simp [modC] at h
  | _ :: _, [], u, h => by simp [modC] at h
  | m :: l, v :: vs, u, h => by
    simp only [modC, List.mem_cons] at h
    rcases h with h | h | h
    · exact .inl ⟨_, h⟩
    · exact .inr (by rw [h]; simp)
    · rcases j_mem l vs u h with h | h
      · exact .inl h
      · exact .inr (List.mem_cons_of_mem _ h)
theorem j_one {w : World} {base : Nat} {v : Value} {l : List Md} {vs : List Value} (h : ModFr w base v l vs) : ∀ u ∈ modC l vs, u.oneCell' = true := by
  intro u hu
  rcases j_mem l vs u hu with ⟨x, rfl⟩ | hm
  · rfl
  · obtain ⟨k, hk, rfl⟩ := List.mem_iff_getElem.1 hm
    rcases nilOr_of_owned (h.args k (by rw [← h.len]; exact hk) hk).own with e | ⟨ad, n, c, e⟩
    · rw [e]; rfl
    · rw [e]; rfl
theorem none_or (v : Value) : v.ownBlock = none ∨ v.ownBlock ≠ none := by
  cases hv : v.ownBlock with
  | none => exact .inl rfl
  | some g => exact .inr (by simp)
theorem apart_or {v : Value} {rb : Option Nat} (h : v = .slice none 0 0 ∨ v.ownBlock ≠ rb) : v.ownBlock = none ∨ v.ownBlock ≠ rb := by
  rcases h with e | e
  · left; rw [e]; rfl
  · exact .inr e
theorem argFr_block {w : World} {base : Nat} {rb : Option Nat} {v : Value} {a : List Int} (h : ArgFr w base rb v a) : v = .slice none 0 0 ∨ ∃ q, v.ownBlock = some q ∧ base ≤ q ∧ q < w.heap.size := by
  rcases nilOr_of_owned h.own with e | ⟨ad, n, c, e⟩
  · exact .inl e
  · have := owns_lt h.own ad.block (by rw [e]; rfl)
    exact .inr ⟨ad.block, by rw [e]; rfl, this⟩
theorem modFr_join {X1 X2 X3 : World} {base : Nat} {v1 v2 v3 : Value} {a b : List Md} {vs1 vs2 : List Value}
    (h1 : ModFr X1 base v1 a vs1) (hb : Below X1.heap.size X1 X2) (h2 : ModFr X2 X1.heap.size v2 b vs2) (hbase : base ≤ X1.heap.size)
    (o : X3.ownsRow base 27 2 v3 (a.length + b.length) (modC a vs1 ++ modC b vs2)) (g : X2.grownBy X3 v1.ownBlock) (hv : v3.ownBlock = v1.ownBlock ∨ v3.ownBlock = some X2.heap.size) :
    ModFr X3 base v3 (a ++ b) (vs1 ++ vs2) := by
  have hvl := owns_lt h1.row
  have z := hb.size
  refine ⟨by rw [List.length_append, List.length_append, h1.len, h2.len], by rw [List.length_append, j_app _ _ _ _ h1.len.symm]; exact o, ?_⟩
  intro k hk hk2
  rcases Nat.lt_or_ge k a.length with hl | hl
  · have hl2 : k < vs1.length := by rw [h1.len]; exact hl
    rw [List.getElem_append_left hl, List.getElem_append_left hl2]
    have A := h1.args k hl hl2
    have A2 := A.kept (rb' := v1.ownBlock) (grown_of_below hb none) (none_or _) A.apart
    refine A2.kept g (apart_or A.apart) ?_
    rcases argFr_block A with e | ⟨q, ob, q1, q2⟩
    · exact .inl e
    · right; intro e2
      rcases hv with h | h
      · rcases A.apart with e | e
        · rw [e] at ob; simp [Value.ownBlock] at ob
        · exact e (e2.trans h)
      · rw [ob, h] at e2
        have := Option.some.inj e2; omega
  · have hl2 : vs1.length ≤ k := by rw [h1.len]; exact hl
    have hk3 : k - a.length < b.length := by rw [List.length_append] at hk; omega
    have hk4 : k - vs1.length < vs2.length := by rw [List.length_append] at hk2; omega
    have e1 : (vs1 ++ vs2)[k] = vs2[k - vs1.length] := List.getElem_append_right hl2
    have e2 : (a ++ b)[k] = b[k - a.length] := List.getElem_append_right hl
    have e3 : vs2[k - vs1.length] = vs2[k - a.length]'(by rw [h2.len]; exact hk3) := by congr 1; rw [h1.len]
    rw [e1, e2, e3]
    have A := h2.args (k - a.length) hk3 (by rw [h2.len]; exact hk3)
    have n1 : (vs2[k - a.length]'(by rw [h2.len]; exact hk3)) = .slice none 0 0 ∨ (vs2[k - a.length]'(by rw [h2.len]; exact hk3)).ownBlock ≠ v1.ownBlock := by
      rcases argFr_block A with e | ⟨q, ob, q1, q2⟩
      · exact .inl e
      · right; intro e4
        have := (hvl q (by rw [← e4, ob])).2; omega
    have n3 : (vs2[k - a.length]'(by rw [h2.len]; exact hk3)) = .slice none 0 0 ∨ (vs2[k - a.length]'(by rw [h2.len]; exact hk3)).ownBlock ≠ v3.ownBlock := by
      rcases argFr_block A with e | ⟨q, ob, q1, q2⟩
      · exact .inl e
      · right; intro e4
        rcases hv with h | h
        · have := (hvl q (by rw [← h, ← e4, ob])).2; omega
        · rw [ob, h] at e4
          have := Option.some.inj e4; omega
    have A2 := A.kept (rb' := v3.ownBlock) g (apart_or n1) n3
    exact ⟨owns_mono A2.own hbase, A2.apart⟩
theorem j_cells {w : World} {base : Nat} {ad : Addr} {n c : Nat} {l : List Md} {vs : List Value} (h : ModFr w base (.slice (some ad) n c) l vs) : n = l.length ∧ ∀ j u, (modC l vs)[j]? = some u → w.cell? (ad.add j) = some u := by
  rcases h.row.2 with ⟨hv, _⟩ | ⟨g, cap, cur, hv, hb, hg, hc1, hc2, hsz, htake⟩
  · simp at hv
  · cases hv
    refine ⟨rfl, fun j u hu => ?_⟩
    have hlen := modC_length l vs h.len.symm
    have hj : j < l.length * 2 := by
      have := (List.getElem?_eq_some_iff.1 hu).1; omega
    rw [← htake, List.getElem?_take_of_lt hj, Array.getElem?_toList] at hu
    have e : (⟨g, 0, none⟩ : Addr).add j = ⟨g, j, none⟩ := by
      unfold Addr.add
      rw [Nat.zero_add]
      split
      · rename_i h; rw [h]
      · rfl
    rw [e]
    simp only [World.cell?, hg]
    exact hu
theorem j_append_nil {P : Program} {w : World} {ops : Array Oper} {rest : List Oper} {o : Oper} {a : Act} {Q : Exit → Act → World → Prop} (hg : o.guard = none) (s x : Operand) (t : TypeId) (hop : o.op = Op.call { callee := Callee.builtin Builtin.append, args := #[s, x], argTypes := #[t, t] })
    (base : Nat) (e : TypeId) (i : TypeInfo) (size : Nat) (h1 : P.underlying t = some (.slice e)) (h2 : P.info? e = some i)
    (v : Value) (k : Nat) (xs : List Value) (hs : a.eval s = v) (hown : w.ownsRow base e size v k xs) (hx : a.eval x = .slice none 0 0)
    (hK : wpList P ops Q rest (a.put o.dst v) w) : wpList P ops Q (o :: rest) a w := by
  refine wpList_plain hg fun K hKK => ?_
  have hrun := run_append_owned_none (P := P) (w := w) base t o.type e i size h1 h2 v k xs hown
  unfold Oper.wp
  simp [execOp, hop, resolve, invoke, builtin, hs, hx, hrun, Result.andThen]
  exact hKK _ _ hK
theorem j_slice {w : World} {base : Nat} {v : Value} {l : List Md} {vs : List Value} (h : ModFr w base v l vs) : (v = .slice none 0 0 ∧ l = []) ∨ ∃ ad c, v = .slice (some ad) l.length c := by
  rcases h.row.2 with ⟨hv, h0⟩ | ⟨g, cap, cur, hv, _⟩
  · exact .inl ⟨hv, List.length_eq_zero_iff.1 h0⟩
  · exact .inr ⟨_, _, hv⟩
theorem modFr_nil (w : World) (base : Nat) : ModFr w base (.slice none 0 0) [] [] := ⟨rfl, World.ownsRow_nil _ _ _ _, fun k h => by simp at h⟩
theorem l_own_later {w w1 : World} {base n size : Nat} {e : TypeId} {v : Value} {xs : List Value} (h : w.ownsRow base e size v n xs) (hb : Below w.heap.size w w1) : w1.ownsRow base e size v n xs := by
  refine ⟨h.1, ?_⟩
  rcases h.2 with h1 | ⟨g, cap, cur, h1, h2, h3, h4⟩
  · exact .inl h1
  · exact .inr ⟨g, cap, cur, h1, h2, (hb.block g (lt_of_block h3)).trans h3, h4⟩
theorem modFr_snoc {base : Nat} {wr X3 X4 : World} {l : List Md} {m : Md} {v v' v2 : Value} {vs : List Value} (h : ModFr wr base v l vs) (hbase : base ≤ wr.heap.size) (e : Below wr.heap.size wr X3) (ha : X3.ownsRow wr.heap.size 3 1 v' m.a.length (valsL m.a))
    (o4 : X4.ownsRow base 27 2 v2 (l.length + 1) (modC l vs ++ [.int .u8 m.c.toNat, v'])) (g4 : X3.grownBy X4 v.ownBlock) (b4 : v2.ownBlock = v.ownBlock ∨ v2.ownBlock = some X3.heap.size) : ModFr X4 base v2 (l ++ [m]) (vs ++ [v']) := by
  have hvl := owns_lt h.row
  have z := e.size
  have hal := owns_lt ha
  have n1 : v' = .slice none 0 0 ∨ v'.ownBlock ≠ v.ownBlock := by
    rcases nilOr_of_owned ha with e | ⟨ad, n, c, e⟩
    · exact .inl e
    · right; intro e2
      have e3 : v'.ownBlock = some ad.block := by rw [e]; rfl
      have := (hal _ e3).1
      have := (hvl _ (by rw [← e2, e3])).2
      omega
  have n2 : v' = .slice none 0 0 ∨ v'.ownBlock ≠ v2.ownBlock := by
    rcases nilOr_of_owned ha with e | ⟨ad, n, c, e⟩
    · exact .inl e
    · right; intro e2
      have e3 : v'.ownBlock = some ad.block := by rw [e]; rfl
      rcases b4 with h | h
      · rcases n1 with e4 | e4
        · rw [e] at e4; simp at e4
        · exact e4 (e2.trans h)
      · have := (hal _ e3).2
        rw [e3, h] at e2
        have := Option.some.inj e2; omega
  refine ⟨by rw [List.length_append, List.length_append, h.len]; rfl, by rw [List.length_append, modC_snoc _ _ _ _ h.len.symm]; exact o4, ?_⟩
  intro k hk hk2
  rw [List.length_append, List.length_singleton] at hk
  rcases Nat.lt_or_eq_of_le (Nat.le_of_lt_succ hk) with hlt | heq
  · have hk3 : k < vs.length := by rw [h.len]; exact hlt
    rw [List.getElem_append_left hlt, List.getElem_append_left hk3]
    have A := h.args k hlt hk3
    have A2 := A.kept (rb' := v.ownBlock) (grown_of_below e none) (none_or _) A.apart
    refine A2.kept g4 (apart_or A.apart) ?_
    rcases argFr_block A with e | ⟨q, ob, q1, q2⟩
    · exact .inl e
    · right; intro e2
      rcases b4 with h | h
      · rcases A.apart with e | e
        · rw [e] at ob; simp [Value.ownBlock] at ob
        · exact e (e2.trans h)
      · rw [ob, h] at e2
        have := Option.some.inj e2; omega
  · subst heq
    have a1 : (vs ++ [v'])[l.length]'hk2 = v' := by rw [List.getElem_append_right (by rw [h.len]; exact Nat.le_refl _)]; simp
    have a2 : (l ++ [m])[l.length]'(by simp) = m := by simp
    rw [a1, a2]
    exact ⟨owns_mono (ha.kept g4 (apart_or n1)) hbase, n2⟩
end Go.Proofs.YtlmofdmbcddddaaGreatDoor
namespace Go.Proofs.YtlmofdmbcddddaaGreatDoor
open Go.RowKit
open WM
set_option linter.unusedVariables false
set_option linter.unusedSimpArgs false

/-- Where Twin stands. -/
structure TpAt (w : World) (l : List Md) (v : Value) (k : Nat) (vs : List Value) (wr : World) : Prop where
  hi : k ≤ l.length
  below : Below w.heap.size w wr
  len : vs.length = l.length
  row : wr.ownsRow w.heap.size 27 2 v l.length (modC l vs)
  new : ∀ j, (h : j < l.length) → (h2 : j < vs.length) → j < k → ArgFr wr w.heap.size v.ownBlock vs[j] l[j].a
  old : ∀ j, (h : j < l.length) → (h2 : j < vs.length) → k ≤ j → Ints w vs[j] l[j].a ∧ NilOr vs[j]
theorem TpAt.fin {w wr : World} {l : List Md} {v : Value} {vs : List Value} (h : TpAt w l v l.length vs wr) : ModFr wr w.heap.size v l vs := ⟨h.len, h.row, fun k hk hk2 => h.new k hk hk2 hk⟩
theorem tpAt_step {w wr w2 : World} {l : List Md} {g cap : Nat} {k : Nat} {vs : List Value} {v' : Value} (h : TpAt w l (.slice (some ⟨g, 0, none⟩) l.length cap) k vs wr) (hk : k < l.length)
    (hb : Below wr.heap.size wr w2) (ho : w2.ownsRow wr.heap.size 3 1 v' l[k].a.length (valsL l[k].a)) :
    TpAt w l (.slice (some ⟨g, 0, none⟩) l.length cap) (k + 1) (vs.set k v') (w2.setCell ⟨g, k * 2 + 1, none⟩ v') := by
  have hg : w.heap.size ≤ g ∧ g < wr.heap.size := owns_lt h.row g rfl
  have g12 := grown_of_below hb none
  have r2 := h.row.kept g12 (.inr (by simp [Value.ownBlock]))
  obtain ⟨r3, g23⟩ := r2.stored (k * 2 + 1) v'
  rw [modC_set l vs k v' h.len.symm] at r3
  have hlt := owns_lt ho
  have hk2 : k < vs.length := by rw [h.len]; exact hk
  have nk : v' = .slice none 0 0 ∨ v'.ownBlock ≠ some g := by
    rcases nilOr_of_owned ho with e | ⟨ad, n, c, e⟩
    · exact .inl e
    · right; intro e2
      have := (hlt g e2).1; omega
  have nk2 : ∀ {v : Value} {rb : Option Nat}, v = .slice none 0 0 ∨ v.ownBlock ≠ rb → v.ownBlock = none ∨ v.ownBlock ≠ rb := by
    rintro v rb (e | e)
    · left; rw [e]; rfl
    · exact .inr e
  have none_or : ∀ v : Value, v.ownBlock = none ∨ v.ownBlock ≠ none := fun v => by
    cases hv : v.ownBlock with
    | none => exact .inl rfl
    | some g => exact .inr (by simp)
  refine ⟨hk, (h.below.trans (hb.mono h.below.size)).setCell hg.1 _, by rw [List.length_set]; exact h.len, r3, ?_, ?_⟩
  · intro j hj hj2 hjk
    rw [List.length_set] at hj2
    by_cases e : k = j
    · subst e
      rw [List.getElem_set_self]
      exact ⟨(owns_mono ho h.below.size).kept g23 (nk2 nk), nk⟩
    · rw [List.getElem_set_ne e]
      have A := h.new j hj hj2 (by omega)
      exact (A.kept g12 (none_or _) A.apart).kept g23 (nk2 A.apart) A.apart
  · intro j hj hj2 hjk
    rw [List.length_set] at hj2
    rw [List.getElem_set_ne (by omega)]
    exact h.old j hj hj2 (by omega)
/-- How Twin ends. -/
def TwEnd (l : List Md) (w : World) (e : Ending) (w' : World) : Prop := ∃ v' vs, e = .returned v' ∧ Below w.heap.size w w' ∧ ModFr w' w.heap.size v' l vs
set_option maxRecDepth 100000 in
set_option maxHeartbeats 1600000 in
theorem ptwin_any (v : Value) (l : List Md) (hmax : l.length ≤ 50000) (hargs : ∀ m ∈ l, m.a.length ≤ 1000000) (w : World) (hv : Mods w v l) (hnil : NilOr v) :
    Calls Tryz.prog 38 #[v] w (TwEnd l w) := by
  have HK := Lib.hid (copiedm_any v l hmax w hv hnil)
  have HA := Lib.hid hargs
  clear hv hnil hargs
  go_enter Tryz.func38, Tryz.ntmps38
  go_wp2_with fail
  refine HK.out.mono ?_
  rintro e w1 ⟨v1, vs, rfl, hb, hl, ho, hi⟩
  have S0 : TpAt w l v1 0 vs w1 := ⟨Nat.zero_le _, hb, hl, ho, fun j _ _ h => by omega, fun j h h2 _ => hi j h h2⟩
  rcases nilOr_of_owned ho with rfl | ⟨ad, n, c, rfl⟩
  · have h0 : l.length = 0 := by
      rcases ho.2 with ⟨_, h⟩ | ⟨g, cap, cur, h, _⟩
      · exact h
      · simp at h
    have HE : Hid (ModFr w1 w.heap.size (.slice none 0 0) l vs) := Lib.hid (TpAt.fin (by rw [h0]; exact S0))
    have HB := Lib.hid hb
    clear hb hl ho hi S0 h0 HK
    go_wp2_with fail
    go_loop [9] (fun i => i = .int .i64 0) (fun _ => 0)
    case atStart => rfl
    case round =>
      subst hrel
      go_wp2_with fail
      go_ret
      exact ⟨_, vs, rfl, HB.out, HE.out⟩
  · obtain ⟨g, cap, hg⟩ : ∃ g cap, Value.slice (some ad) n c = .slice (some ⟨g, 0, none⟩) l.length cap := by
      rcases ho.2 with ⟨h, _⟩ | ⟨g, cap, cur, h, _⟩
      · simp at h
      · exact ⟨g, cap, h⟩
    rw [hg] at S0 ⊢
    have HS0 := Lib.hid S0
    clear hb hl ho hi S0 hg HK
    go_wp2_with fail
    go_loopw [9] (fun i wr => ∃ (k : Nat) (us : List Value), i = .int .i64 k ∧ TpAt w l (.slice (some ⟨g, 0, none⟩) l.length cap) k us wr) (fun i _ => l.length - (intOf i).toNat)
    case atStart => exact ⟨0, vs, rfl, HS0.out⟩
    case round =>
      obtain ⟨k, us, rfl, hS⟩ := hrel
      have HS := Lib.hid hS
      have n1 := hS.hi
      by_cases hlt : k < l.length
      · have k1 : (k : Int) < (l.length : Int) := by omega
        have hk2 : k < us.length := by rw [hS.len]; exact hlt
        have hgl := owns_lt hS.row g rfl
        have q1 := hS.row.cellAt (k * 2 + 1) (by omega)
        rw [(modC_get l us k hlt hk2).2] at q1
        have hold := hS.old k hlt hk2 (Nat.le_refl _)
        have HKI := Lib.hid (copiedi_any us[k] l[k].a (HA.out _ (List.getElem_mem hlt)) wr (hold.1.later (hS.below.mono (Nat.le_refl _))) hold.2)
        have HF := Lib.hid (fun (w2 : World) (hb : Below wr.heap.size wr w2) => (hS.row.kept (grown_of_below hb none) (.inr (by simp [Value.ownBlock]))))
        have HSt := Lib.hid (fun w2 v' hb ho => tpAt_step (w2 := w2) (v' := v') hS hlt hb ho)
        obtain ⟨p1, c1, hu⟩ := hold.1.slice
        rw [hu] at q1 HKI
        clear hS hold hu
        go_wp2_with fail
        refine HKI.out.mono ?_
        rintro e w2 ⟨v', rfl, hb, ho⟩
        have HT := Lib.hid (HSt.out w2 v' hb ho)
        have f1 := (HF.out w2 hb).frozenAt (k * 2 + 1)
        have q2 := (HF.out w2 hb).cellAt (k * 2 + 1) (by omega)
        rw [(modC_get l us k hlt hk2).2] at q2
        have l2 := Nat.lt_of_lt_of_le hgl.2 hb.size
        obtain ⟨p2, n2, c2, rfl⟩ : ∃ p n c, v' = .slice p n c := by
          rcases nilOr_of_owned ho with h | ⟨ad, n, c, h⟩
          · exact ⟨_, _, _, h⟩
          · exact ⟨_, _, _, h⟩
        generalize us[k] = z at q2
        clear hb ho
        go_wp2_with fail
        go_roundw
        case rel => exact ⟨k + 1, _, by go_num, HT.out⟩
        case measure => simp [intOf]; omega
      · have hk : k = l.length := by omega
        have HE : Hid (ModFr wr w.heap.size (.slice (some ⟨g, 0, none⟩) l.length cap) l us) := Lib.hid (TpAt.fin (by rw [← hk]; exact hk ▸ hS))
        have HB := Lib.hid hS.below
        have k1 : ¬ (k : Int) < (l.length : Int) := by omega
        clear hS
        go_wp2_with fail
        go_ret
        exact ⟨_, us, rfl, HB.out, HE.out⟩
end Go.Proofs.YtlmofdmbcddddaaGreatDoor
namespace Go.Proofs.YtlmofdmbcddddaaGreatDoor
open Go.RowKit
open WM
set_option linter.unusedVariables false
set_option linter.unusedSimpArgs false

/-- Modules in a row of the call's own, their args anywhere. -/
theorem mods_of_row {w : World} {base : Nat} {v : Value} {l : List Md} {vs : List Value} (hl : vs.length = l.length) (hr : w.ownsRow base 27 2 v l.length (modC l vs)) (ha : ∀ j, (h : j < l.length) → (h2 : j < vs.length) → Ints w vs[j] l[j].a ∧ NilOr vs[j]) : Mods w v l := by
  rcases Nat.eq_zero_or_pos l.length with h0 | h0
  · have e : l = [] := List.length_eq_zero_iff.1 h0
    subst e
    rcases hr.2 with ⟨hv, _⟩ | ⟨g, cap, cur, hv, _⟩
    · rw [hv]; exact .none _ _
    · rw [hv]; exact .none _ _
  · rcases hr.2 with ⟨_, h1⟩ | ⟨g, cap, cur, hv, hb, hg, hc1, hc2, hsz, htake⟩
    · omega
    · rw [hv]
      have hcell : ∀ j, j < l.length * 2 → w.cell? ⟨g, j, none⟩ = (modC l vs)[j]? := by
        intro j hj
        rw [← htake, List.getElem?_take_of_lt hj, Array.getElem?_toList]
        simp [World.cell?, hg]
      refine .some g 0 cap l h0 (lt_of_block hg) fun i hi => ?_
      have hv2 : i < vs.length := by rw [hl]; exact hi
      obtain ⟨g1, g2⟩ := modC_get l vs i hi hv2
      exact ⟨by rw [Nat.zero_add, hcell _ (by omega), g1], vs[i], by rw [Nat.zero_add, hcell _ (by omega), g2], (ha i hi hv2).1, (ha i hi hv2).2⟩
/-- Where Strip stands. -/
structure StAt (w : World) (l : List Md) (k : Nat) (v : Value) (wr : World) : Prop where
  hi : k ≤ l.length
  below : Below w.heap.size w wr
  own : ∃ vs, vs.length = (trunk l k).length ∧ wr.ownsRow w.heap.size 27 2 v (trunk l k).length (modC (trunk l k) vs) ∧ ∀ j, (h : j < (trunk l k).length) → (h2 : j < vs.length) → Ints w vs[j] (trunk l k)[j].a ∧ NilOr vs[j]
theorem stAt_start (w : World) (l : List Md) {wr : World} (hb : Below w.heap.size w wr) : StAt w l 0 (.slice none 0 0) wr :=
  ⟨Nat.zero_le _, hb, [], rfl, by rw [trunk_zero]; simpa [modC] using World.ownsRow_nil wr w.heap.size 27 2, fun j h => by rw [trunk_zero] at h; simp at h⟩
theorem stAt_mods {w wr : World} {l : List Md} {k : Nat} {v : Value} (h : StAt w l k v wr) : Mods wr v (trunk l k) := by
  obtain ⟨vs, h1, h2, h3⟩ := h.own
  exact mods_of_row h1 h2 fun j hj hj2 => ⟨(h3 j hj hj2).1.later h.below, (h3 j hj hj2).2⟩
theorem stAt_keep {w wr : World} {l : List Md} {k : Nat} {v : Value} (h : StAt w l k v wr) (hk : k < l.length) (hc : (decide (dep (l.take (k + 1)) = 0) && !(l[k].c == 93)) = false) : StAt w l (k + 1) v wr := by
  have e : trunk l (k + 1) = trunk l k := by rw [trunk_succ hk, if_neg (by rw [hc]; simp)]
  exact ⟨hk, h.below, by rw [e]; exact h.own⟩
theorem stAt_step {w wr X3 X4 : World} {l : List Md} {k : Nat} {v v2 : Value} {vs : List Value} {sv : Value} (hk : k < l.length) (hc : (decide (dep (l.take (k + 1)) = 0) && !(l[k].c == 93)) = true)
    (hB : Below w.heap.size w wr) (h1 : vs.length = (trunk l k).length) (h2 : wr.ownsRow w.heap.size 27 2 v (trunk l k).length (modC (trunk l k) vs)) (h3 : ∀ j, (h : j < (trunk l k).length) → (h2 : j < vs.length) → Ints w vs[j] (trunk l k)[j].a ∧ NilOr vs[j])
    (hi : Ints w sv l[k].a) (hn : NilOr sv) (e3 : Below wr.heap.size wr X3)
    (o4 : X4.ownsRow w.heap.size 27 2 v2 ((trunk l k).length + 1) (modC (trunk l k) vs ++ [.int .u8 l[k].c.toNat, sv])) (g4 : X3.grownBy X4 v.ownBlock) : StAt w l (k + 1) v2 X4 := by
  have e : trunk l (k + 1) = trunk l k ++ [l[k]] := by rw [trunk_succ hk, if_pos hc]
  have hvl := owns_lt h2
  have b13 : Below w.heap.size w X3 := hB.trans (e3.mono hB.size)
  refine ⟨hk, b13.grown g4 b13.size (fun j e => (hvl j e).1), vs ++ [sv], by rw [e]; simp [h1], ?_, ?_⟩
  · rw [e, modC_snoc _ _ _ _ h1.symm, List.length_append]; exact o4
  · rw [e]
    intro j hj hj2
    rw [List.length_append, List.length_singleton] at hj
    rcases Nat.lt_or_eq_of_le (Nat.le_of_lt_succ hj) with h | h
    · have hj3 : j < vs.length := by omega
      rw [List.getElem_append_left h, List.getElem_append_left hj3]
      exact h3 j h hj3
    · subst h
      have a1 : (vs ++ [sv])[(trunk l k).length]'hj2 = sv := by rw [List.getElem_append_right (by omega)]; simp
      have a2 : (trunk l k ++ [l[k]])[(trunk l k).length]'(by simp) = l[k] := by simp
      rw [a1, a2]; exact ⟨hi, hn⟩
theorem trunk_mem (l : List Md) : ∀ k, k ≤ l.length → ∀ m ∈ trunk l k, m ∈ l := by
  intro k
  induction k with
  | zero => intro _ m hm; rw [trunk_zero] at hm; simp at hm
  | succ k ih =>
    intro hk m hm
    rw [trunk_succ (by omega)] at hm
    split at hm
    · rcases List.mem_append.1 hm with h | h
      · exact ih (by omega) m h
      · rw [List.mem_singleton.1 h]; exact List.getElem_mem _
    · exact ih (by omega) m hm
/-- How Strip ends. -/
def StEnd (l : List Md) (w : World) (e : Ending) (w' : World) : Prop :=
  Below w.heap.size w w' ∧ ((chk l ≠ 0 ∧ e = .returned (.tuple #[.slice none 0 0, .int .i64 (chk l)])) ∨ (chk l = 0 ∧ ∃ v vs, e = .returned (.tuple #[v, .int .i64 0]) ∧ ModOwn w' w.heap.size v (trunk l l.length) vs))
theorem modOwn_mono {w : World} {b b' : Nat} {v : Value} {l : List Md} {vs : List Value} (h : ModOwn w b v l vs) (hb : b' ≤ b) : ModOwn w b' v l vs :=
  ⟨h.len, owns_mono h.row hb, fun k hk hk2 => by
    have A := h.args k hk hk2
    obtain ⟨g, c, h1, h2, h3⟩ := A.some
    exact ⟨owns_mono A.own hb, ⟨g, c, h1, by omega, h3⟩, A.apart⟩⟩
end Go.Proofs.YtlmofdmbcddddaaGreatDoor
namespace Go.Proofs.YtlmofdmbcddddaaGreatDoor
open Go.RowKit
open WM
set_option linter.unusedVariables false
set_option linter.unusedSimpArgs false

theorem dep_le_dmax (l : List Md) : ∀ k i, i ≤ k → dep (l.take i) ≤ dmax l k := by
  intro k
  induction k with
  | zero => intro i hi; obtain rfl : i = 0 := by omega
            simp [dep_nil, dmax_zero]
  | succ k ih =>
    intro i hi
    rw [dmax_succ]
    rcases Nat.lt_or_eq_of_le hi with h | h
    · have := ih i (by omega); omega
    · subst h; omega
theorem dmax_lvl {l : List Md} {k : Nat} (hk : k < l.length) : dmax l (k + 1) = max (dmax l k) (lvlA l k) := by
  rw [dmax_succ, lvlA_eq hk]
  by_cases h : l[k].c = 93
  · rw [if_pos h]
    have h1 := dep_snoc hk
    have h2 : dlt l[k] = -1 := by unfold dlt; rw [if_neg (by rw [h]; decide), if_pos h]
    have h3 := dep_le_dmax l k k (Nat.le_refl _)
    omega
  · rw [if_neg h, Int.add_zero]
theorem lvl_rng {l : List Md} (h : okB l l.length = true) {k : Nat} (hk : k < l.length) : 0 ≤ lvlA l k ∧ lvlA l k ≤ l.length := by
  have h1 := opn_rng h hk
  have h2 := dep_hi l k (by omega)
  rw [lvlA_eq hk]
  by_cases h3 : l[k].c = 93
  · rw [if_pos h3]
    have h4 := dep_snoc hk
    have h5 : dlt l[k] = -1 := by unfold dlt; rw [if_neg (by rw [h3]; decide), if_pos h3]
    omega
  · rw [if_neg h3]; omega
theorem lvl_cell {w : World} {g : Nat} {l : List Md} (h : RowI w g (lvlL l l.length)) {k : Nat} (hk : k < l.length) : w.cell? ⟨g, k, none⟩ = some (.int .i64 (lvlA l k)) := by
  have := h.cell (i := k) (by rw [lvlL_length]; exact hk)
  rwa [lvlL_get hk, if_pos hk] at this
theorem trunk_lvl {l : List Md} {k : Nat} (hok : okB l l.length = true) (hk : k < l.length) : (decide (dep (l.take (k + 1)) = 0) && !(l[k].c == 93)) = decide (lvlA l k = 0) := by
  have h1 := okB_iff.1 hok k hk
  rw [lvlA_eq hk]
  by_cases h : l[k].c = 93
  · rw [if_pos h, h]
    rw [show ((93 : UInt8) == 93) = true from rfl, Bool.not_true, Bool.and_false]
    exact (decide_eq_false (by omega)).symm
  · rw [if_neg h, Int.add_zero]
    have : (l[k].c == 93) = false := beq_eq_false_iff_ne.2 h
    rw [this]; simp
/-- How Strip ends. -/
def PStEnd (l : List Md) (w : World) (e : Ending) (w' : World) : Prop :=
  Below w.heap.size w w' ∧ ((chk l ≠ 0 ∧ e = .returned (.tuple #[.slice none 0 0, .int .i64 (chk l)])) ∨ (chk l = 0 ∧ ∃ v vs, e = .returned (.tuple #[v, .int .i64 0]) ∧ ModFr w' w.heap.size v (trunk l l.length) vs))
end Go.Proofs.YtlmofdmbcddddaaGreatDoor
namespace Go.Proofs.YtlmofdmbcddddaaGreatDoor
open Go.RowKit
open WM
set_option linter.unusedVariables false
set_option linter.unusedSimpArgs false

theorem least (P : Nat → Prop) : ∀ n, P n → ∃ k, k ≤ n ∧ P k ∧ ∀ j, j < k → ¬ P j := by
  intro n
  induction n using Nat.strongRecOn with
  | _ n ih =>
    intro h
    by_cases hx : ∃ j, j < n ∧ P j
    · obtain ⟨j, hj, hp⟩ := hx
      obtain ⟨k, h1, h2, h3⟩ := ih j hj hp
      exact ⟨k, by omega, h2, h3⟩
    · exact ⟨n, Nat.le_refl _, h, fun j hj hp => hx ⟨j, hj, hp⟩⟩
/-- Where the open brackets climb to D for the last time ahead of b. -/
theorem climb {l : List Md} (D : Int) (a : Nat) : ∀ b, a < b → b ≤ l.length → dep (l.take a) < D → D ≤ dep (l.take b) →
    ∃ j, ∃ h : j < l.length, a ≤ j ∧ j < b ∧ l[j].c = 91 ∧ dep (l.take (j + 1)) = D ∧ ∀ i, (hi : i < l.length) → j < i → i < b → ¬ (l[i].c = 91 ∧ dep (l.take (i + 1)) = D) := by
  intro b
  induction b with
  | zero => intro h; omega
  | succ b ih =>
    intro hab hbl h1 h2
    have hb : b < l.length := by omega
    have hs := dep_snoc hb
    by_cases hP : l[b].c = 91 ∧ dep (l.take (b + 1)) = D
    · exact ⟨b, hb, by omega, by omega, hP.1, hP.2, fun i _ h3 h4 => by omega⟩
    · by_cases h3 : D ≤ dep (l.take b)
      · rcases Nat.lt_or_eq_of_le (Nat.le_of_lt_succ hab) with h4 | h4
        · obtain ⟨j, hj, g1, g2, g3, g4, g5⟩ := ih h4 (by omega) h1 h3
          refine ⟨j, hj, g1, by omega, g3, g4, fun i hi h5 h6 => ?_⟩
          rcases Nat.lt_or_eq_of_le (Nat.le_of_lt_succ h6) with h7 | h7
          · exact g5 i hi h5 h7
          · subst h7; exact hP
        · subst h4; omega
      · exfalso
        have h5 : dlt l[b] = 1 := by rcases dlt_cases l[b] with h | h | h <;> omega
        have h6 : l[b].c = 91 := by
          unfold dlt at h5
          split at h5
          · assumption
          · split at h5 <;> omega
        exact hP ⟨h6, by omega⟩
theorem isCl_ex {l : List Md} (h0 : chk l = 0) {i : Nat} (hi : i < l.length) (hb : braB l[i].c = true) : ∃ k, IsCl l i k := by
  have hok := (chk_zero.1 h0).2.2.1
  have hall : dep (l.take l.length) = 0 := by rw [List.take_length]; exact (chk_zero.1 h0).2.2.2
  have hs := dep_snoc hi
  have hge : ∀ k, k ≤ l.length → 0 ≤ dep (l.take k) := by
    intro k hk
    rcases Nat.eq_zero_or_pos k with h | h
    · subst h; simp [dep_nil]
    · have := okB_iff.1 hok (k - 1) (by omega)
      rwa [show k - 1 + 1 = k by omega] at this
  rcases bra_cases hb with hc | hc
  · have hd : dlt l[i] = 1 := by unfold dlt; rw [if_pos hc]
    have h1 := hge i (by omega)
    have hlt : i + 1 < l.length := by
      rcases Nat.lt_or_eq_of_le (show i + 1 ≤ l.length from hi) with h | h
      · exact h
      · rw [h, hall] at hs; omega
    obtain ⟨k, g1, ⟨g2, g3⟩, g4⟩ := least (fun k => i < k ∧ dep (l.take (k + 1)) < dep (l.take (i + 1))) (l.length - 1) ⟨by omega, by rw [show l.length - 1 + 1 = l.length by omega, hall]; omega⟩
    refine ⟨k, hi, by omega, .inl ⟨hc, g2, g3, fun j h3 h4 => ?_⟩⟩
    have := g4 j h4
    rcases Int.lt_or_le (dep (l.take (j + 1))) (dep (l.take (i + 1))) with h | h
    · exact absurd ⟨h3, h⟩ this
    · exact h
  · have hd : dlt l[i] = -1 := by unfold dlt; rw [if_neg (by rw [hc]; decide), if_pos hc]
    have h1 := hge (i + 1) (by omega)
    have hpos : 0 < i := by
      rcases Nat.eq_zero_or_pos i with h | h
      · subst h
        have e : dep (l.take 0) = 0 := by simp [dep_nil]
        omega
      · exact h
    obtain ⟨k, hk, g1, g2, g3, g4, g5⟩ := climb (l := l) (dep (l.take (i + 1)) + 1) 0 i hpos (by omega) (by simp [dep_nil]; omega) (by omega)
    exact ⟨k, hi, hk, .inr ⟨hc, g2, g3, g4, g5⟩⟩
/-- Does the loop stop at j? -/
def stopA (l : List Md) (i j : Nat) : Bool := braB (l.getD j ⟨0, []⟩).c && decide (lvlA l j = lvlA l i)
theorem cl_fwd {l : List Md} {i k : Nat} (h : IsCl l i k) (hi : i < l.length) (hc : l[i].c = 91) : i < k ∧ k < l.length ∧ (∀ j, (hj : j < l.length) → i < j → j < k → braB l[j].c = false ∨ lvlA l j ≠ lvlA l i) ∧ (∀ hk : k < l.length, braB l[k].c = true ∧ lvlA l k = lvlA l i) := by
  obtain ⟨_, hk, h⟩ := h
  rcases h with ⟨_, g2, g3, g4⟩ | ⟨g1, _⟩
  · have hLi : lvlA l i = dep (l.take (i + 1)) := by rw [lvlA_eq hi, if_neg (by rw [hc]; decide), Int.add_zero]
    have hbef : ∀ j, i < j → j ≤ k → dep (l.take (i + 1)) ≤ dep (l.take j) := by
      intro j h1 h2
      rcases Nat.lt_or_eq_of_le (show i + 1 ≤ j from h1) with h | h
      · have := g4 (j - 1) (by omega) (by omega)
        rwa [show j - 1 + 1 = j by omega] at this
      · rw [← h]; exact Int.le_refl _
    refine ⟨g2, hk, fun j hj h1 h2 => ?_, fun hk => ?_⟩
    · cases hb : braB l[j].c
      · exact .inl rfl
      · right
        have hs := dep_snoc hj
        have hp := hbef j h1 (by omega)
        have hq := g4 j h1 h2
        rw [hLi, lvlA_eq hj]
        rcases bra_cases hb with h | h
        · have hd : dlt l[j] = 1 := by unfold dlt; rw [if_pos h]
          rw [if_neg (by rw [h]; decide)]; omega
        · rw [if_pos h]; omega
    · have hs := dep_snoc hk
      have hp := hbef k g2 (Nat.le_refl _)
      have hd : dlt l[k] = -1 := by rcases dlt_cases l[k] with h | h | h <;> omega
      have hc2 : l[k].c = 93 := by
        unfold dlt at hd
        split at hd
        · omega
        · split at hd
          · assumption
          · omega
      refine ⟨by rw [hc2]; rfl, ?_⟩
      rw [hLi, lvlA_eq hk, if_pos hc2]; omega
  · rw [hc] at g1; exact absurd g1 (by decide)
theorem cl_bwd {l : List Md} {i k : Nat} (h : IsCl l i k) (hi : i < l.length) (hc : l[i].c = 93) : k < i ∧ (∀ j, (hj : j < l.length) → k < j → j < i → braB l[j].c = false ∨ lvlA l j ≠ lvlA l i) ∧ (∀ hk : k < l.length, braB l[k].c = true ∧ lvlA l k = lvlA l i) := by
  obtain ⟨_, hk, h⟩ := h
  rcases h with ⟨g1, _⟩ | ⟨_, g2, g3, g4, g5⟩
  · rw [hc] at g1; exact absurd g1 (by decide)
  · have hLi : lvlA l i = dep (l.take (i + 1)) + 1 := by rw [lvlA_eq hi, if_pos hc]
    have hsi := dep_snoc hi
    have hdi : dlt l[i] = -1 := by unfold dlt; rw [if_neg (by rw [hc]; decide), if_pos hc]
    refine ⟨g2, fun j hj h1 h2 => ?_, fun hk => ?_⟩
    · cases hb : braB l[j].c
      · exact .inl rfl
      · right
        rw [hLi, lvlA_eq hj]
        rcases bra_cases hb with h | h
        · rw [if_neg (by rw [h]; decide), Int.add_zero]
          exact fun e => g5 j hj h1 h2 ⟨h, e⟩
        · rw [if_pos h]
          intro e
          have e2 : dep (l.take (j + 1)) = dep (l.take (i + 1)) := by omega
          rcases Nat.lt_or_eq_of_le (show j + 1 ≤ i from h2) with h3 | h3
          · obtain ⟨m, hm, q1, q2, q3, q4, _⟩ := climb (l := l) (dep (l.take (i + 1)) + 1) (j + 1) i h3 (by omega) (by omega) (by omega)
            exact g5 m hm (by omega) q2 ⟨q3, q4⟩
          · rw [h3] at e2; omega
    · refine ⟨by rw [g3]; rfl, ?_⟩
      rw [hLi, lvlA_eq hk, if_neg (by rw [g3]; decide), Int.add_zero]; exact g4
end Go.Proofs.YtlmofdmbcddddaaGreatDoor
namespace Go.Proofs.YtlmofdmbcddddaaGreatDoor
open Go.RowKit
open WM
set_option linter.unusedVariables false
set_option linter.unusedSimpArgs false

end Go.Proofs.YtlmofdmbcddddaaGreatDoor
namespace Go.Proofs.YtlmofdmbcddddaaGreatDoor
open Go.RowKit
open WM
set_option linter.unusedVariables false
set_option linter.unusedSimpArgs false

/-- How Join ends. -/
def PJnEnd (a b : List Md) (w : World) (e : Ending) (w' : World) : Prop :=
  Below w.heap.size w w' ∧ ((chk a ≠ 0 ∧ e = .returned (.tuple #[.slice none 0 0, .int .i64 (chk a)])) ∨ (chk a = 0 ∧ chk b ≠ 0 ∧ e = .returned (.tuple #[.slice none 0 0, .int .i64 (chk b)])) ∨
    (chk a = 0 ∧ chk b = 0 ∧ 2000 < a.length + b.length ∧ e = .returned (.tuple #[.slice none 0 0, .int .i64 4])) ∨ (chk a = 0 ∧ chk b = 0 ∧ ¬ 2000 < a.length + b.length ∧ ∃ v vs, e = .returned (.tuple #[v, .int .i64 0]) ∧ ModFr w' w.heap.size v (a ++ b) vs))
end Go.Proofs.YtlmofdmbcddddaaGreatDoor
namespace Go.Proofs.YtlmofdmbcddddaaGreatDoor
open Go.RowKit
open WM
set_option linter.unusedVariables false
set_option linter.unusedSimpArgs false

theorem pcs_mem_len (s : Bs) : ∀ p ∈ pcs s, p.length ≤ s.length := by
  induction s with
  | nil => intro p hp; simp [pcs] at hp; simp [hp]
  | cons c t ih =>
    intro p hp
    unfold pcs at hp
    split at hp
    · rcases List.mem_cons.1 hp with h | h
      · simp [h]
      · have := ih p h; simp; omega
    · split at hp
      · rename_i q qs e
        rcases List.mem_cons.1 hp with h | h
        · have := ih q (by rw [e]; simp)
          rw [h]; simp; omega
        · have := ih p (by rw [e]; simp [h])
          simp; omega
      · simp at hp; simp [hp]
theorem looseA_length (s : Bs) : (looseA s).length = (pcs s).length := by simp [looseA]
theorem looseA_get {s : Bs} {k : Nat} (h : k < (pcs s).length) (h2 : k < (looseA s).length) : (looseA s)[k] = atoiV (pcs s)[k] := by simp [looseA]
theorem valsL_snoc {l : List Int} {k : Nat} (h : k < l.length) : valsL (l.take (k + 1)) = valsL (l.take k) ++ [.int .i64 l[k]] := by
  unfold valsL; rw [List.take_succ_eq_append_getElem h, List.map_append]; rfl
/-- Where looseArgs stands. -/
structure LaAt (w1 : World) (l : List Int) (k : Nat) (v : Value) (wr : World) : Prop where
  hi : k ≤ l.length
  below : Below w1.heap.size w1 wr
  own : wr.ownsRow w1.heap.size 3 1 v k (valsL (l.take k))
/-- How looseArgs ends. -/
def LaEnd (l : List Int) (w : World) (e : Ending) (w' : World) : Prop := ∃ v, e = .returned v ∧ Below w.heap.size w w' ∧ w'.ownsRow w.heap.size 3 1 v l.length (valsL l)
set_option maxRecDepth 100000 in
set_option maxHeartbeats 1600000 in
theorem largs_any (s : ByteArray) (hs : s.size ≤ 50000) (w : World) (he : Env w) :
    Calls Tryz.prog 50 #[.string s] w (LaEnd (looseA (lA s)) w) := by
  have KS := Lib.hid (split_lib s (by omega) w he)
  have hpl : (pcs (lA s)).length ≤ 50001 := by have := pcs_len (lA s); rw [lA_len] at this; omega
  have HPM := Lib.hid (pcs_mem_len (lA s))
  have HLL := Lib.hid (looseA_length (lA s))
  have HG := Lib.hid (fun k h h2 => looseA_get (s := lA s) (k := k) h h2)
  have HSz := Lib.hid (lA_len s)
  have HEn := Lib.hid he
  obtain ⟨i0, hi, hz0, hz1, hz2⟩ := info_parts info_int
  have HM : Hid (maxLen = 9223372036854775807) := Lib.hid rfl
  generalize looseA (lA s) = la at HLL HG ⊢
  generalize pcs (lA s) = ps at KS hpl HPM HLL HG
  obtain ⟨W1, hW1⟩ : ∃ W, W = w.alloc (.cells (ps.map fun l => Value.string (bA l)).toArray 9) := ⟨_, rfl⟩
  have B1 : Below w.heap.size w W1 := by rw [hW1]; exact (Below.refl _ _).alloc (Nat.le_refl _) _
  have S1 : W1.heap.size = w.heap.size + 1 := by rw [hW1]; simp
  have HC : Hid (∀ k, (h : k < ps.length) → W1.cell? ⟨w.heap.size, k, none⟩ = some (.string (bA ps[k]))) := Lib.hid (fun k h => by
    have : W1.heap[w.heap.size]? = some (.cells (ps.map fun l => Value.string (bA l)).toArray 9 (0, 0)) := by rw [hW1]; exact heap_alloc_new _ _
    simp only [World.cell?, this]
    simp [h])
  have HB1 := Lib.hid B1
  have HE1 := Lib.hid (he.later B1)
  rw [← hW1] at KS
  clear he B1 hW1
  go_enter Tryz.func50, Tryz.ntmps50
  go_wp2_with fail
  refine KS.out.mono ?_
  rintro e w1 ⟨rfl, rfl⟩
  go_wp2_with fail
  go_loopw [3, 11] (fun v i wr => ∃ k : Nat, i = .int .i64 k ∧ LaAt w1 la k v wr) (fun _ i _ => ps.length - (intOf i).toNat)
  case atStart => exact ⟨0, rfl, Nat.zero_le _, Below.refl _ _, World.ownsRow_nil _ _ _ _⟩
  case round =>
    obtain ⟨k, rfl, hS⟩ := hrel
    have HS := Lib.hid hS
    have n1 := hS.hi
    have hsz := hS.below.size
    rw [HLL.out] at n1
    clear hS
    by_cases hlt : k < ps.length
    · have k1 : (k : Int) < (ps.length : Int) := by omega
      have e1 := (HS.out.below.cell (p := ⟨w.heap.size, k, none⟩) (by show w.heap.size < w1.heap.size; omega)).trans (HC.out k hlt)
      have lt1 : w.heap.size < wr.heap.size := by omega
      have hpk := HPM.out _ (List.getElem_mem hlt)
      rw [HSz.out] at hpk
      have hbs : (bA ps[k]).size = ps[k].length := by rw [← lA_len, lA_bA]
      have KA := Lib.hid (atoi_lib (bA ps[k]) (by omega) wr (HE1.out.later HS.out.below))
      rw [lA_bA] at KA
      have hkl : k < la.length := by rw [HLL.out]; exact hlt
      have HX := Lib.hid (valsL_snoc hkl)
      rw [HG.out k hlt hkl] at HX
      clear hbs hpk
      generalize bA ps[k] = y at e1 KA
      generalize atoiV ps[k] = x at KA HX
      go_wp2_with fail
      refine KA.out.mono ?_
      rintro e w2 ⟨⟨xx, rfl⟩, hb⟩
      have P5 := Lib.hid ((l_own_later HS.out.own hb).alloc (.cells #[.int .i64 x] 3))
      have B2 := Lib.hid (HS.out.below.trans (hb.mono hsz))
      have z2 := B2.out.size
      clear hb
      go_wp2_with (at_builtin; refine wpList_append_own _ rfl _ _ 25 rfl w1.heap.size 3 i0 (.int .i64 0) 1 8 Tryz.underlying25 hi hz0 hz1 hz2 rfl (by decide) u3 k (valsL (la.take k)) rfl P5.out ⟨w2.heap.size, 0, none⟩ 1 1 [.int .i64 x] rfl rfl (cell_one_new _ _ _) (by simp [Value.oneCell']) (by rw [HM.out]; omega) (by omega) (by simp; omega) ?_; intro v2 w3 ho2 hg2 hn2)
      have T1 : Hid (LaAt w1 la (k + 1) v2 w3) := Lib.hid ⟨hkl, (B2.out.alloc z2 _).grown hg2 (by simp; omega) (fun j e => (owns_lt P5.out j e).1), by rw [HX.out]; exact ho2⟩
      clear ho2 hg2 hn2
      go_wp2_with fail
      go_roundw
      case rel => exact ⟨k + 1, by go_num, T1.out⟩
      case measure => simp [intOf]; omega
    · have hk : k = la.length := by rw [HLL.out]; omega
      have k1 : ¬ (k : Int) < (ps.length : Int) := by omega
      have HF : Hid (LaEnd la w (.returned u3) wr) := Lib.hid ⟨_, rfl, HB1.out.trans (HS.out.below.mono HB1.out.size), by have := owns_mono HS.out.own HB1.out.size; rw [hk, List.take_length] at this; exact this⟩
      clear hk
      go_wp2_with fail
      go_ret
      exact HF.out
end Go.Proofs.YtlmofdmbcddddaaGreatDoor
namespace Go.Proofs.YtlmofdmbcddddaaGreatDoor
open Go.RowKit
open WM
set_option linter.unusedVariables false
set_option linter.unusedSimpArgs false

/-- Join's error and word. -/
def jC (a b : List Md) : Int := if chk a ≠ 0 then chk a else if chk b ≠ 0 then chk b else if 2000 < a.length + b.length then 4 else 0
def jL (a b : List Md) : List Md := if jC a b = 0 then a ++ b else []
theorem jC_1 {a b : List Md} (h : chk a ≠ 0) : jC a b = chk a := by unfold jC; rw [if_pos h]
theorem jC_2 {a b : List Md} (h : chk a = 0) (h2 : chk b ≠ 0) : jC a b = chk b := by unfold jC; rw [if_neg (by simp [h]), if_pos h2]
theorem jC_3 {a b : List Md} (h : chk a = 0) (h2 : chk b = 0) (h3 : 2000 < a.length + b.length) : jC a b = 4 := by unfold jC; rw [if_neg (by simp [h]), if_neg (by simp [h2]), if_pos h3]
theorem jC_4 {a b : List Md} (h : chk a = 0) (h2 : chk b = 0) (h3 : ¬ 2000 < a.length + b.length) : jC a b = 0 := by unfold jC; rw [if_neg (by simp [h]), if_neg (by simp [h2]), if_neg h3]
theorem jL_no {a b : List Md} (h : jC a b ≠ 0) : jL a b = [] := by unfold jL; rw [if_neg h]
theorem jL_yes {a b : List Md} (h : jC a b = 0) : jL a b = a ++ b := by unfold jL; rw [if_pos h]
/-- How Join ends, in one way. -/
def UJnEnd (a b : List Md) (w : World) (e : Ending) (w' : World) : Prop :=
  ∃ v vs, e = .returned (.tuple #[v, .int .i64 (jC a b)]) ∧ Below w.heap.size w w' ∧ ModFr w' w.heap.size v (jL a b) vs
/-- Strip's word. -/
def sL (l : List Md) : List Md := if chk l = 0 then trunk l l.length else []
def UStEnd (l : List Md) (w : World) (e : Ending) (w' : World) : Prop :=
  ∃ v vs, e = .returned (.tuple #[v, .int .i64 (chk l)]) ∧ Below w.heap.size w w' ∧ ModFr w' w.heap.size v (sL l) vs
/-- Close's index and error. -/
noncomputable def clV (l : List Md) (i : Int) : Int := by
  classical
  exact if h : chk l = 0 ∧ ∃ j k : Nat, i = (j : Int) ∧ IsCl l j k then (Classical.choose (Classical.choose_spec h.2) : Nat) else 0
noncomputable def clC (l : List Md) (i : Int) : Int := if chk l ≠ 0 then chk l else if atB l i = true then 0 else 2
theorem atB_of_cl {l : List Md} {j k : Nat} (h : IsCl l j k) : atB l (j : Int) = true := by
  obtain ⟨hi, hk, h⟩ := h
  refine atB_iff.2 ⟨j, rfl, hi, ?_⟩
  rcases h with ⟨h, _⟩ | ⟨h, _⟩ <;> rw [h] <;> rfl
theorem cl_u {l : List Md} {i : Int} {w : World} {e : Ending} {w' : World} (h : ClEnd l i w e w') : e = .returned (.tuple #[.int .i64 (clV l i), .int .i64 (clC l i)]) ∧ Below w.heap.size w w' := by
  obtain ⟨hb, ⟨h0, rfl⟩ | ⟨h0, h1, rfl⟩ | ⟨h0, j, k, rfl, hk, rfl⟩⟩ := h
  · refine ⟨?_, hb⟩
    have e1 : clV l i = 0 := by unfold clV; rw [dif_neg (fun h => h0 h.1)]
    have e2 : clC l i = chk l := by unfold clC; rw [if_pos h0]
    rw [e1, e2]
  · refine ⟨?_, hb⟩
    have e1 : clV l i = 0 := by
      unfold clV; rw [dif_neg]
      rintro ⟨_, j, k, rfl, h⟩
      rw [atB_of_cl h] at h1; exact absurd h1 (by simp)
    have e2 : clC l i = 2 := by unfold clC; rw [if_neg (by simp [h0]), if_neg (by rw [h1]; simp)]
    rw [e1, e2]
  · refine ⟨?_, hb⟩
    have hx : chk l = 0 ∧ ∃ j' k' : Nat, ((j : Nat) : Int) = (j' : Int) ∧ IsCl l j' k' := ⟨h0, j, k, rfl, hk⟩
    have e1 : clV l (j : Int) = (k : Int) := by
      unfold clV; rw [dif_pos hx]
      have hs := Classical.choose_spec (Classical.choose_spec hx.2)
      have hj : Classical.choose hx.2 = j := by have := hs.1; omega
      have h2 := hs.2
      have : Classical.choose (Classical.choose_spec hx.2) = k := by
        generalize Classical.choose (Classical.choose_spec hx.2) = k2 at h2
        generalize Classical.choose hx.2 = j2 at hj h2
        subst hj
        exact isCl_one h2 hk
      rw [this]
    have e2 : clC l (j : Int) = 0 := by unfold clC; rw [if_neg (by simp [h0]), if_pos (atB_of_cl hk)]
    rw [e1, e2]
end Go.Proofs.YtlmofdmbcddddaaGreatDoor
namespace Go.Proofs.YtlmofdmbcddddaaGreatDoor
open Go.RowKit
open WM
set_option linter.unusedVariables false
set_option linter.unusedSimpArgs false

/-- Where loose stands. -/
structure LsAt (w : World) (s : Bs) (d : List Md) (r : ByteArray) (v : Value) (wr : World) : Prop where
  eq : looseM s = d ++ looseM (lA r)
  few : d.length + r.size ≤ s.length
  below : Below w.heap.size w wr
  own : ∃ vs, ModFr wr w.heap.size v d vs
/-- How loose ends. -/
def LsEnd (l : List Md) (w : World) (e : Ending) (w' : World) : Prop := ∃ v vs, e = .returned v ∧ Below w.heap.size w w' ∧ ModFr w' w.heap.size v l vs
set_option maxRecDepth 100000 in
set_option maxHeartbeats 3200000 in
theorem loose_any (s : ByteArray) (hs : s.size ≤ 50000) (w : World) (he : Env w) :
    Calls Tryz.prog 36 #[.string s] w (LsEnd (looseM (lA s)) w) := by
  have HEn := Lib.hid he
  obtain ⟨j0, hj, hy0, hy1, hy2⟩ := info_parts info_mod
  have HM : Hid (maxLen = 9223372036854775807) := Lib.hid rfl
  have S0 : Hid (LsAt w (lA s) [] s (.slice none 0 0) w) := Lib.hid ⟨rfl, by rw [lA_len]; simp, Below.refl _ _, [], modFr_nil _ _⟩
  have hL := lA_len s
  have hL2 : (lA s).length ≤ 50000 := by omega
  generalize lA s = L at S0 hL2 ⊢
  clear he hL hs
  go_enter Tryz.func36, Tryz.ntmps36
  go_wp2_with fail
  go_loopw [0, 3] (fun x v wr => ∃ d r, x = .string r ∧ LsAt w L d r v wr) (fun x _ _ => match x with | .string r => r.size | _ => 0)
  case atStart => exact ⟨[], s, rfl, S0.out⟩
  case round =>
    obtain ⟨d, r, rfl, hS⟩ := hrel
    have HS := Lib.hid hS
    have n1 := hS.few
    have hsz := hS.below.size
    clear hS
    rcases hr : lA r with _ | ⟨c, t⟩
    · obtain rfl : r = ⟨#[]⟩ := lA_inj (by rw [hr]; rfl)
      have HF : Hid (LsEnd (looseM L) w (.returned u3) wr) := Lib.hid (by
        obtain ⟨vs, hm⟩ := HS.out.own
        have e := HS.out.eq
        rw [hr, looseM_nil, List.append_nil] at e
        exact ⟨_, vs, rfl, HS.out.below, by rw [e]; exact hm⟩)
      go_wp2_with fail
      go_ret
      exact HF.out
    · have hsz1 := lA_len r
      rw [hr] at hsz1
      have h0 : 0 < r.size := by rw [← hsz1]; simp
      have hc : r[0] = c := by
        have := lA_get r 0 h0 (by rw [hr]; simp)
        rw [← this]
        simp [hr]
      have hne : r.toList.isEmpty = false := by
        rw [ByteArray.toList_eq]
        have : r.data.toList = c :: t := hr
        rw [this]; rfl
      have ht : lA (r.extract 1 r.size) = t := by
        unfold lA at hr ⊢
        have h9 : r.size - 1 = t.length := by
          have : (c :: t).length = r.size := hsz1
          simp at this; omega
        rw [ByteArray.data_extract, Array.toList_extract, List.extract_eq_take_drop, hr, h9]
        show (List.drop 1 (c :: t)).take t.length = t
        simp
      have hsz2 : (r.extract 1 r.size).size = t.length := by rw [← lA_len, ht]
      have htl : t.length + 1 = r.size := by simpa using hsz1
      obtain ⟨vs, hM⟩ := HS.out.own
      have HMF := Lib.hid hM
      have HEq := Lib.hid HS.out.eq
      rw [hr] at HEq
      obtain ⟨W1, hW1⟩ : ∃ W, W = wr.alloc (.cells #[.int .u8 c.toNat, .slice none 0 0] 27) := ⟨_, rfl⟩
      have N1 : W1.heap[wr.heap.size]? = some (.cells #[.int .u8 c.toNat, .slice none 0 0] 27 (0, 0)) := by rw [hW1]; exact heap_alloc_new _ _
      have B1 : Below wr.heap.size wr W1 := by rw [hW1]; exact (Below.refl _ _).alloc (Nat.le_refl _) _
      have Z1 : W1.heap.size = wr.heap.size + 1 := by rw [hW1]; simp
      have HE1 := Lib.hid (HEn.out.later (HS.out.below.trans (B1.mono hsz)))
      have KP := Lib.hid (prefix_lib (r.extract 1 r.size) 40 W1)
      rw [ht] at KP
      by_cases hh : t.head? = some 40
      · rw [decide_eq_true hh, if_pos hh] at KP
        have HEq2 : Hid (looseM L = (d ++ [⟨c, looseA (Lib.cut t.tail [41]).1⟩]) ++ looseM (Lib.cut t.tail [41]).2.1) := Lib.hid (by rw [HEq.out, looseM_arg hh]; simp)
        have htt : t.tail.length ≤ t.length := by simp
        have hbt : (bA t.tail).size = t.tail.length := by rw [← lA_len, lA_bA]
        have KC := Lib.hid (cut_lib (bA t.tail) 41 (by omega) W1 HE1.out)
        rw [lA_bA] at KC
        have hcl := cut_len t.tail 41
        have hcr := cut_rest t.tail 41
        have hti : (bA (Lib.cut t.tail [41]).1).size ≤ 50000 := by rw [← lA_len, lA_bA]; omega
        have hto : (bA (Lib.cut t.tail [41]).2.1).size ≤ t.length := by rw [← lA_len, lA_bA]; omega
        have KA := Lib.hid (fun w he => largs_any (bA (Lib.cut t.tail [41]).1) hti w he)
        rw [lA_bA] at KA
        have HLo : Hid (lA (bA (Lib.cut t.tail [41]).2.1) = (Lib.cut t.tail [41]).2.1) := Lib.hid (lA_bA _)
        generalize (Lib.cut t.tail [41]).1 = si at HEq2 KC KA hti
        generalize (Lib.cut t.tail [41]).2.1 = so at HEq2 KC hto HLo
        generalize (Lib.cut t.tail [41]).2.2 = sb at KC
        generalize bA so = SO at KC hto HLo
        generalize bA si = SI at KC KA hti
        generalize bA t.tail = ST at KP KC
        clear hcl hcr hbt htt hM
        go_wp2_with fail
        rw [← hW1]
        clear hW1
        refine KP.out.mono ?_
        rintro e wx ⟨rfl, rfl⟩
        go_wp2_with fail
        refine KC.out.mono ?_
        rintro e W2 ⟨rfl, hb⟩
        have N2 := (hb.block wr.heap.size (by omega)).trans N1
        have B2 := Lib.hid (B1.trans (hb.mono B1.size))
        have HE2 := Lib.hid (HE1.out.later hb)
        have Z2 := hb.size
        clear hb
        go_wp2_with fail
        refine (KA.out _ HE2.out).mono ?_
        rintro e W3 ⟨v', rfl, hb, ho⟩
        have N3 := (hb.block wr.heap.size (by omega)).trans N2
        have B3 := Lib.hid (B2.out.trans (hb.mono B2.out.size))
        have Z3 := hb.size
        have HO3 := Lib.hid ho
        obtain ⟨p2, n2, c2, rfl⟩ : ∃ p n c, v' = .slice p n c := by
          rcases nilOr_of_owned ho with h | ⟨ad, n, c, h⟩
          · exact ⟨_, _, _, h⟩
          · exact ⟨_, _, _, h⟩
        have q0 := cell_two0 N3
        have q1 := cell_two1 N3
        have f1 : W3.frozen? ⟨wr.heap.size, 1, none⟩ = false := by simp [World.frozen?, N3]
        have l3 := lt_of_block N3
        have BX : Hid (Below wr.heap.size wr ((W3.setCell ⟨wr.heap.size, 1, none⟩ (.slice p2 n2 c2)).alloc (.cells #[.int .u8 c.toNat, .slice p2 n2 c2] 27))) := Lib.hid ((B3.out.setCell (Nat.le_refl _) _).alloc (by simp; exact B3.out.size) _)
        have P5 := Lib.hid (l_own_later HMF.out.row BX.out)
        have A5 : Hid (((W3.setCell ⟨wr.heap.size, 1, none⟩ (.slice p2 n2 c2)).alloc (.cells #[.int .u8 c.toNat, .slice p2 n2 c2] 27)).ownsRow wr.heap.size 3 1 (.slice p2 n2 c2) (looseA si).length (valsL (looseA si))) := Lib.hid (by
          refine ((ownsRow_setCell_other (owns_mono ho (by omega)) ?_ _).alloc _)
          intro e
          have := (owns_lt ho _ e).1
          simp at this; omega)
        have hdl : d.length ≤ 50000 := by omega
        clear hb ho N1 N2 N3 B1
        obtain ⟨n, hn⟩ : ∃ n, d.length = n := ⟨_, rfl⟩
        rw [hn] at hdl P5
        have HN := Lib.hid hn
        clear hn
        go_wp2_with (at_builtin; refine wpList_append_own_at _ rfl _ _ 22 rfl w.heap.size 27 j0 (.agg #[.int .u8 0, .slice none 0 0]) 2 32 Tryz.underlying22 hj hy0 hy1 hy2 rfl (by decide) u3 n (modC d vs) rfl P5.out ⟨W3.heap.size, 0, none⟩ 1 1 [.int .u8 c.toNat, .slice p2 n2 c2] rfl rfl (fun j u h => by have h9 := two_new (W3.setCell ⟨wr.heap.size, 1, none⟩ (.slice p2 n2 c2)) (.int .u8 c.toNat) (.slice p2 n2 c2) 27 j u h; simpa using h9) (by simp [Value.oneCell']) (by rw [HM.out]; omega) (by omega) (by simp; omega) ?_; intro v2 w5 ho2 hg2 hn2 hb2)
        have M5 := Lib.hid (modFr_snoc (m := ⟨c, looseA si⟩) HMF.out hsz BX.out A5.out (by rw [HN.out]; exact ho2) hg2 hb2)
        have BW : Hid (Below w.heap.size w w5) := Lib.hid ((HS.out.below.trans (BX.out.mono hsz)).grown hg2 (by have := BX.out.size; omega) (fun j e => (owns_lt HMF.out.row j e).1))
        have HT : Hid (LsAt w L (d ++ [⟨c, looseA si⟩]) SO v2 w5) := Lib.hid ⟨by rw [HEq2.out, HLo.out], by rw [List.length_append, List.length_singleton]; have := HN.out; omega, BW.out, _, M5.out⟩
        clear ho2 hg2 hn2 hb2
        go_wp2_with fail
        go_roundw
        case rel => exact ⟨_, SO, rfl, HT.out⟩
        case measure => simp; omega
      · have HEq2 : Hid (looseM L = (d ++ [⟨c, []⟩]) ++ looseM t) := Lib.hid (by rw [HEq.out, looseM_bare hh]; simp)
        rw [decide_eq_false hh, if_neg hh] at KP
        have HLo := Lib.hid ht
        have hto := hsz2
        have BX : Hid (Below wr.heap.size wr (W1.alloc (.cells #[.int .u8 c.toNat, .slice none 0 0] 27))) := Lib.hid (B1.alloc B1.size _)
        have P5 := Lib.hid (l_own_later HMF.out.row BX.out)
        have Z2 : wr.heap.size < W1.heap.size := by omega
        clear Z1
        have A5 : Hid ((W1.alloc (.cells #[.int .u8 c.toNat, .slice none 0 0] 27)).ownsRow wr.heap.size 3 1 (.slice none 0 0) 0 (valsL [])) := Lib.hid (World.ownsRow_nil _ _ _ _)
        have q0 := cell_two0 N1
        have q1 := cell_two1 N1
        have l1 := lt_of_block N1
        have hdl : d.length ≤ 50000 := by omega
        clear hM N1 B1
        obtain ⟨n, hn⟩ : ∃ n, d.length = n := ⟨_, rfl⟩
        rw [hn] at hdl P5
        have HN := Lib.hid hn
        clear hn
        go_wp2_with fail
        rw [← hW1]
        clear hW1
        refine KP.out.mono ?_
        rintro e wx ⟨rfl, hwx⟩
        rw [← hwx]
        clear hwx
        go_wp2_with (at_builtin; refine wpList_append_own_at _ rfl _ _ 22 rfl w.heap.size 27 j0 (.agg #[.int .u8 0, .slice none 0 0]) 2 32 Tryz.underlying22 hj hy0 hy1 hy2 rfl (by decide) u3 n (modC d vs) rfl P5.out ⟨W1.heap.size, 0, none⟩ 1 1 [.int .u8 c.toNat, .slice none 0 0] rfl rfl (two_new _ _ _ _) (by simp [Value.oneCell']) (by rw [HM.out]; omega) (by omega) (by simp; omega) ?_; intro v2 w5 ho2 hg2 hn2 hb2)
        have M5 := Lib.hid (modFr_snoc (m := ⟨c, []⟩) HMF.out hsz BX.out A5.out (by rw [HN.out]; exact ho2) hg2 hb2)
        have BW : Hid (Below w.heap.size w w5) := Lib.hid ((HS.out.below.trans (BX.out.mono hsz)).grown hg2 (by have := BX.out.size; omega) (fun j e => (owns_lt HMF.out.row j e).1))
        have HT : Hid (LsAt w L (d ++ [⟨c, []⟩]) (r.extract 1 r.size) v2 w5) := Lib.hid ⟨by rw [HEq2.out, HLo.out], by rw [List.length_append, List.length_singleton]; have := HN.out; omega, BW.out, _, M5.out⟩
        clear ho2 hg2 hn2 hb2
        go_wp2_with fail
        go_roundw
        case rel => exact ⟨_, r.extract 1 r.size, rfl, HT.out⟩
        case measure => simp; omega
end Go.Proofs.YtlmofdmbcddddaaGreatDoor
