/-
  What the reference's Twin hands back: the word in memory of the call's own.
-/
import Derived.Test.YtkjjehnfibfngaaWordRefB
import Derived.Laws.OwnMore
import Derived.Deep.RegionLaw
namespace Go.Proofs.Ytkjjehnfibfngaa
open Go.RowKit
open WM
set_option linter.unusedVariables false
set_option linter.unusedSimpArgs false

/-- An append to a row of the call's own, as a step of a region that draws its order. -/
theorem step_append_own {P : Program} (w : World) {ops : Array Oper} {o : Oper} {a : Act} {K : Act → World → Prop} {Q : Exit → Act → World → Prop} {E : Prop}
    (hg : o.guard = none) (s x : Operand) (t : TypeId) (hop : o.op = Op.call { callee := Callee.builtin Builtin.append, args := #[s, x], argTypes := #[t, t] })
    (base : Nat) (e : TypeId) (i : TypeInfo) (z : Value) (size bytes : Nat) (h1 : P.underlying t = some (.slice e)) (h2 : P.info? e = some i) (h3 : i.zero = some z) (h4 : i.size = size) (h5 : i.bytes = bytes) (h6 : z.cells.size = size) (h7 : 0 < size)
    (v : Value) (k : Nat) (xs : List Value) (hs : a.eval s = v) (hown : w.ownsRow base e size v k xs) (ad : Addr) (m c : Nat) (news : List Value) (hx : a.eval x = .slice (some ad) m c) (hn : news.length = m * size)
    (hc : ∀ j u, news[j]? = some u → w.cell? (ad.add j) = some u) (h1c : ∀ u ∈ news, u.oneCell' = true) (b1 : k + m ≤ maxLen) (b2 : (k + m) * bytes ≤ 140737488355328) (b3 : base ≤ w.heap.size)
    (hK : ∀ v' w', w'.ownsRow base e size v' (k + m) (xs ++ news) → w.grownBy w' v.ownBlock → (v' = .slice none 0 0 ↔ v = .slice none 0 0 ∧ m = 0) → (v'.ownBlock = v.ownBlock ∨ v'.ownBlock = some w.heap.size) → K (a.put o.dst v') w') :
    if Region.wanted o (yielded ops a.tmps) = true then Oper.wp P o a w K Q else E := by
  have hw : Region.wanted o (yielded ops a.tmps) = true := by simp [Region.wanted, hg]
  rw [if_pos hw]
  obtain ⟨v', w', hrun, r1, r2, r3, r4⟩ := run_append_own_at (P := P) w base t o.type e i z size bytes h1 h2 h3 h4 h5 h6 h7 v k xs hown ad m c news hn hc h1c b1 b2 b3
  unfold Oper.wp
  simp [execOp, hop, resolve, invoke, builtin, hs, hx, hrun, Result.andThen]
  exact hK _ _ r1 r2 r3 r4
/-- The same where nothing comes, out of a slice that is nil. -/
theorem step_append_nil {P : Program} (w : World) {ops : Array Oper} {o : Oper} {a : Act} {K : Act → World → Prop} {Q : Exit → Act → World → Prop} {E : Prop}
    (hg : o.guard = none) (s x : Operand) (t : TypeId) (hop : o.op = Op.call { callee := Callee.builtin Builtin.append, args := #[s, x], argTypes := #[t, t] })
    (base : Nat) (e : TypeId) (i : TypeInfo) (size : Nat) (h1 : P.underlying t = some (.slice e)) (h2 : P.info? e = some i)
    (v : Value) (k : Nat) (xs : List Value) (hs : a.eval s = v) (hown : w.ownsRow base e size v k xs) (hx : a.eval x = .slice none 0 0)
    (hK : K (a.put o.dst v) w) :
    if Region.wanted o (yielded ops a.tmps) = true then Oper.wp P o a w K Q else E := by
  have hw : Region.wanted o (yielded ops a.tmps) = true := by simp [Region.wanted, hg]
  rw [if_pos hw]
  have hrun := run_append_owned_none (P := P) (w := w) base t o.type e i size h1 h2 v k xs hown
  unfold Oper.wp
  simp [execOp, hop, resolve, invoke, builtin, hs, hx, hrun, Result.andThen]
  exact hK
theorem info_mod : (Try.prog.info? 27).map (fun i => (i.zero, i.size, i.bytes)) = some (some (.agg #[.int .u8 0, .slice none 0 0]), 2, 32) := by kernel_rfl
/-- The cells of modules whose args are given. -/
def modC : List Md → List Value → List Value
  | m :: l, v :: vs => .int .u8 m.c.toNat :: v :: modC l vs
  | _, _ => []
theorem modC_length : ∀ (l : List Md) (vs : List Value), l.length = vs.length → (modC l vs).length = l.length * 2
  | [], [], _ => rfl
  | m :: l, v :: vs, h => by
    have := modC_length l vs (by simpa using h)
    simp [modC, this]; omega
  | [], _ :: _, h => by simp at h
  | _ :: _, [], h => by simp at h
theorem modC_snoc : ∀ (l : List Md) (vs : List Value) (m : Md) (v : Value), l.length = vs.length → modC (l ++ [m]) (vs ++ [v]) = modC l vs ++ [.int .u8 m.c.toNat, v]
  | [], [], m, v, _ => rfl
  | a :: l, b :: vs, m, v, h => by
    have := modC_snoc l vs m v (by simpa using h)
    simp [modC, this]
  | [], _ :: _, _, _, h => by simp at h
  | _ :: _, [], _, _, h => by simp at h
theorem modC_get : ∀ (l : List Md) (vs : List Value) (k : Nat) (h1 : k < l.length) (h2 : k < vs.length), (modC l vs)[k * 2]? = some (.int .u8 l[k].c.toNat) ∧ (modC l vs)[k * 2 + 1]? = some vs[k]
  | m :: l, v :: vs, 0, _, _ => ⟨rfl, rfl⟩
  | m :: l, v :: vs, k + 1, h1, h2 => by
    have := modC_get l vs k (by simpa using h1) (by simpa using h2)
    have e : (k + 1) * 2 = k * 2 + 1 + 1 := by omega
    simp only [modC, e, List.getElem?_cons_succ, List.getElem_cons_succ]
    exact this
/-- Args in memory of the call's own. -/
structure ArgOwn (w : World) (base : Nat) (rb : Option Nat) (v : Value) (a : List Int) : Prop where
  own : w.ownsRow base 3 1 v a.length (valsL a)
  some : ∃ b cap, v = .slice (Option.some ⟨b, 0, Option.none⟩) a.length cap ∧ base ≤ b ∧ b < w.heap.size
  apart : v.ownBlock ≠ rb
/-- A word in memory of the call's own. -/
structure ModOwn (w : World) (base : Nat) (v : Value) (l : List Md) (vs : List Value) : Prop where
  len : vs.length = l.length
  row : w.ownsRow base 27 2 v l.length (modC l vs)
  args : ∀ k, (h : k < l.length) → (h2 : k < vs.length) → ArgOwn w base v.ownBlock vs[k] l[k].a
theorem ArgOwn.ints {w : World} {base : Nat} {rb : Option Nat} {v : Value} {a : List Int} (h : ArgOwn w base rb v a) : Ints w v a := ints_of_owned h.own
theorem ModOwn.mods {w : World} {base : Nat} {v : Value} {l : List Md} {vs : List Value} (h : ModOwn w base v l vs) : Mods w v l := by
  rcases Nat.eq_zero_or_pos l.length with h0 | h0
  · have e : l = [] := List.length_eq_zero_iff.1 h0
    subst e
    rcases h.row.2 with ⟨hv, _⟩ | ⟨g, cap, cur, hv, _⟩
    · rw [hv]; exact .none _ _
    · rw [hv]; exact .none _ _
  · rcases h.row.2 with ⟨_, h1⟩ | ⟨g, cap, cur, hv, hb, hg, hc1, hc2, hsz, htake⟩
    · omega
    · rw [hv]
      have hcell : ∀ j, j < l.length * 2 → w.cell? ⟨g, j, none⟩ = (modC l vs)[j]? := by
        intro j hj
        rw [← htake, List.getElem?_take_of_lt hj, Array.getElem?_toList]
        simp [World.cell?, hg]
      refine .some g 0 cap l h0 (lt_of_block hg) fun i hi => ?_
      have hv2 : i < vs.length := by rw [h.len]; exact hi
      obtain ⟨g1, g2⟩ := modC_get l vs i hi hv2
      have ha := h.args i hi hv2
      obtain ⟨b, c, hb2, _⟩ := ha.some
      refine ⟨by rw [Nat.zero_add, hcell _ (by omega), g1], vs[i], by rw [Nat.zero_add, hcell _ (by omega), g2], ha.ints, .inr ⟨_, _, _, hb2⟩⟩
/-- Args are as they were in a world that has grown otherwise. -/
theorem ArgOwn.kept {w w' : World} {base : Nat} {rb rb' row : Option Nat} {v : Value} {a : List Int} (h : ArgOwn w base rb v a) (hg : w.grownBy w' row) (hne : v.ownBlock ≠ row) (hr : v.ownBlock ≠ rb') : ArgOwn w' base rb' v a := by
  obtain ⟨b, c, hb, h1, h2⟩ := h.some
  exact ⟨h.own.kept hg (.inr hne), ⟨b, c, hb, h1, Nat.lt_of_lt_of_le h2 hg.size⟩, hr⟩
/-- Where Twin stands. -/
structure TwAt (w : World) (l : List Md) (k : Nat) (v : Value) (wr : World) : Prop where
  hi : k ≤ l.length
  below : Below w.heap.size w wr
  own : ∃ vs, ModOwn wr w.heap.size v (l.take k) vs
theorem twAt_start (w : World) (l : List Md) : TwAt w l 0 (.slice none 0 0) w :=
  ⟨Nat.zero_le _, Below.refl _ _, [], by simp, by simpa [modC] using World.ownsRow_nil w w.heap.size 27 2, fun k h _ => by simp at h⟩
theorem owns_mono {w : World} {b b' n size : Nat} {e : TypeId} {v : Value} {xs : List Value} (h : w.ownsRow b e size v n xs) (hb : b' ≤ b) : w.ownsRow b' e size v n xs := by
  refine ⟨h.1, ?_⟩
  rcases h.2 with h2 | ⟨g, cap, cur, h1, h2, h3⟩
  · exact .inl h2
  · exact .inr ⟨g, cap, cur, h1, by omega, h3⟩
theorem owns_lt {w : World} {b n size : Nat} {e : TypeId} {v : Value} {xs : List Value} (h : w.ownsRow b e size v n xs) : ∀ g, v.ownBlock = some g → b ≤ g ∧ g < w.heap.size := by
  intro g hg
  rcases h.2 with ⟨h2, _⟩ | ⟨g', cap, cur, h1, h2, h3, _⟩
  · rw [h2] at hg; simp [Value.ownBlock] at hg
  · rw [h1] at hg; simp [Value.ownBlock] at hg; subst hg; exact ⟨h2, lt_of_block h3⟩
theorem grown_of_below {X Y : World} (h : Below X.heap.size X Y) (row : Option Nat) : X.grownBy Y row := ⟨h.os, h.tape, h.output, h.size, fun k hk _ => h.block k hk⟩
theorem twAt_step {w wr X1 X2 X3 X4 : World} {l : List Md} {k : Nat} {v v1 v2 : Value} {vs : List Value} (hk : k < l.length) (hB : Below w.heap.size w wr) (hO : ModOwn wr w.heap.size v (l.take k) vs)
    (e1 : Below wr.heap.size wr X1) (s1 : X1.heap.size = wr.heap.size + 1)
    (o1 : X2.ownsRow wr.heap.size 3 1 v1 l[k].a.length (valsL l[k].a)) (g1 : X1.grownBy X2 (some wr.heap.size)) (hv1 : ∃ b cap, v1 = .slice (some ⟨b, 0, none⟩) l[k].a.length cap) (b1 : v1.ownBlock = some wr.heap.size ∨ v1.ownBlock = some X1.heap.size)
    (e3 : Below X2.heap.size X2 X3) (s3 : X2.heap.size < X3.heap.size)
    (o4 : X4.ownsRow w.heap.size 27 2 v2 (k + 1) (modC (l.take k) vs ++ [.int .u8 l[k].c.toNat, v1])) (g4 : X3.grownBy X4 v.ownBlock) (b4 : v2.ownBlock = v.ownBlock ∨ v2.ownBlock = some X3.heap.size) :
    TwAt w l (k + 1) v2 X4 := by
  have hlen : (l.take k).length = k := by rw [List.length_take]; omega
  have hvl := owns_lt hO.row
  have z1 := hB.size
  have z2 := g1.size
  have z3 := e3.size
  have z4 := g4.size
  have b12 : Below w.heap.size w X2 := (hB.trans (e1.mono z1)).grown g1 (by omega) (fun j e => by cases e; exact z1)
  have b13 : Below w.heap.size w X3 := b12.trans (e3.mono b12.size)
  have b14 : Below w.heap.size w X4 := b13.grown g4 b13.size (fun j e => (hvl j e).1)
  have hg0 : v.ownBlock ≠ some wr.heap.size := fun e => by have := (hvl _ e).2; omega
  -- the new args
  have a1 : ArgOwn X2 w.heap.size v.ownBlock v1 l[k].a := by
    obtain ⟨b, cap, hb⟩ := hv1
    have hb2 := owns_lt o1 b (by rw [hb]; rfl)
    refine ⟨owns_mono o1 z1, ⟨b, cap, hb, by omega, hb2.2⟩, fun e => ?_⟩
    have h3 : v.ownBlock = some b := by rw [← e, hb]; rfl
    have := (hvl b h3).2
    omega
  have n1 : v1.ownBlock ≠ v2.ownBlock := by
    obtain ⟨b, cap, hb⟩ := hv1
    have hb2 := owns_lt o1 b (by rw [hb]; rfl)
    intro e
    have e5 : v1.ownBlock = some b := by rw [hb]; rfl
    rcases b4 with h | h
    · have := (hvl b (by rw [← h, ← e, e5])).2; omega
    · rw [e5, h] at e
      have := Option.some.inj e; omega
  have a1' : ArgOwn X4 w.heap.size v2.ownBlock v1 l[k].a :=
    (a1.kept (rb' := v.ownBlock) (grown_of_below e3 none) (by obtain ⟨b, cap, hb⟩ := hv1; rw [hb]; simp [Value.ownBlock]) a1.apart).kept g4 a1.apart n1
  refine ⟨hk, b14, vs ++ [v1], ?_⟩
  have ht : l.take (k + 1) = l.take k ++ [l[k]] := by rw [List.take_add_one, List.getElem?_eq_getElem hk]; rfl
  have hl2 : (l.take (k + 1)).length = k + 1 := by rw [List.length_take]; omega
  refine ⟨by rw [List.length_append, hO.len, hlen, hl2]; rfl, ?_, ?_⟩
  · rw [hl2, ht, modC_snoc _ _ _ _ (by rw [hO.len])]; exact o4
  · intro j hj hj2
    rw [hl2] at hj
    rcases Nat.lt_or_eq_of_le (Nat.le_of_lt_succ hj) with h | h
    · have hj3 : j < (l.take k).length := by rw [hlen]; exact h
      have hj4 : j < vs.length := by rw [hO.len]; exact hj3
      have e5 : (l.take (k + 1))[j] = (l.take k)[j] := by simp
      have e6 : (vs ++ [v1])[j] = vs[j] := List.getElem_append_left hj4
      rw [e5, e6]
      have A := hO.args j hj3 hj4
      obtain ⟨b, cap, hb, q1, q2⟩ := A.some
      have ob : vs[j].ownBlock = some b := by rw [hb]; rfl
      have m1 : vs[j].ownBlock ≠ v2.ownBlock := by
        intro e
        rcases b4 with h | h
        · exact A.apart (e.trans h)
        · rw [ob, h] at e
          have := Option.some.inj e; omega
      refine (((A.kept (rb' := v.ownBlock) (grown_of_below e1 none) (by rw [ob]; simp) A.apart).kept (rb' := v.ownBlock) g1 (by rw [ob]; intro e; have := Option.some.inj e; omega) A.apart).kept (rb' := v.ownBlock) (grown_of_below e3 none) (by rw [ob]; simp) A.apart).kept g4 A.apart m1
    · subst h
      have e5 : (l.take (j + 1))[j] = l[j] := by simp
      have e6 : (vs ++ [v1])[j]'hj2 = v1 := by
        rw [List.getElem_append_right (by rw [hO.len, hlen]; omega)]
        simp
      rw [e5, e6]; exact a1'
theorem two_new (w : World) (x y : Value) (t : TypeId) : ∀ j u, [x, y][j]? = some u → (w.alloc (.cells #[x, y] t)).cell? ((⟨w.heap.size, 0, none⟩ : Addr).add j) = some u := by
  intro j u h
  have e := heap_alloc_new w (.cells #[x, y] t)
  match j, h with
  | 0, h => simp at h; subst h; exact cell_two0 e
  | 1, h => simp at h; subst h; exact cell_two1 e
  | j + 2, h => simp at h
theorem owned_shape {w : World} {base n size : Nat} {e : TypeId} {v : Value} {xs : List Value} (h : w.ownsRow base e size v n xs) (hn : v ≠ .slice none 0 0) : ∃ b cap, v = .slice (some ⟨b, 0, none⟩) n cap := by
  rcases h.2 with ⟨h2, _⟩ | ⟨g, cap, cur, h1, _⟩
  · exact absurd h2 hn
  · exact ⟨g, cap, h1⟩
theorem vals_one (l : List Int) : ∀ u ∈ valsL l, u.oneCell' = true := by
  intro u hu
  simp [valsL] at hu
  obtain ⟨x, _, rfl⟩ := hu
  rfl
theorem ints_cells {w : World} {ad : Addr} {n c : Nat} {a : List Int} (h : Ints w (.slice (some ad) n c) a) : ∀ W, Below w.heap.size w W → ∀ j u, (valsL a)[j]? = some u → W.cell? (ad.add j) = some u := by
  intro W hb j u hu
  have hj : j < a.length := by
    have := (List.getElem?_eq_some_iff.1 hu).1
    simpa [valsL] using this
  obtain ⟨b, off, cap, hv, hc, _⟩ := (h.later hb).at hj
  cases hv
  have e : (valsL a)[j]? = some (.int .i64 a[j]) := by simp [valsL, hj]
  rw [e] at hu
  rw [show (⟨b, off, none⟩ : Addr).add j = ⟨b, off + j, none⟩ by simp [Addr.add], hc]; exact hu
theorem far_cell {X Y : World} {row : Option Nat} (hg : X.grownBy Y row) (a : Addr) (hlt : a.block < X.heap.size) (hne : some a.block ≠ row) : Y.cell? a = X.cell? a := by
  simp only [World.cell?, hg.block a.block hlt hne]
end Go.Proofs.Ytkjjehnfibfngaa
