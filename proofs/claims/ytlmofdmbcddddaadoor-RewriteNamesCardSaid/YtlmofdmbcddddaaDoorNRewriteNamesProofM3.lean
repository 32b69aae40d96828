/-
  Texts of the proof, merged: NWordTwin, NWordPrE, NWordFr, NWordPrF, NWordStM, NWordPrG.
-/
import Derived.Test.YtlmofdmbcddddaaDoorNRewriteNamesProofM2
import Derived.Laws.OwnMore
import Derived.Deep.RegionLaw
import Derived.Laws.EntriesVeiled
import Derived.Laws.CopyOwn
import Derived.Lib.LazyBuf
import Derived.OneCell
namespace Go.Proofs.YtlmofdmbcddddaaDoor
open Go.RowKit
open WM
set_option linter.unusedVariables false
set_option linter.unusedSimpArgs false

/-- An append to a row of the call's own, as a step of a region that draws its order. -/
theorem step_append_own {P : Program} (w : World) {ops : Array Oper} {o : Oper} {a : Act} {K : Act → World → Prop} {Q : Exit → Act → World → Prop} {E : Prop}
    (hg : o.guard = none) (s x : Operand) (t : TypeId) (hop : o.op = Op.call { callee := Callee.builtin Builtin.append, args := #[s, x], argTypes := #[t, t] })
    (base : Nat) (e : TypeId) (i : TypeInfo) (z : Value) (size bytes : Nat) (h1 : P.underlying t = some (.slice e)) (h2 : P.info? e = some i) (h3 : i.zero = some z) (h4 : i.size = size) (h5 : i.bytes = bytes) (h6 : z.cells.size = size) (h7 : 0 < size)
    (v : Value) (k : Nat) (xs : List Value) (hs : a.eval s = v) (hown : w.ownsRow base e size v k xs) (ad : Addr) (m c : Nat) (news : List Value) (hx : a.eval x = .slice (some ad) m c) (hn : news.length = m * size)
    (hc : ∀ j u, news[j]? = some u → w.cell? (ad.add j) = some u) (h1c : ∀ u ∈ news, u.oneCell' = true) (b1 : k + m ≤ maxLen) (b2 : (k + m) * bytes ≤ 140737488355328) (b3 : base ≤ w.heap.size)
    (hK : ∀ v' w', w'.ownsRow base e size v' (k + m) (xs ++ news) → w.grownBy w' v.ownBlock → (v' = .slice none 0 0 ↔ v = .slice none 0 0 ∧ m = 0) → (v'.ownBlock = v.ownBlock ∨ v'.ownBlock = some w.heap.size) → K (a.put o.dst v') w') :
    if Region.wanted o (yielded ops a.tmps) = true then Oper.wp P o a w K Q else E := by
  have hw : Region.wanted o (yielded ops a.tmps) = true := by simp [Region.wanted, hg]
  rw [if_pos hw]
  obtain ⟨v', w', hrun, r1, r2, r3, r4⟩ := run_append_own_at (P := P) w base t o.type e i z size bytes h1 h2 h3 h4 h5 h6 h7 v k xs hown ad m c news hn hc h1c b1 b2 b3
  unfold Oper.wp
  simp [execOp, hop, resolve, invoke, builtin, hs, hx, hrun, Result.andThen]
  exact hK _ _ r1 r2 r3 r4
/-- The same where nothing comes, out of a slice that is nil. -/
theorem step_append_nil {P : Program} (w : World) {ops : Array Oper} {o : Oper} {a : Act} {K : Act → World → Prop} {Q : Exit → Act → World → Prop} {E : Prop}
    (hg : o.guard = none) (s x : Operand) (t : TypeId) (hop : o.op = Op.call { callee := Callee.builtin Builtin.append, args := #[s, x], argTypes := #[t, t] })
    (base : Nat) (e : TypeId) (i : TypeInfo) (size : Nat) (h1 : P.underlying t = some (.slice e)) (h2 : P.info? e = some i)
    (v : Value) (k : Nat) (xs : List Value) (hs : a.eval s = v) (hown : w.ownsRow base e size v k xs) (hx : a.eval x = .slice none 0 0)
    (hK : K (a.put o.dst v) w) :
    if Region.wanted o (yielded ops a.tmps) = true then Oper.wp P o a w K Q else E := by
  have hw : Region.wanted o (yielded ops a.tmps) = true := by simp [Region.wanted, hg]
  rw [if_pos hw]
  have hrun := run_append_owned_none (P := P) (w := w) base t o.type e i size h1 h2 v k xs hown
  unfold Oper.wp
  simp [execOp, hop, resolve, invoke, builtin, hs, hx, hrun, Result.andThen]
  exact hK
theorem info_mod : (Tryd.prog.info? 25).map (fun i => (i.zero, i.size, i.bytes)) = some (some (.agg #[.int .u8 0, .slice none 0 0]), 2, 32) := by kernel_rfl
/-- The cells of modules whose args are given. -/
def modC : List Md → List Value → List Value
  | m :: l, v :: vs => .int .u8 m.c.toNat :: v :: modC l vs
  | _, _ => []
theorem modC_length : ∀ (l : List Md) (vs : List Value), l.length = vs.length → (modC l vs).length = l.length * 2
  | [], [], _ => rfl
  | m :: l, v :: vs, h => by
    have := modC_length l vs (by simpa using h)
    simp [modC, this]; omega
  | [], _ :: _, h => by simp at h
  | _ :: _, [], h => by simp at h
theorem modC_snoc : ∀ (l : List Md) (vs : List Value) (m : Md) (v : Value), l.length = vs.length → modC (l ++ [m]) (vs ++ [v]) = modC l vs ++ [.int .u8 m.c.toNat, v]
  | [], [], m, v, _ => rfl
  | a :: l, b :: vs, m, v, h => by
    have := modC_snoc l vs m v (by simpa using h)
    simp [modC, this]
  | [], _ :: _, _, _, h => by simp at h
  | _ :: _, [], _, _, h => by simp at h
theorem modC_get : ∀ (l : List Md) (vs : List Value) (k : Nat) (h1 : k < l.length) (h2 : k < vs.length), (modC l vs)[k * 2]? = some (.int .u8 l[k].c.toNat) ∧ (modC l vs)[k * 2 + 1]? = some vs[k]
  | m :: l, v :: vs, 0, _, _ => ⟨rfl, rfl⟩
  | m :: l, v :: vs, k + 1, h1, h2 => by
    have := modC_get l vs k (by simpa using h1) (by simpa using h2)
    have e : (k + 1) * 2 = k * 2 + 1 + 1 := by omega
    simp only [modC, e, List.getElem?_cons_succ, List.getElem_cons_succ]
    exact this
/-- Args in memory of the call's own. -/
structure ArgOwn (w : World) (base : Nat) (rb : Option Nat) (v : Value) (a : List Int) : Prop where
  own : w.ownsRow base 3 1 v a.length (valsL a)
  some : ∃ b cap, v = .slice (Option.some ⟨b, 0, Option.none⟩) a.length cap ∧ base ≤ b ∧ b < w.heap.size
  apart : v.ownBlock ≠ rb
/-- A word in memory of the call's own. -/
structure ModOwn (w : World) (base : Nat) (v : Value) (l : List Md) (vs : List Value) : Prop where
  len : vs.length = l.length
  row : w.ownsRow base 25 2 v l.length (modC l vs)
  args : ∀ k, (h : k < l.length) → (h2 : k < vs.length) → ArgOwn w base v.ownBlock vs[k] l[k].a
theorem ArgOwn.ints {w : World} {base : Nat} {rb : Option Nat} {v : Value} {a : List Int} (h : ArgOwn w base rb v a) : Ints w v a := ints_of_owned h.own
theorem ModOwn.mods {w : World} {base : Nat} {v : Value} {l : List Md} {vs : List Value} (h : ModOwn w base v l vs) : Mods w v l := by
  rcases Nat.eq_zero_or_pos l.length with h0 | h0
  · have e : l = [] := List.length_eq_zero_iff.1 h0
    subst e
    rcases h.row.2 with ⟨hv, _⟩ | ⟨g, cap, cur, hv, _⟩
    · rw [hv]; exact .none _ _
    · rw [hv]; exact .none _ _
  · rcases h.row.2 with ⟨_, h1⟩ | ⟨g, cap, cur, hv, hb, hg, hc1, hc2, hsz, htake⟩
    · omega
    · rw [hv]
      have hcell : ∀ j, j < l.length * 2 → w.cell? ⟨g, j, none⟩ = (modC l vs)[j]? := by
        intro j hj
        rw [← htake, List.getElem?_take_of_lt hj, Array.getElem?_toList]
        simp [World.cell?, hg]
      refine .some g 0 cap l h0 (lt_of_block hg) fun i hi => ?_
      have hv2 : i < vs.length := by rw [h.len]; exact hi
      obtain ⟨g1, g2⟩ := modC_get l vs i hi hv2
      have ha := h.args i hi hv2
      obtain ⟨b, c, hb2, _⟩ := ha.some
      refine ⟨by rw [Nat.zero_add, hcell _ (by omega), g1], vs[i], by rw [Nat.zero_add, hcell _ (by omega), g2], ha.ints, .inr ⟨_, _, _, hb2⟩⟩
/-- Args are as they were in a world that has grown otherwise. -/
theorem ArgOwn.kept {w w' : World} {base : Nat} {rb rb' row : Option Nat} {v : Value} {a : List Int} (h : ArgOwn w base rb v a) (hg : w.grownBy w' row) (hne : v.ownBlock ≠ row) (hr : v.ownBlock ≠ rb') : ArgOwn w' base rb' v a := by
  obtain ⟨b, c, hb, h1, h2⟩ := h.some
  exact ⟨h.own.kept hg (.inr hne), ⟨b, c, hb, h1, Nat.lt_of_lt_of_le h2 hg.size⟩, hr⟩
/-- Where Twin stands. -/
structure TwAt (w : World) (l : List Md) (k : Nat) (v : Value) (wr : World) : Prop where
  hi : k ≤ l.length
  below : Below w.heap.size w wr
  own : ∃ vs, ModOwn wr w.heap.size v (l.take k) vs
theorem twAt_start (w : World) (l : List Md) : TwAt w l 0 (.slice none 0 0) w :=
  ⟨Nat.zero_le _, Below.refl _ _, [], by simp, by simpa [modC] using World.ownsRow_nil w w.heap.size 25 2, fun k h _ => by simp at h⟩
theorem owns_mono {w : World} {b b' n size : Nat} {e : TypeId} {v : Value} {xs : List Value} (h : w.ownsRow b e size v n xs) (hb : b' ≤ b) : w.ownsRow b' e size v n xs := by
  refine ⟨h.1, ?_⟩
  rcases h.2 with h2 | ⟨g, cap, cur, h1, h2, h3⟩
  · exact .inl h2
  · exact .inr ⟨g, cap, cur, h1, by omega, h3⟩
theorem owns_lt {w : World} {b n size : Nat} {e : TypeId} {v : Value} {xs : List Value} (h : w.ownsRow b e size v n xs) : ∀ g, v.ownBlock = some g → b ≤ g ∧ g < w.heap.size := by
  intro g hg
  rcases h.2 with ⟨h2, _⟩ | ⟨g', cap, cur, h1, h2, h3, _⟩
  · rw [h2] at hg; simp [Value.ownBlock] at hg
  · rw [h1] at hg; simp [Value.ownBlock] at hg; subst hg; exact ⟨h2, lt_of_block h3⟩
theorem grown_of_below {X Y : World} (h : Below X.heap.size X Y) (row : Option Nat) : X.grownBy Y row := ⟨h.os, h.tape, h.output, h.size, fun k hk _ => h.block k hk⟩
theorem twAt_step {w wr X1 X2 X3 X4 : World} {l : List Md} {k : Nat} {v v1 v2 : Value} {vs : List Value} (hk : k < l.length) (hB : Below w.heap.size w wr) (hO : ModOwn wr w.heap.size v (l.take k) vs)
    (e1 : Below wr.heap.size wr X1) (s1 : X1.heap.size = wr.heap.size + 1)
    (o1 : X2.ownsRow wr.heap.size 3 1 v1 l[k].a.length (valsL l[k].a)) (g1 : X1.grownBy X2 (some wr.heap.size)) (hv1 : ∃ b cap, v1 = .slice (some ⟨b, 0, none⟩) l[k].a.length cap) (b1 : v1.ownBlock = some wr.heap.size ∨ v1.ownBlock = some X1.heap.size)
    (e3 : Below X2.heap.size X2 X3) (s3 : X2.heap.size < X3.heap.size)
    (o4 : X4.ownsRow w.heap.size 25 2 v2 (k + 1) (modC (l.take k) vs ++ [.int .u8 l[k].c.toNat, v1])) (g4 : X3.grownBy X4 v.ownBlock) (b4 : v2.ownBlock = v.ownBlock ∨ v2.ownBlock = some X3.heap.size) :
    TwAt w l (k + 1) v2 X4 := by
  have hlen : (l.take k).length = k := by rw [List.length_take]; omega
  have hvl := owns_lt hO.row
  have z1 := hB.size
  have z2 := g1.size
  have z3 := e3.size
  have z4 := g4.size
  have b12 : Below w.heap.size w X2 := (hB.trans (e1.mono z1)).grown g1 (by omega) (fun j e => by cases e; exact z1)
  have b13 : Below w.heap.size w X3 := b12.trans (e3.mono b12.size)
  have b14 : Below w.heap.size w X4 := b13.grown g4 b13.size (fun j e => (hvl j e).1)
  have hg0 : v.ownBlock ≠ some wr.heap.size := fun e => by have := (hvl _ e).2; omega
  -- the new args
  have a1 : ArgOwn X2 w.heap.size v.ownBlock v1 l[k].a := by
    obtain ⟨b, cap, hb⟩ := hv1
    have hb2 := owns_lt o1 b (by rw [hb]; rfl)
    refine ⟨owns_mono o1 z1, ⟨b, cap, hb, by omega, hb2.2⟩, fun e => ?_⟩
    have h3 : v.ownBlock = some b := by rw [← e, hb]; rfl
    have := (hvl b h3).2
    omega
  have n1 : v1.ownBlock ≠ v2.ownBlock := by
    obtain ⟨b, cap, hb⟩ := hv1
    have hb2 := owns_lt o1 b (by rw [hb]; rfl)
    intro e
    have e5 : v1.ownBlock = some b := by rw [hb]; rfl
    rcases b4 with h | h
    · have := (hvl b (by rw [← h, ← e, e5])).2; omega
    · rw [e5, h] at e
      have := Option.some.inj e; omega
  have a1' : ArgOwn X4 w.heap.size v2.ownBlock v1 l[k].a :=
    (a1.kept (rb' := v.ownBlock) (grown_of_below e3 none) (by obtain ⟨b, cap, hb⟩ := hv1; rw [hb]; simp [Value.ownBlock]) a1.apart).kept g4 a1.apart n1
  refine ⟨hk, b14, vs ++ [v1], ?_⟩
  have ht : l.take (k + 1) = l.take k ++ [l[k]] := by rw [List.take_add_one, List.getElem?_eq_getElem hk]; rfl
  have hl2 : (l.take (k + 1)).length = k + 1 := by rw [List.length_take]; omega
  refine ⟨by rw [List.length_append, hO.len, hlen, hl2]; rfl, ?_, ?_⟩
  · rw [hl2, ht, modC_snoc _ _ _ _ (by rw [hO.len])]; exact o4
  · intro j hj hj2
    rw [hl2] at hj
    rcases Nat.lt_or_eq_of_le (Nat.le_of_lt_succ hj) with h | h
    · have hj3 : j < (l.take k).length := by rw [hlen]; exact h
      have hj4 : j < vs.length := by rw [hO.len]; exact hj3
      have e5 : (l.take (k + 1))[j] = (l.take k)[j] := by simp
      have e6 : (vs ++ [v1])[j] = vs[j] := List.getElem_append_left hj4
      rw [e5, e6]
      have A := hO.args j hj3 hj4
      obtain ⟨b, cap, hb, q1, q2⟩ := A.some
      have ob : vs[j].ownBlock = some b := by rw [hb]; rfl
      have m1 : vs[j].ownBlock ≠ v2.ownBlock := by
        intro e
        rcases b4 with h | h
        · exact A.apart (e.trans h)
        · rw [ob, h] at e
          have := Option.some.inj e; omega
      refine (((A.kept (rb' := v.ownBlock) (grown_of_below e1 none) (by rw [ob]; simp) A.apart).kept (rb' := v.ownBlock) g1 (by rw [ob]; intro e; have := Option.some.inj e; omega) A.apart).kept (rb' := v.ownBlock) (grown_of_below e3 none) (by rw [ob]; simp) A.apart).kept g4 A.apart m1
    · subst h
      have e5 : (l.take (j + 1))[j] = l[j] := by simp
      have e6 : (vs ++ [v1])[j]'hj2 = v1 := by
        rw [List.getElem_append_right (by rw [hO.len, hlen]; omega)]
        simp
      rw [e5, e6]; exact a1'
theorem two_new (w : World) (x y : Value) (t : TypeId) : ∀ j u, [x, y][j]? = some u → (w.alloc (.cells #[x, y] t)).cell? ((⟨w.heap.size, 0, none⟩ : Addr).add j) = some u := by
  intro j u h
  have e := heap_alloc_new w (.cells #[x, y] t)
  match j, h with
  | 0, h => simp at h; subst h; exact cell_two0 e
  | 1, h => simp at h; subst h; exact cell_two1 e
  | j + 2, h => simp at h
theorem owned_shape {w : World} {base n size : Nat} {e : TypeId} {v : Value} {xs : List Value} (h : w.ownsRow base e size v n xs) (hn : v ≠ .slice none 0 0) : ∃ b cap, v = .slice (some ⟨b, 0, none⟩) n cap := by
  rcases h.2 with ⟨h2, _⟩ | ⟨g, cap, cur, h1, _⟩
  · exact absurd h2 hn
  · exact ⟨g, cap, h1⟩
theorem vals_one (l : List Int) : ∀ u ∈ valsL l, u.oneCell' = true := by
  intro u hu
  simp [valsL] at hu
  obtain ⟨x, _, rfl⟩ := hu
  rfl
theorem ints_cells {w : World} {ad : Addr} {n c : Nat} {a : List Int} (h : Ints w (.slice (some ad) n c) a) : ∀ W, Below w.heap.size w W → ∀ j u, (valsL a)[j]? = some u → W.cell? (ad.add j) = some u := by
  intro W hb j u hu
  have hj : j < a.length := by
    have := (List.getElem?_eq_some_iff.1 hu).1
    simpa [valsL] using this
  obtain ⟨b, off, cap, hv, hc, _⟩ := (h.later hb).at hj
  cases hv
  have e : (valsL a)[j]? = some (.int .i64 a[j]) := by simp [valsL, hj]
  rw [e] at hu
  rw [show (⟨b, off, none⟩ : Addr).add j = ⟨b, off + j, none⟩ by simp [Addr.add], hc]; exact hu
theorem far_cell {X Y : World} {row : Option Nat} (hg : X.grownBy Y row) (a : Addr) (hlt : a.block < X.heap.size) (hne : some a.block ≠ row) : Y.cell? a = X.cell? a := by
  simp only [World.cell?, hg.block a.block hlt hne]
end Go.Proofs.YtlmofdmbcddddaaDoor
namespace Go.Proofs.YtlmofdmbcddddaaDoor
open Go.RowKit
open WM
set_option linter.unusedVariables false
set_option linter.unusedSimpArgs false

theorem run_copy_many {P : Program} (w : World) (dT sT ty elem : TypeId) (sz g n c1 c2 : Nat) (a : Addr) (cur : Array Value) (t : TypeId) (cs : List Value)
    (hu : P.underlying dT = some (.slice elem)) (hs : (P.info? elem).map (·.size) = some sz)
    (hg : w.heap[g]? = some (.cells cur t (0, 0))) (hn : cs.length = n * sz)
    (hsrc : ∀ j v, cs[j]? = some v → w.cell? (a.add j) = some v) (hfit : cs.length ≤ cur.size) (h1 : ∀ v ∈ cs, v.oneCell' = true) :
    (Builtin.copy_ #[dT, sT] ty #[.slice (some ⟨g, 0, none⟩) n c1, .slice (some a) n c2]).run P w =
      .ok (goInt n) (w.setRow g (cs ++ cur.toList.drop cs.length).toArray) := by
  have hl := run_loadCells_list (P := P) w a cs hsrc
  have hst := run_storeCells_at P g 0 t cs 0 cur w hg (by simpa using hfit) h1
  rw [hn] at hl
  cases hq : P.info? elem with
  | none => simp [hq] at hs
  | some i =>
    have hi : i.size = sz := by simpa [hq] using hs
    simp [Builtin.copy_, run_underlying hu, Builtin.lenOf, Builtin.firstCells, sizeOf, typeInfo, hq, hi, hl, hst]
theorem copy_run {P : Program} (w0 : World) (T0 : Array Value) (tt : TypeId) (dT ty elem : TypeId) (sz n c2 : Nat) (a : Addr) (cs : List Value)
    (hu : P.underlying dT = some (.slice elem)) (hs : (P.info? elem).map (·.size) = some sz) (hn : cs.length = n * sz)
    (hsrc : ∀ j v, cs[j]? = some v → (w0.alloc (.cells T0 tt)).cell? (a.add j) = some v) (hfit : T0.size = n * sz) (h1 : ∀ v ∈ cs, v.oneCell' = true) :
    ∃ W, (Builtin.copy_ #[dT, dT] ty #[.slice (some ⟨w0.heap.size, 0, none⟩) n n, .slice (some a) n c2]).run P (w0.alloc (.cells T0 tt)) = .ok (.int .i64 (n : Int)) W ∧ W.heap[w0.heap.size]? = some (.cells cs.toArray tt (0, 0)) ∧ Below w0.heap.size w0 W := by
  have hg := heap_alloc_new w0 (.cells T0 tt)
  have hrun := run_copy_many (P := P) (w0.alloc (.cells T0 tt)) dT dT ty elem sz w0.heap.size n n c2 a T0 tt cs hu hs hg hn hsrc (by omega) h1
  have e : T0.toList.drop cs.length = [] := List.drop_eq_nil_of_le (by rw [Array.length_toList]; omega)
  rw [e, List.append_nil] at hrun
  exact ⟨_, hrun, setRow_heap _ _ _ _ tt _ hg, below_setRow ((Below.refl _ _).alloc (Nat.le_refl _) _) (Nat.le_refl _) _⟩
theorem valsL_length (l : List Int) : (valsL l).length = l.length := by simp [valsL]
/-- A row that has been filled is owned. -/
theorem filled_own {w w' : World} {g n size : Nat} {cs : List Value} {e : TypeId} {base : Nat} (h : w'.heap[g]? = some (.cells cs.toArray e (0, 0))) (hb : base ≤ g) (hn : cs.length = n * size) (hm : n ≤ maxLen) :
    w'.ownsRow base e size (.slice (some ⟨g, 0, none⟩) n n) n cs :=
  ⟨hn, .inr ⟨g, n, cs.toArray, rfl, hb, h, Nat.le_refl _, hm, by simpa using hn, by rw [List.toList_toArray, ← hn, List.take_length]⟩⟩
theorem nili_no (ad : Addr) (n c : Nat) (w : World) : (binOp .eql 23 (.slice (some ad) n c) (.slice none 0 0)).run Tryd.prog w = .ok (.bool false) w := run_eql_slice_nil w _ _ (some ad) n c Tryd.underlying23
theorem nili_yes (w : World) : (binOp .eql 23 (.slice none 0 0) (.slice none 0 0)).run Tryd.prog w = .ok (.bool true) w := run_eql_slice_nil w _ _ none 0 0 Tryd.underlying23
theorem nilm_no (ad : Addr) (n c : Nat) (w : World) : (binOp .eql 41 (.slice (some ad) n c) (.slice none 0 0)).run Tryd.prog w = .ok (.bool false) w := run_eql_slice_nil w _ _ (some ad) n c Tryd.underlying41
theorem nilm_yes (w : World) : (binOp .eql 41 (.slice none 0 0) (.slice none 0 0)).run Tryd.prog w = .ok (.bool true) w := run_eql_slice_nil w _ _ none 0 0 Tryd.underlying41
set_option maxRecDepth 100000 in
set_option maxHeartbeats 800000 in
theorem copiedi_any (v : Value) (a : List Int) (hmax : a.length ≤ 1000000) (w : World) (hv : Ints w v a) (hnil : NilOr v) :
    Calls Tryd.prog 28 #[v] w fun e w' => ∃ v', e = .returned v' ∧ Below w.heap.size w w' ∧ w'.ownsRow w.heap.size 3 1 v' a.length (valsL a) := by
  rcases hnil with rfl | ⟨ad, n, c, rfl⟩
  · obtain ⟨p, cap, hp⟩ := hv.slice
    simp only [Value.slice.injEq] at hp
    have ha : a = [] := List.length_eq_zero_iff.1 hp.2.1.symm
    subst ha
    clear hp hv
    have hny := nili_yes
    go_enter Tryd.func28, Tryd.ntmps28
    go_wp2_with fail
    go_ret
    exact ⟨_, rfl, Below.refl _ _, World.ownsRow_nil _ _ _ _⟩
  · obtain ⟨p, cap, hp⟩ := hv.slice
    simp only [Value.slice.injEq] at hp
    obtain ⟨hpa, hn, hcc⟩ := hp
    clear hpa hcc
    subst hn
    have HC := Lib.hid (ints_cells hv)
    have hmk : ∀ w : World, (Instr.makeSlice 23 (.int .i64 (a.length : Int)) (.int .i64 (a.length : Int))).run Tryd.prog w = .ok (.slice (some ⟨w.heap.size, 0, none⟩) a.length a.length) (w.alloc (.cells (zeros a.length) 3)) := fun w => by
      have := run_make (P := Tryd.prog) w 23 3 Tryd.t3 (.int .i64 0) Tryd.underlying23 (by kernel_rfl) (by kernel_rfl) .i64 .i64 a.length a.length (by omega) (Int.le_refl _) (by show ((8 : Nat) : Int) * (a.length : Int) ≤ _; omega) (by omega)
      rw [this]; simp only [zeros, Value.cells, Int.toNat_natCast, show (Tryd.t3).size = 1 from rfl, Nat.mul_one]
    have HL := Lib.hid (valsL_length a)
    have HE : Hid (∀ w' : World, w'.heap[w.heap.size]? = some (.cells (valsL a).toArray 3 (0, 0)) → w'.ownsRow w.heap.size 3 1 (.slice (some ⟨w.heap.size, 0, none⟩) a.length a.length) a.length (valsL a)) := Lib.hid (fun w' h => filled_own (w := w) h (Nat.le_refl _) (by rw [valsL_length]; omega) (by rw [show maxLen = 9223372036854775807 from rfl]; omega))
    have HZ := Lib.hid (zeros_size a.length)
    obtain ⟨cs, hcs⟩ : ∃ cs, valsL a = cs := ⟨_, rfl⟩
    have HO : Hid (∀ u ∈ cs, u.oneCell' = true) := Lib.hid (by rw [← hcs]; exact vals_one a)
    rw [hcs] at HC HL HE ⊢
    clear hv hcs
    have hnn := nili_no ad
    generalize a.length = n at *
    obtain ⟨W1, hrun, hw1, hb1⟩ := copy_run (P := Tryd.prog) w (zeros n) 3 23 3 3 1 n c ad cs Tryd.underlying23 (by kernel_rfl) (by rw [HL.out, Nat.mul_one]) (HC.out _ ((Below.refl _ _).alloc (Nat.le_refl _) _)) (by rw [HZ.out, Nat.mul_one]) HO.out
    have HW := Lib.hid hb1
    have HW1 := Lib.hid (HE.out _ hw1)
    clear hb1 hw1
    go_enter Tryd.func28, Tryd.ntmps28
    go_wp2_with fail
    go_ret
    exact ⟨_, rfl, HW.out, HW1.out⟩
/-- A list's modules lie somewhere: their cells. -/
theorem mods_vals {w : World} {ad : Addr} {n c : Nat} {l : List Md} (h : Mods w (.slice (some ad) n c) l) :
    ∃ vs, vs.length = l.length ∧ (∀ W, Below w.heap.size w W → ∀ j u, (modC l vs)[j]? = some u → W.cell? (ad.add j) = some u) ∧ (∀ k, (h : k < l.length) → (h2 : k < vs.length) → Ints w vs[k] l[k].a ∧ NilOr vs[k]) ∧ ∀ u ∈ modC l vs, u.oneCell' = true := by
  cases h with
  | none p cap => exact ⟨[], rfl, fun W _ j u hu => by simp [modC] at hu, fun k h => by simp at h, fun u hu => by simp [modC] at hu⟩
  | some b off cap _ hpos hlt hx =>
    have hch : ∀ i : Fin l.length, ∃ v, w.cell? ⟨b, off + i.1 * 2 + 1, none⟩ = some v ∧ Ints w v l[i.1].a ∧ NilOr v := fun i => (hx i.1 i.2).2
    obtain ⟨f, hf⟩ : ∃ f : Fin l.length → Value, ∀ i, w.cell? ⟨b, off + i.1 * 2 + 1, none⟩ = some (f i) ∧ Ints w (f i) l[i.1].a ∧ NilOr (f i) := ⟨fun i => Classical.choose (hch i), fun i => Classical.choose_spec (hch i)⟩
    have hlen : (List.ofFn f).length = l.length := List.length_ofFn
    refine ⟨List.ofFn f, hlen, ?_, ?_, ?_⟩
    · intro W hb j u hu
      have hj : j < l.length * 2 := by
        have := (List.getElem?_eq_some_iff.1 hu).1
        rwa [modC_length _ _ hlen.symm] at this
      have hk : j / 2 < l.length := by omega
      have g := modC_get l (List.ofFn f) (j / 2) hk (by rw [hlen]; exact hk)
      rw [show (⟨b, off, none⟩ : Addr).add j = ⟨b, off + j, none⟩ by simp [Addr.add], hb.cell (p := ⟨b, off + j, none⟩) hlt]
      rcases Nat.mod_two_eq_zero_or_one j with h0 | h0
      · have e : j = j / 2 * 2 := by omega
        have h1 := (hx (j / 2) hk).1
        rw [← e] at g h1
        rw [g.1] at hu
        rw [h1]; exact hu
      · have e : j = j / 2 * 2 + 1 := by omega
        have h1 := (hf ⟨j / 2, hk⟩).1
        simp only [Nat.add_assoc] at h1
        rw [← e] at g h1
        rw [g.2] at hu
        rw [h1, ← hu]; simp
    · intro k h1 h2
      have := (hf ⟨k, h1⟩).2
      simpa using this
    · intro u hu
      obtain ⟨j, hj, rfl⟩ := List.mem_iff_getElem.1 hu
      rw [modC_length _ _ hlen.symm] at hj
      have hk : j / 2 < l.length := by omega
      have g := modC_get l (List.ofFn f) (j / 2) hk (by rw [hlen]; exact hk)
      rcases Nat.mod_two_eq_zero_or_one j with h0 | h0
      · have e : j = j / 2 * 2 := by omega
        rw [← e] at g
        have := g.1
        rw [List.getElem?_eq_getElem (by rw [modC_length _ _ hlen.symm]; exact hj)] at this
        rw [Option.some.inj this]; rfl
      · have e : j = j / 2 * 2 + 1 := by omega
        rw [← e] at g
        have := g.2
        rw [List.getElem?_eq_getElem (by rw [modC_length _ _ hlen.symm]; exact hj)] at this
        rw [Option.some.inj this]
        obtain ⟨p, c, hp⟩ := (hf ⟨j / 2, hk⟩).2.1.slice
        simp [hp]; rfl
theorem made_mods (n : Nat) (hn : n ≤ 50000) (w : World) : (Instr.makeSlice 41 (.int .i64 (n : Int)) (.int .i64 (n : Int))).run Tryd.prog w = .ok (.slice (some ⟨w.heap.size, 0, none⟩) n n) (w.alloc (.cells (madeCells #[.int .u8 0, .slice none 0 0] (n * 2)) 25)) := by
  have := run_make (P := Tryd.prog) w 41 25 Tryd.t25 (.agg #[.int .u8 0, .slice none 0 0]) Tryd.underlying41 (by kernel_rfl) (by kernel_rfl) .i64 .i64 n n (by omega) (Int.le_refl _) (by show ((32 : Nat) : Int) * (n : Int) ≤ _; omega) (by omega)
  rw [this]; simp only [Value.cells, Int.toNat_natCast, show (Tryd.t25).size = 2 from rfl]
/-- How a list of modules is copied: its row, not its args. -/
def CpEnd (l : List Md) (w : World) (e : Ending) (w' : World) : Prop :=
  ∃ v' vs, e = .returned v' ∧ Below w.heap.size w w' ∧ vs.length = l.length ∧ w'.ownsRow w.heap.size 25 2 v' l.length (modC l vs) ∧ (∀ k, (h : k < l.length) → (h2 : k < vs.length) → Ints w vs[k] l[k].a ∧ NilOr vs[k])
set_option maxRecDepth 100000 in
set_option maxHeartbeats 800000 in
theorem copiedm_any (v : Value) (l : List Md) (hmax : l.length ≤ 50000) (w : World) (hv : Mods w v l) (hnil : NilOr v) :
    Calls Tryd.prog 27 #[v] w (CpEnd l w) := by
  rcases hnil with rfl | ⟨ad, n, c, rfl⟩
  · obtain ⟨p, cap, hp⟩ := hv.slice
    simp only [Value.slice.injEq] at hp
    have ha : l = [] := List.length_eq_zero_iff.1 hp.2.1.symm
    subst ha
    clear hp hv
    have hny := nilm_yes
    go_enter Tryd.func27, Tryd.ntmps27
    go_wp2_with fail
    go_ret
    exact ⟨_, [], rfl, Below.refl _ _, rfl, World.ownsRow_nil _ _ _ _, fun k h => by simp at h⟩
  · obtain ⟨p, cap, hp⟩ := hv.slice
    simp only [Value.slice.injEq] at hp
    obtain ⟨hpa, hn, hcc⟩ := hp
    clear hpa hcc
    subst hn
    obtain ⟨vs, hvl, hC, hI, hO⟩ := mods_vals hv
    have HC := Lib.hid hC
    have hmk := fun w => made_mods l.length hmax w
    have HL : Hid ((modC l vs).length = l.length * 2) := Lib.hid (modC_length _ _ hvl.symm)
    have HE : Hid (∀ w' : World, Below w.heap.size w w' → w'.heap[w.heap.size]? = some (.cells (modC l vs).toArray 25 (0, 0)) → CpEnd l w (.returned (.slice (some ⟨w.heap.size, 0, none⟩) l.length l.length)) w') := Lib.hid (fun w' hb h => ⟨_, vs, rfl, hb, hvl, filled_own (w := w) h (Nat.le_refl _) (modC_length _ _ hvl.symm) (by rw [show maxLen = 9223372036854775807 from rfl]; omega), hI⟩)
    have HZ : Hid ((madeCells #[.int .u8 0, .slice none 0 0] (l.length * 2)).size = l.length * 2) := Lib.hid (size_madeCells _ _)
    have HO := Lib.hid hO
    obtain ⟨cs, hcs⟩ : ∃ cs, modC l vs = cs := ⟨_, rfl⟩
    rw [hcs] at HC HL HE HO
    clear hv hcs hvl hC hI hO
    have hnn := nilm_no ad
    generalize l.length = n at *
    obtain ⟨W1, hrun, hw1, hb1⟩ := copy_run (P := Tryd.prog) w (madeCells #[.int .u8 0, .slice none 0 0] (n * 2)) 25 41 3 25 2 n c ad cs Tryd.underlying41 (by kernel_rfl) HL.out (HC.out _ ((Below.refl _ _).alloc (Nat.le_refl _) _)) HZ.out HO.out
    have HW := Lib.hid (HE.out _ hb1 hw1)
    clear hb1 hw1
    go_enter Tryd.func27, Tryd.ntmps27
    go_wp2_with fail
    go_ret
    exact HW.out
end Go.Proofs.YtlmofdmbcddddaaDoor
namespace Go.Proofs.YtlmofdmbcddddaaDoor
open Go.RowKit
open WM
set_option linter.unusedVariables false
set_option linter.unusedSimpArgs false

/-- Args in memory of the call's own, or nil. -/
structure ArgFr (w : World) (base : Nat) (rb : Option Nat) (v : Value) (a : List Int) : Prop where
  own : w.ownsRow base 3 1 v a.length (valsL a)
  apart : v = .slice none 0 0 ∨ v.ownBlock ≠ rb
/-- A word in memory of the call's own, its args as well. -/
structure ModFr (w : World) (base : Nat) (v : Value) (l : List Md) (vs : List Value) : Prop where
  len : vs.length = l.length
  row : w.ownsRow base 25 2 v l.length (modC l vs)
  args : ∀ k, (h : k < l.length) → (h2 : k < vs.length) → ArgFr w base v.ownBlock vs[k] l[k].a
theorem nilOr_of_owned {w : World} {base n size : Nat} {e : TypeId} {v : Value} {xs : List Value} (h : w.ownsRow base e size v n xs) : NilOr v := by
  rcases h.2 with ⟨h1, _⟩ | ⟨g, cap, cur, h1, _⟩
  · exact .inl h1
  · exact .inr ⟨_, _, _, h1⟩
theorem mods_of_rows {w : World} {base : Nat} {v : Value} {l : List Md} {vs : List Value} (hl : vs.length = l.length) (hr : w.ownsRow base 25 2 v l.length (modC l vs)) (ha : ∀ j, (h : j < l.length) → (h2 : j < vs.length) → Ints w vs[j] l[j].a ∧ NilOr vs[j]) : Mods w v l := by
  rcases Nat.eq_zero_or_pos l.length with h0 | h0
  · have e : l = [] := List.length_eq_zero_iff.1 h0
    subst e
    rcases hr.2 with ⟨hv, _⟩ | ⟨g, cap, cur, hv, _⟩
    · rw [hv]; exact .none _ _
    · rw [hv]; exact .none _ _
  · rcases hr.2 with ⟨_, h1⟩ | ⟨g, cap, cur, hv, hb, hg, hc1, hc2, hsz, htake⟩
    · omega
    · rw [hv]
      have hcell : ∀ j, j < l.length * 2 → w.cell? ⟨g, j, none⟩ = (modC l vs)[j]? := by
        intro j hj
        rw [← htake, List.getElem?_take_of_lt hj, Array.getElem?_toList]
        simp [World.cell?, hg]
      refine .some g 0 cap l h0 (lt_of_block hg) fun i hi => ?_
      have hv2 : i < vs.length := by rw [hl]; exact hi
      obtain ⟨g1, g2⟩ := modC_get l vs i hi hv2
      exact ⟨by rw [Nat.zero_add, hcell _ (by omega), g1], vs[i], by rw [Nat.zero_add, hcell _ (by omega), g2], (ha i hi hv2).1, (ha i hi hv2).2⟩
theorem ModFr.mods {w : World} {base : Nat} {v : Value} {l : List Md} {vs : List Value} (h : ModFr w base v l vs) : Mods w v l :=
  mods_of_rows h.len h.row fun j hj hj2 => ⟨ints_of_owned (h.args j hj hj2).own, nilOr_of_owned (h.args j hj hj2).own⟩
theorem ModFr.nilOr {w : World} {base : Nat} {v : Value} {l : List Md} {vs : List Value} (h : ModFr w base v l vs) : NilOr v := nilOr_of_owned h.row
theorem ModFr.mono {w : World} {b b' : Nat} {v : Value} {l : List Md} {vs : List Value} (h : ModFr w b v l vs) (hb : b' ≤ b) : ModFr w b' v l vs :=
  ⟨h.len, owns_mono h.row hb, fun k hk hk2 => ⟨owns_mono (h.args k hk hk2).own hb, (h.args k hk hk2).apart⟩⟩
theorem ArgFr.kept {w w' : World} {base : Nat} {rb rb' row : Option Nat} {v : Value} {a : List Int} (h : ArgFr w base rb v a) (hg : w.grownBy w' row) (hne : v.ownBlock = none ∨ v.ownBlock ≠ row) (hr : v = .slice none 0 0 ∨ v.ownBlock ≠ rb') : ArgFr w' base rb' v a :=
  ⟨h.own.kept hg hne, hr⟩
theorem ModFr.later {w w' : World} {base : Nat} {v : Value} {l : List Md} {vs : List Value} (h : ModFr w base v l vs) (hb : Below w.heap.size w w') : ModFr w' base v l vs :=
  ⟨h.len, h.row.kept (grown_of_below hb none) (by cases hv : v.ownBlock with | none => exact .inl rfl | some g => exact .inr (by simp)), fun k hk hk2 => (h.args k hk hk2).kept (grown_of_below hb none) (by cases hv : vs[k].ownBlock with | none => exact .inl rfl | some g => exact .inr (by simp)) (h.args k hk hk2).apart⟩
theorem modC_set : ∀ (l : List Md) (vs : List Value) (k : Nat) (u : Value), l.length = vs.length → (modC l vs).set (k * 2 + 1) u = modC l (vs.set k u)
  | [], [], k, u, _ => by simp [modC]
  | m :: l, v :: vs, 0, u, _ => rfl
  | m :: l, v :: vs, k + 1, u, h => by
    have := modC_set l vs k u (by simpa using h)
    have e : (k + 1) * 2 + 1 = k * 2 + 1 + 1 + 1 := by omega
    rw [e]; simp only [modC, List.set_cons_succ, this]
  | [], _ :: _, _, _, h => by simp at h
  | _ :: _, [], _, _, h => by simp at h
theorem j_app : ∀ (a b : List Md) (vs us : List Value), a.length = vs.length → modC (a ++ b) (vs ++ us) = modC a vs ++ modC b us
  | [], b, [], us, _ => rfl
  | m :: a, b, v :: vs, us, h => by
    have := j_app a b vs us (by simpa using h)
    simp [modC, this]
  | [], _, _ :: _, _, h => by simp at h
  | _ :: _, _, [], _, h => by simp at h
theorem j_mem : ∀ (l : List Md) (vs : List Value), ∀ u ∈ modC l vs, (∃ x, u = .int .u8 x) ∨ u ∈ vs
  | [], _, u, h => by simp [modC] at h
  | _ :: _, [], u, h => by simp [modC] at h
  | m :: l, v :: vs, u, h => by
    simp only [modC, List.mem_cons] at h
    rcases h with h | h | h
    · exact .inl ⟨_, h⟩
    · exact .inr (by rw [h]; simp)
    · rcases j_mem l vs u h with h | h
      · exact .inl h
      · exact .inr (List.mem_cons_of_mem _ h)
theorem j_one {w : World} {base : Nat} {v : Value} {l : List Md} {vs : List Value} (h : ModFr w base v l vs) : ∀ u ∈ modC l vs, u.oneCell' = true := by
  intro u hu
  rcases j_mem l vs u hu with ⟨x, rfl⟩ | hm
  · rfl
  · obtain ⟨k, hk, rfl⟩ := List.mem_iff_getElem.1 hm
    rcases nilOr_of_owned (h.args k (by rw [← h.len]; exact hk) hk).own with e | ⟨ad, n, c, e⟩
    · rw [e]; rfl
    · rw [e]; rfl
theorem none_or (v : Value) : v.ownBlock = none ∨ v.ownBlock ≠ none := by
  cases hv : v.ownBlock with
  | none => exact .inl rfl
  | some g => exact .inr (by simp)
theorem apart_or {v : Value} {rb : Option Nat} (h : v = .slice none 0 0 ∨ v.ownBlock ≠ rb) : v.ownBlock = none ∨ v.ownBlock ≠ rb := by
  rcases h with e | e
  · left; rw [e]; rfl
  · exact .inr e
theorem argFr_block {w : World} {base : Nat} {rb : Option Nat} {v : Value} {a : List Int} (h : ArgFr w base rb v a) : v = .slice none 0 0 ∨ ∃ q, v.ownBlock = some q ∧ base ≤ q ∧ q < w.heap.size := by
  rcases nilOr_of_owned h.own with e | ⟨ad, n, c, e⟩
  · exact .inl e
  · have := owns_lt h.own ad.block (by rw [e]; rfl)
    exact .inr ⟨ad.block, by rw [e]; rfl, this⟩
theorem modFr_join {X1 X2 X3 : World} {base : Nat} {v1 v2 v3 : Value} {a b : List Md} {vs1 vs2 : List Value}
    (h1 : ModFr X1 base v1 a vs1) (hb : Below X1.heap.size X1 X2) (h2 : ModFr X2 X1.heap.size v2 b vs2) (hbase : base ≤ X1.heap.size)
    (o : X3.ownsRow base 25 2 v3 (a.length + b.length) (modC a vs1 ++ modC b vs2)) (g : X2.grownBy X3 v1.ownBlock) (hv : v3.ownBlock = v1.ownBlock ∨ v3.ownBlock = some X2.heap.size) :
    ModFr X3 base v3 (a ++ b) (vs1 ++ vs2) := by
  have hvl := owns_lt h1.row
  have z := hb.size
  refine ⟨by rw [List.length_append, List.length_append, h1.len, h2.len], by rw [List.length_append, j_app _ _ _ _ h1.len.symm]; exact o, ?_⟩
  intro k hk hk2
  rcases Nat.lt_or_ge k a.length with hl | hl
  · have hl2 : k < vs1.length := by rw [h1.len]; exact hl
    rw [List.getElem_append_left hl, List.getElem_append_left hl2]
    have A := h1.args k hl hl2
    have A2 := A.kept (rb' := v1.ownBlock) (grown_of_below hb none) (none_or _) A.apart
    refine A2.kept g (apart_or A.apart) ?_
    rcases argFr_block A with e | ⟨q, ob, q1, q2⟩
    · exact .inl e
    · right; intro e2
      rcases hv with h | h
      · rcases A.apart with e | e
        · rw [e] at ob; simp [Value.ownBlock] at ob
        · exact e (e2.trans h)
      · rw [ob, h] at e2
        have := Option.some.inj e2; omega
  · have hl2 : vs1.length ≤ k := by rw [h1.len]; exact hl
    have hk3 : k - a.length < b.length := by rw [List.length_append] at hk; omega
    have hk4 : k - vs1.length < vs2.length := by rw [List.length_append] at hk2; omega
    have e1 : (vs1 ++ vs2)[k] = vs2[k - vs1.length] := List.getElem_append_right hl2
    have e2 : (a ++ b)[k] = b[k - a.length] := List.getElem_append_right hl
    have e3 : vs2[k - vs1.length] = vs2[k - a.length]'(by rw [h2.len]; exact hk3) := by congr 1; rw [h1.len]
    rw [e1, e2, e3]
    have A := h2.args (k - a.length) hk3 (by rw [h2.len]; exact hk3)
    have n1 : (vs2[k - a.length]'(by rw [h2.len]; exact hk3)) = .slice none 0 0 ∨ (vs2[k - a.length]'(by rw [h2.len]; exact hk3)).ownBlock ≠ v1.ownBlock := by
      rcases argFr_block A with e | ⟨q, ob, q1, q2⟩
      · exact .inl e
      · right; intro e4
        have := (hvl q (by rw [← e4, ob])).2; omega
    have n3 : (vs2[k - a.length]'(by rw [h2.len]; exact hk3)) = .slice none 0 0 ∨ (vs2[k - a.length]'(by rw [h2.len]; exact hk3)).ownBlock ≠ v3.ownBlock := by
      rcases argFr_block A with e | ⟨q, ob, q1, q2⟩
      · exact .inl e
      · right; intro e4
        rcases hv with h | h
        · have := (hvl q (by rw [← h, ← e4, ob])).2; omega
        · rw [ob, h] at e4
          have := Option.some.inj e4; omega
    have A2 := A.kept (rb' := v3.ownBlock) g (apart_or n1) n3
    exact ⟨owns_mono A2.own hbase, A2.apart⟩
theorem j_cells {w : World} {base : Nat} {ad : Addr} {n c : Nat} {l : List Md} {vs : List Value} (h : ModFr w base (.slice (some ad) n c) l vs) : n = l.length ∧ ∀ j u, (modC l vs)[j]? = some u → w.cell? (ad.add j) = some u := by
  rcases h.row.2 with ⟨hv, _⟩ | ⟨g, cap, cur, hv, hb, hg, hc1, hc2, hsz, htake⟩
  · simp at hv
  · cases hv
    refine ⟨rfl, fun j u hu => ?_⟩
    have hlen := modC_length l vs h.len.symm
    have hj : j < l.length * 2 := by
      have := (List.getElem?_eq_some_iff.1 hu).1; omega
    rw [← htake, List.getElem?_take_of_lt hj, Array.getElem?_toList] at hu
    have e : (⟨g, 0, none⟩ : Addr).add j = ⟨g, j, none⟩ := by
      unfold Addr.add
      rw [Nat.zero_add]
      split
      · rename_i h; rw [h]
      · rfl
    rw [e]
    simp only [World.cell?, hg]
    exact hu
theorem j_append_nil {P : Program} {w : World} {ops : Array Oper} {rest : List Oper} {o : Oper} {a : Act} {Q : Exit → Act → World → Prop} (hg : o.guard = none) (s x : Operand) (t : TypeId) (hop : o.op = Op.call { callee := Callee.builtin Builtin.append, args := #[s, x], argTypes := #[t, t] })
    (base : Nat) (e : TypeId) (i : TypeInfo) (size : Nat) (h1 : P.underlying t = some (.slice e)) (h2 : P.info? e = some i)
    (v : Value) (k : Nat) (xs : List Value) (hs : a.eval s = v) (hown : w.ownsRow base e size v k xs) (hx : a.eval x = .slice none 0 0)
    (hK : wpList P ops Q rest (a.put o.dst v) w) : wpList P ops Q (o :: rest) a w := by
  refine wpList_plain hg fun K hKK => ?_
  have hrun := run_append_owned_none (P := P) (w := w) base t o.type e i size h1 h2 v k xs hown
  unfold Oper.wp
  simp [execOp, hop, resolve, invoke, builtin, hs, hx, hrun, Result.andThen]
  exact hKK _ _ hK
theorem j_slice {w : World} {base : Nat} {v : Value} {l : List Md} {vs : List Value} (h : ModFr w base v l vs) : (v = .slice none 0 0 ∧ l = []) ∨ ∃ ad c, v = .slice (some ad) l.length c := by
  rcases h.row.2 with ⟨hv, h0⟩ | ⟨g, cap, cur, hv, _⟩
  · exact .inl ⟨hv, List.length_eq_zero_iff.1 h0⟩
  · exact .inr ⟨_, _, hv⟩
theorem modFr_nil (w : World) (base : Nat) : ModFr w base (.slice none 0 0) [] [] := ⟨rfl, World.ownsRow_nil _ _ _ _, fun k h => by simp at h⟩
theorem l_own_later {w w1 : World} {base n size : Nat} {e : TypeId} {v : Value} {xs : List Value} (h : w.ownsRow base e size v n xs) (hb : Below w.heap.size w w1) : w1.ownsRow base e size v n xs := by
  refine ⟨h.1, ?_⟩
  rcases h.2 with h1 | ⟨g, cap, cur, h1, h2, h3, h4⟩
  · exact .inl h1
  · exact .inr ⟨g, cap, cur, h1, h2, (hb.block g (lt_of_block h3)).trans h3, h4⟩
theorem modFr_snoc {base : Nat} {wr X3 X4 : World} {l : List Md} {m : Md} {v v' v2 : Value} {vs : List Value} (h : ModFr wr base v l vs) (hbase : base ≤ wr.heap.size) (e : Below wr.heap.size wr X3) (ha : X3.ownsRow wr.heap.size 3 1 v' m.a.length (valsL m.a))
    (o4 : X4.ownsRow base 25 2 v2 (l.length + 1) (modC l vs ++ [.int .u8 m.c.toNat, v'])) (g4 : X3.grownBy X4 v.ownBlock) (b4 : v2.ownBlock = v.ownBlock ∨ v2.ownBlock = some X3.heap.size) : ModFr X4 base v2 (l ++ [m]) (vs ++ [v']) := by
  have hvl := owns_lt h.row
  have z := e.size
  have hal := owns_lt ha
  have n1 : v' = .slice none 0 0 ∨ v'.ownBlock ≠ v.ownBlock := by
    rcases nilOr_of_owned ha with e | ⟨ad, n, c, e⟩
    · exact .inl e
    · right; intro e2
      have e3 : v'.ownBlock = some ad.block := by rw [e]; rfl
      have := (hal _ e3).1
      have := (hvl _ (by rw [← e2, e3])).2
      omega
  have n2 : v' = .slice none 0 0 ∨ v'.ownBlock ≠ v2.ownBlock := by
    rcases nilOr_of_owned ha with e | ⟨ad, n, c, e⟩
    · exact .inl e
    · right; intro e2
      have e3 : v'.ownBlock = some ad.block := by rw [e]; rfl
      rcases b4 with h | h
      · rcases n1 with e4 | e4
        · rw [e] at e4; simp at e4
        · exact e4 (e2.trans h)
      · have := (hal _ e3).2
        rw [e3, h] at e2
        have := Option.some.inj e2; omega
  refine ⟨by rw [List.length_append, List.length_append, h.len]; rfl, by rw [List.length_append, modC_snoc _ _ _ _ h.len.symm]; exact o4, ?_⟩
  intro k hk hk2
  rw [List.length_append, List.length_singleton] at hk
  rcases Nat.lt_or_eq_of_le (Nat.le_of_lt_succ hk) with hlt | heq
  · have hk3 : k < vs.length := by rw [h.len]; exact hlt
    rw [List.getElem_append_left hlt, List.getElem_append_left hk3]
    have A := h.args k hlt hk3
    have A2 := A.kept (rb' := v.ownBlock) (grown_of_below e none) (none_or _) A.apart
    refine A2.kept g4 (apart_or A.apart) ?_
    rcases argFr_block A with e | ⟨q, ob, q1, q2⟩
    · exact .inl e
    · right; intro e2
      rcases b4 with h | h
      · rcases A.apart with e | e
        · rw [e] at ob; simp [Value.ownBlock] at ob
        · exact e (e2.trans h)
      · rw [ob, h] at e2
        have := Option.some.inj e2; omega
  · subst heq
    have a1 : (vs ++ [v'])[l.length]'hk2 = v' := by rw [List.getElem_append_right (by rw [h.len]; exact Nat.le_refl _)]; simp
    have a2 : (l ++ [m])[l.length]'(by simp) = m := by simp
    rw [a1, a2]
    exact ⟨owns_mono (ha.kept g4 (apart_or n1)) hbase, n2⟩
end Go.Proofs.YtlmofdmbcddddaaDoor
namespace Go.Proofs.YtlmofdmbcddddaaDoor
open Go.RowKit
open WM
set_option linter.unusedVariables false
set_option linter.unusedSimpArgs false

/-- Where Twin stands. -/
structure TpAt (w : World) (l : List Md) (v : Value) (k : Nat) (vs : List Value) (wr : World) : Prop where
  hi : k ≤ l.length
  below : Below w.heap.size w wr
  len : vs.length = l.length
  row : wr.ownsRow w.heap.size 25 2 v l.length (modC l vs)
  new : ∀ j, (h : j < l.length) → (h2 : j < vs.length) → j < k → ArgFr wr w.heap.size v.ownBlock vs[j] l[j].a
  old : ∀ j, (h : j < l.length) → (h2 : j < vs.length) → k ≤ j → Ints w vs[j] l[j].a ∧ NilOr vs[j]
theorem TpAt.fin {w wr : World} {l : List Md} {v : Value} {vs : List Value} (h : TpAt w l v l.length vs wr) : ModFr wr w.heap.size v l vs := ⟨h.len, h.row, fun k hk hk2 => h.new k hk hk2 hk⟩
theorem tpAt_step {w wr w2 : World} {l : List Md} {g cap : Nat} {k : Nat} {vs : List Value} {v' : Value} (h : TpAt w l (.slice (some ⟨g, 0, none⟩) l.length cap) k vs wr) (hk : k < l.length)
    (hb : Below wr.heap.size wr w2) (ho : w2.ownsRow wr.heap.size 3 1 v' l[k].a.length (valsL l[k].a)) :
    TpAt w l (.slice (some ⟨g, 0, none⟩) l.length cap) (k + 1) (vs.set k v') (w2.setCell ⟨g, k * 2 + 1, none⟩ v') := by
  have hg : w.heap.size ≤ g ∧ g < wr.heap.size := owns_lt h.row g rfl
  have g12 := grown_of_below hb none
  have r2 := h.row.kept g12 (.inr (by simp [Value.ownBlock]))
  obtain ⟨r3, g23⟩ := r2.stored (k * 2 + 1) v'
  rw [modC_set l vs k v' h.len.symm] at r3
  have hlt := owns_lt ho
  have hk2 : k < vs.length := by rw [h.len]; exact hk
  have nk : v' = .slice none 0 0 ∨ v'.ownBlock ≠ some g := by
    rcases nilOr_of_owned ho with e | ⟨ad, n, c, e⟩
    · exact .inl e
    · right; intro e2
      have := (hlt g e2).1; omega
  have nk2 : ∀ {v : Value} {rb : Option Nat}, v = .slice none 0 0 ∨ v.ownBlock ≠ rb → v.ownBlock = none ∨ v.ownBlock ≠ rb := by
    rintro v rb (e | e)
    · left; rw [e]; rfl
    · exact .inr e
  have none_or : ∀ v : Value, v.ownBlock = none ∨ v.ownBlock ≠ none := fun v => by
    cases hv : v.ownBlock with
    | none => exact .inl rfl
    | some g => exact .inr (by simp)
  refine ⟨hk, (h.below.trans (hb.mono h.below.size)).setCell hg.1 _, by rw [List.length_set]; exact h.len, r3, ?_, ?_⟩
  · intro j hj hj2 hjk
    rw [List.length_set] at hj2
    by_cases e : k = j
    · subst e
      rw [List.getElem_set_self]
      exact ⟨(owns_mono ho h.below.size).kept g23 (nk2 nk), nk⟩
    · rw [List.getElem_set_ne e]
      have A := h.new j hj hj2 (by omega)
      exact (A.kept g12 (none_or _) A.apart).kept g23 (nk2 A.apart) A.apart
  · intro j hj hj2 hjk
    rw [List.length_set] at hj2
    rw [List.getElem_set_ne (by omega)]
    exact h.old j hj hj2 (by omega)
/-- How Twin ends. -/
def TwEnd (l : List Md) (w : World) (e : Ending) (w' : World) : Prop := ∃ v' vs, e = .returned v' ∧ Below w.heap.size w w' ∧ ModFr w' w.heap.size v' l vs
set_option maxRecDepth 100000 in
set_option maxHeartbeats 1600000 in
theorem ptwin_any (v : Value) (l : List Md) (hmax : l.length ≤ 50000) (hargs : ∀ m ∈ l, m.a.length ≤ 1000000) (w : World) (hv : Mods w v l) (hnil : NilOr v) :
    Calls Tryd.prog 18 #[v] w (TwEnd l w) := by
  have HK := Lib.hid (copiedm_any v l hmax w hv hnil)
  have HA := Lib.hid hargs
  clear hv hnil hargs
  go_enter Tryd.func18, Tryd.ntmps18
  go_wp2_with fail
  refine HK.out.mono ?_
  rintro e w1 ⟨v1, vs, rfl, hb, hl, ho, hi⟩
  have S0 : TpAt w l v1 0 vs w1 := ⟨Nat.zero_le _, hb, hl, ho, fun j _ _ h => by omega, fun j h h2 _ => hi j h h2⟩
  rcases nilOr_of_owned ho with rfl | ⟨ad, n, c, rfl⟩
  · have h0 : l.length = 0 := by
      rcases ho.2 with ⟨_, h⟩ | ⟨g, cap, cur, h, _⟩
      · exact h
      · simp at h
    have HE : Hid (ModFr w1 w.heap.size (.slice none 0 0) l vs) := Lib.hid (TpAt.fin (by rw [h0]; exact S0))
    have HB := Lib.hid hb
    clear hb hl ho hi S0 h0 HK
    go_wp2_with fail
    go_loop [9] (fun i => i = .int .i64 0) (fun _ => 0)
    case atStart => rfl
    case round =>
      subst hrel
      go_wp2_with fail
      go_ret
      exact ⟨_, vs, rfl, HB.out, HE.out⟩
  · obtain ⟨g, cap, hg⟩ : ∃ g cap, Value.slice (some ad) n c = .slice (some ⟨g, 0, none⟩) l.length cap := by
      rcases ho.2 with ⟨h, _⟩ | ⟨g, cap, cur, h, _⟩
      · simp at h
      · exact ⟨g, cap, h⟩
    rw [hg] at S0 ⊢
    have HS0 := Lib.hid S0
    clear hb hl ho hi S0 hg HK
    go_wp2_with fail
    go_loopw [9] (fun i wr => ∃ (k : Nat) (us : List Value), i = .int .i64 k ∧ TpAt w l (.slice (some ⟨g, 0, none⟩) l.length cap) k us wr) (fun i _ => l.length - (intOf i).toNat)
    case atStart => exact ⟨0, vs, rfl, HS0.out⟩
    case round =>
      obtain ⟨k, us, rfl, hS⟩ := hrel
      have HS := Lib.hid hS
      have n1 := hS.hi
      by_cases hlt : k < l.length
      · have k1 : (k : Int) < (l.length : Int) := by omega
        have hk2 : k < us.length := by rw [hS.len]; exact hlt
        have hgl := owns_lt hS.row g rfl
        have q1 := hS.row.cellAt (k * 2 + 1) (by omega)
        rw [(modC_get l us k hlt hk2).2] at q1
        have hold := hS.old k hlt hk2 (Nat.le_refl _)
        have HKI := Lib.hid (copiedi_any us[k] l[k].a (HA.out _ (List.getElem_mem hlt)) wr (hold.1.later (hS.below.mono (Nat.le_refl _))) hold.2)
        have HF := Lib.hid (fun (w2 : World) (hb : Below wr.heap.size wr w2) => (hS.row.kept (grown_of_below hb none) (.inr (by simp [Value.ownBlock]))))
        have HSt := Lib.hid (fun w2 v' hb ho => tpAt_step (w2 := w2) (v' := v') hS hlt hb ho)
        obtain ⟨p1, c1, hu⟩ := hold.1.slice
        rw [hu] at q1 HKI
        clear hS hold hu
        go_wp2_with fail
        refine HKI.out.mono ?_
        rintro e w2 ⟨v', rfl, hb, ho⟩
        have HT := Lib.hid (HSt.out w2 v' hb ho)
        have f1 := (HF.out w2 hb).frozenAt (k * 2 + 1)
        have q2 := (HF.out w2 hb).cellAt (k * 2 + 1) (by omega)
        rw [(modC_get l us k hlt hk2).2] at q2
        have l2 := Nat.lt_of_lt_of_le hgl.2 hb.size
        obtain ⟨p2, n2, c2, rfl⟩ : ∃ p n c, v' = .slice p n c := by
          rcases nilOr_of_owned ho with h | ⟨ad, n, c, h⟩
          · exact ⟨_, _, _, h⟩
          · exact ⟨_, _, _, h⟩
        generalize us[k] = z at q2
        clear hb ho
        go_wp2_with fail
        go_roundw
        case rel => exact ⟨k + 1, _, by go_num, HT.out⟩
        case measure => simp [intOf]; omega
      · have hk : k = l.length := by omega
        have HE : Hid (ModFr wr w.heap.size (.slice (some ⟨g, 0, none⟩) l.length cap) l us) := Lib.hid (TpAt.fin (by rw [← hk]; exact hk ▸ hS))
        have HB := Lib.hid hS.below
        have k1 : ¬ (k : Int) < (l.length : Int) := by omega
        clear hS
        go_wp2_with fail
        go_ret
        exact ⟨_, us, rfl, HB.out, HE.out⟩
end Go.Proofs.YtlmofdmbcddddaaDoor
namespace Go.Proofs.YtlmofdmbcddddaaDoor
open Go.RowKit
open WM
set_option linter.unusedVariables false
set_option linter.unusedSimpArgs false

/-- Modules in a row of the call's own, their args anywhere. -/
theorem mods_of_row {w : World} {base : Nat} {v : Value} {l : List Md} {vs : List Value} (hl : vs.length = l.length) (hr : w.ownsRow base 25 2 v l.length (modC l vs)) (ha : ∀ j, (h : j < l.length) → (h2 : j < vs.length) → Ints w vs[j] l[j].a ∧ NilOr vs[j]) : Mods w v l := by
  rcases Nat.eq_zero_or_pos l.length with h0 | h0
  · have e : l = [] := List.length_eq_zero_iff.1 h0
    subst e
    rcases hr.2 with ⟨hv, _⟩ | ⟨g, cap, cur, hv, _⟩
    · rw [hv]; exact .none _ _
    · rw [hv]; exact .none _ _
  · rcases hr.2 with ⟨_, h1⟩ | ⟨g, cap, cur, hv, hb, hg, hc1, hc2, hsz, htake⟩
    · omega
    · rw [hv]
      have hcell : ∀ j, j < l.length * 2 → w.cell? ⟨g, j, none⟩ = (modC l vs)[j]? := by
        intro j hj
        rw [← htake, List.getElem?_take_of_lt hj, Array.getElem?_toList]
        simp [World.cell?, hg]
      refine .some g 0 cap l h0 (lt_of_block hg) fun i hi => ?_
      have hv2 : i < vs.length := by rw [hl]; exact hi
      obtain ⟨g1, g2⟩ := modC_get l vs i hi hv2
      exact ⟨by rw [Nat.zero_add, hcell _ (by omega), g1], vs[i], by rw [Nat.zero_add, hcell _ (by omega), g2], (ha i hi hv2).1, (ha i hi hv2).2⟩
/-- Where Strip stands. -/
structure StAt (w : World) (l : List Md) (k : Nat) (v : Value) (wr : World) : Prop where
  hi : k ≤ l.length
  below : Below w.heap.size w wr
  own : ∃ vs, vs.length = (trunk l k).length ∧ wr.ownsRow w.heap.size 25 2 v (trunk l k).length (modC (trunk l k) vs) ∧ ∀ j, (h : j < (trunk l k).length) → (h2 : j < vs.length) → Ints w vs[j] (trunk l k)[j].a ∧ NilOr vs[j]
theorem stAt_start (w : World) (l : List Md) {wr : World} (hb : Below w.heap.size w wr) : StAt w l 0 (.slice none 0 0) wr :=
  ⟨Nat.zero_le _, hb, [], rfl, by rw [trunk_zero]; simpa [modC] using World.ownsRow_nil wr w.heap.size 25 2, fun j h => by rw [trunk_zero] at h; simp at h⟩
theorem stAt_mods {w wr : World} {l : List Md} {k : Nat} {v : Value} (h : StAt w l k v wr) : Mods wr v (trunk l k) := by
  obtain ⟨vs, h1, h2, h3⟩ := h.own
  exact mods_of_row h1 h2 fun j hj hj2 => ⟨(h3 j hj hj2).1.later h.below, (h3 j hj hj2).2⟩
theorem stAt_keep {w wr : World} {l : List Md} {k : Nat} {v : Value} (h : StAt w l k v wr) (hk : k < l.length) (hc : (decide (dep (l.take (k + 1)) = 0) && !(l[k].c == 93)) = false) : StAt w l (k + 1) v wr := by
  have e : trunk l (k + 1) = trunk l k := by rw [trunk_succ hk, if_neg (by rw [hc]; simp)]
  exact ⟨hk, h.below, by rw [e]; exact h.own⟩
theorem stAt_step {w wr X3 X4 : World} {l : List Md} {k : Nat} {v v2 : Value} {vs : List Value} {sv : Value} (hk : k < l.length) (hc : (decide (dep (l.take (k + 1)) = 0) && !(l[k].c == 93)) = true)
    (hB : Below w.heap.size w wr) (h1 : vs.length = (trunk l k).length) (h2 : wr.ownsRow w.heap.size 25 2 v (trunk l k).length (modC (trunk l k) vs)) (h3 : ∀ j, (h : j < (trunk l k).length) → (h2 : j < vs.length) → Ints w vs[j] (trunk l k)[j].a ∧ NilOr vs[j])
    (hi : Ints w sv l[k].a) (hn : NilOr sv) (e3 : Below wr.heap.size wr X3)
    (o4 : X4.ownsRow w.heap.size 25 2 v2 ((trunk l k).length + 1) (modC (trunk l k) vs ++ [.int .u8 l[k].c.toNat, sv])) (g4 : X3.grownBy X4 v.ownBlock) : StAt w l (k + 1) v2 X4 := by
  have e : trunk l (k + 1) = trunk l k ++ [l[k]] := by rw [trunk_succ hk, if_pos hc]
  have hvl := owns_lt h2
  have b13 : Below w.heap.size w X3 := hB.trans (e3.mono hB.size)
  refine ⟨hk, b13.grown g4 b13.size (fun j e => (hvl j e).1), vs ++ [sv], by rw [e]; simp [h1], ?_, ?_⟩
  · rw [e, modC_snoc _ _ _ _ h1.symm, List.length_append]; exact o4
  · rw [e]
    intro j hj hj2
    rw [List.length_append, List.length_singleton] at hj
    rcases Nat.lt_or_eq_of_le (Nat.le_of_lt_succ hj) with h | h
    · have hj3 : j < vs.length := by omega
      rw [List.getElem_append_left h, List.getElem_append_left hj3]
      exact h3 j h hj3
    · subst h
      have a1 : (vs ++ [sv])[(trunk l k).length]'hj2 = sv := by rw [List.getElem_append_right (by omega)]; simp
      have a2 : (trunk l k ++ [l[k]])[(trunk l k).length]'(by simp) = l[k] := by simp
      rw [a1, a2]; exact ⟨hi, hn⟩
theorem trunk_mem (l : List Md) : ∀ k, k ≤ l.length → ∀ m ∈ trunk l k, m ∈ l := by
  intro k
  induction k with
  | zero => intro _ m hm; rw [trunk_zero] at hm; simp at hm
  | succ k ih =>
    intro hk m hm
    rw [trunk_succ (by omega)] at hm
    split at hm
    · rcases List.mem_append.1 hm with h | h
      · exact ih (by omega) m h
      · rw [List.mem_singleton.1 h]; exact List.getElem_mem _
    · exact ih (by omega) m hm
/-- How Strip ends. -/
def StEnd (l : List Md) (w : World) (e : Ending) (w' : World) : Prop :=
  Below w.heap.size w w' ∧ ((chk l ≠ 0 ∧ e = .returned (.tuple #[.slice none 0 0, .int .i64 (chk l)])) ∨ (chk l = 0 ∧ ∃ v vs, e = .returned (.tuple #[v, .int .i64 0]) ∧ ModOwn w' w.heap.size v (trunk l l.length) vs))
theorem modOwn_mono {w : World} {b b' : Nat} {v : Value} {l : List Md} {vs : List Value} (h : ModOwn w b v l vs) (hb : b' ≤ b) : ModOwn w b' v l vs :=
  ⟨h.len, owns_mono h.row hb, fun k hk hk2 => by
    have A := h.args k hk hk2
    obtain ⟨g, c, h1, h2, h3⟩ := A.some
    exact ⟨owns_mono A.own hb, ⟨g, c, h1, by omega, h3⟩, A.apart⟩⟩
end Go.Proofs.YtlmofdmbcddddaaDoor
namespace Go.Proofs.YtlmofdmbcddddaaDoor
open Go.RowKit
open WM
set_option linter.unusedVariables false
set_option linter.unusedSimpArgs false

theorem dep_le_dmax (l : List Md) : ∀ k i, i ≤ k → dep (l.take i) ≤ dmax l k := by
  intro k
  induction k with
  | zero => intro i hi; obtain rfl : i = 0 := by omega
            simp [dep_nil, dmax_zero]
  | succ k ih =>
    intro i hi
    rw [dmax_succ]
    rcases Nat.lt_or_eq_of_le hi with h | h
    · have := ih i (by omega); omega
    · subst h; omega
theorem dmax_lvl {l : List Md} {k : Nat} (hk : k < l.length) : dmax l (k + 1) = max (dmax l k) (lvlA l k) := by
  rw [dmax_succ, lvlA_eq hk]
  by_cases h : l[k].c = 93
  · rw [if_pos h]
    have h1 := dep_snoc hk
    have h2 : dlt l[k] = -1 := by unfold dlt; rw [if_neg (by rw [h]; decide), if_pos h]
    have h3 := dep_le_dmax l k k (Nat.le_refl _)
    omega
  · rw [if_neg h, Int.add_zero]
theorem lvl_rng {l : List Md} (h : okB l l.length = true) {k : Nat} (hk : k < l.length) : 0 ≤ lvlA l k ∧ lvlA l k ≤ l.length := by
  have h1 := opn_rng h hk
  have h2 := dep_hi l k (by omega)
  rw [lvlA_eq hk]
  by_cases h3 : l[k].c = 93
  · rw [if_pos h3]
    have h4 := dep_snoc hk
    have h5 : dlt l[k] = -1 := by unfold dlt; rw [if_neg (by rw [h3]; decide), if_pos h3]
    omega
  · rw [if_neg h3]; omega
theorem lvl_cell {w : World} {g : Nat} {l : List Md} (h : RowI w g (lvlL l l.length)) {k : Nat} (hk : k < l.length) : w.cell? ⟨g, k, none⟩ = some (.int .i64 (lvlA l k)) := by
  have := h.cell (i := k) (by rw [lvlL_length]; exact hk)
  rwa [lvlL_get hk, if_pos hk] at this
theorem trunk_lvl {l : List Md} {k : Nat} (hok : okB l l.length = true) (hk : k < l.length) : (decide (dep (l.take (k + 1)) = 0) && !(l[k].c == 93)) = decide (lvlA l k = 0) := by
  have h1 := okB_iff.1 hok k hk
  rw [lvlA_eq hk]
  by_cases h : l[k].c = 93
  · rw [if_pos h, h]
    rw [show ((93 : UInt8) == 93) = true from rfl, Bool.not_true, Bool.and_false]
    exact (decide_eq_false (by omega)).symm
  · rw [if_neg h, Int.add_zero]
    have : (l[k].c == 93) = false := beq_eq_false_iff_ne.2 h
    rw [this]; simp
/-- How Strip ends. -/
def PStEnd (l : List Md) (w : World) (e : Ending) (w' : World) : Prop :=
  Below w.heap.size w w' ∧ ((chk l ≠ 0 ∧ e = .returned (.tuple #[.slice none 0 0, .int .i64 (chk l)])) ∨ (chk l = 0 ∧ ∃ v vs, e = .returned (.tuple #[v, .int .i64 0]) ∧ ModFr w' w.heap.size v (trunk l l.length) vs))
end Go.Proofs.YtlmofdmbcddddaaDoor
