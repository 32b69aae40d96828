/-
  A list of values that a call makes by append: its own row of cells, its elements' lists elsewhere.
-/
import Derived.Test.YtakjgjhjndiggaaGreatDoorValHeapAll
import Derived.OwnWalk
import Derived.Laws.AppendOwn
import Derived.Deep.RegionLaw
namespace Go.Proofs.YtakjgjhjndiggaaGreatDoor
open Go.RowKit
open VM
set_option linter.unusedVariables false
set_option linter.unusedSimpArgs false

def rowL (a : Nd) (sl : Value) : List Value := [.int .u8 a.k, .int .i64 a.n, .int .i64 a.d, .bool a.t, .string a.s, sl]
def rowsL : List V → List Value → List Value
  | x :: l, s :: ss => rowL x.nd s ++ rowsL l ss
  | _, _ => []
theorem rowsL_app : ∀ (l l' : List V) (ss ss' : List Value), ss.length = l.length → rowsL (l ++ l') (ss ++ ss') = rowsL l ss ++ rowsL l' ss'
  | [], l', [], ss', _ => rfl
  | x :: l, l', s :: ss, ss', h => by
    show rowL x.nd s ++ rowsL (l ++ l') (ss ++ ss') = rowL x.nd s ++ rowsL l ss ++ rowsL l' ss'
    rw [rowsL_app l l' ss ss' (by simpa using h), List.append_assoc]
theorem rowsL_one (x : V) (s : Value) : rowsL [x] [s] = rowL x.nd s := by simp [rowsL]
theorem rowsL_length : ∀ (l : List V) (ss : List Value), ss.length = l.length → (rowsL l ss).length = l.length * 6
  | [], [], _ => rfl
  | x :: l, s :: ss, h => by
    show (rowL x.nd s ++ rowsL l ss).length = _
    rw [List.length_append, rowsL_length l ss (by simpa using h)]
    simp [rowL]; omega
theorem rowsL_get : ∀ (l : List V) (ss : List Value) (i j : Nat), ss.length = l.length → (h : i < l.length) → (h2 : i < ss.length) → j < 6 → (rowsL l ss)[i * 6 + j]? = (rowL l[i].nd ss[i])[j]?
  | x :: l, s :: ss, 0, j, h, _, _, hj => by
    show (rowL x.nd s ++ rowsL l ss)[0 * 6 + j]? = (rowL x.nd s)[j]?
    rw [List.getElem?_append_left (by simp [rowL]; omega)]; simp
  | x :: l, s :: ss, i + 1, j, h, h1, h2, hj => by
    show (rowL x.nd s ++ rowsL l ss)[(i + 1) * 6 + j]? = _
    rw [List.getElem?_append_right (by simp [rowL]; omega)]
    have := rowsL_get l ss i j (by simpa using h) (by simpa using h1) (by simpa using h2) hj
    simp only [List.getElem_cons_succ]
    rw [← this]; congr 1; simp [rowL]; omega
theorem rowL_one (a : Nd) (sl : Value) (h : sl.oneCell' = true) : ∀ u ∈ rowL a sl, u.oneCell' = true := by
  intro u hu
  simp only [rowL, List.mem_cons, List.mem_nil_iff, or_false] at hu
  rcases hu with rfl | rfl | rfl | rfl | rfl | rfl <;> first | rfl | exact h
theorem slice_one (p : Option Addr) (n cap : Nat) : (Value.slice p n cap).oneCell' = true := rfl

theorem value_info : (Tryz.prog.info? 28).map (fun i => (i.zero, i.size, i.bytes)) = some (some (.agg #[.int .u8 0, .int .i64 0, .int .i64 0, .bool false, .string ⟨#[]⟩, .slice none 0 0]), 6, 72) := by kernel_rfl

/-- A list that is being made: the row's own block is no block of its elements. -/
structure OwnL (base : Nat) (w : World) (l : List V) (v : Value) : Prop where
  ex : ∃ ss : List Value, ss.length = l.length ∧ w.ownsRow base 28 6 v l.length (rowsL l ss) ∧
    ∀ i, (h : i < l.length) → (h2 : i < ss.length) → RepL (fun b => base ≤ b ∧ v.ownBlock ≠ some b) w l[i].list ss[i]
theorem OwnL.nil (base : Nat) (w : World) : OwnL base w [] (.slice none 0 0) := ⟨[], rfl, World.ownsRow_nil _ _ _ _, fun i h => by simp at h⟩
theorem OwnL.later {base : Nat} {w w' : World} {l : List V} {v : Value} (h : OwnL base w l v) (hb : Below w.heap.size w w') : OwnL base w' l v := by
  obtain ⟨ss, h1, h2, h3⟩ := h.ex
  exact ⟨ss, h1, h2.kept (row := none) ⟨hb.os, hb.tape, hb.output, hb.size, fun k hk _ => hb.block k hk⟩ (by cases hv : v.ownBlock <;> simp), fun i hi hi2 => (h3 i hi hi2).later hb⟩
theorem OwnL.slice {base : Nat} {w : World} {l : List V} {v : Value} (h : OwnL base w l v) : (v = .slice none 0 0 ∧ l = []) ∨ ∃ g cap, v = .slice (some ⟨g, 0, none⟩) l.length cap ∧ base ≤ g ∧ g < w.heap.size := by
  obtain ⟨ss, h1, ⟨h4, h2⟩, h3⟩ := h.ex
  rcases h2 with ⟨rfl, h0⟩ | ⟨g, cap, cur, rfl, hb, hg, _⟩
  · exact .inl ⟨rfl, List.length_eq_zero_iff.1 h0⟩
  · exact .inr ⟨g, cap, rfl, hb, lt_of_block hg⟩
theorem OwnL.rep {base : Nat} {w : World} {l : List V} {v : Value} (h : OwnL base w l v) : RepL (base ≤ ·) w l v := by
  obtain ⟨ss, h1, ⟨h4, h2⟩, h3⟩ := h.ex
  rcases h2 with ⟨rfl, h0⟩ | ⟨g, cap, cur, rfl, hb, hg, hn, hm, hs, ht⟩
  · rw [List.length_eq_zero_iff.1 h0]; exact RepL.nil _ _ _ _
  · refine .mk _ cap l (fun i => ss[i]?.getD undef) (fun hne => ⟨g, 0, rfl, hb, by simp [World.frozen?, hg], fun i hi => ?_⟩) fun i hi => ?_
    · have hi2 : i < ss.length := by omega
      have e : ∀ j, j < 6 → w.cell? ⟨g, 0 + i * 6 + j, none⟩ = (rowL l[i].nd ss[i])[j]? := fun j hj => by
        rw [← rowsL_get l ss i j h1 hi hi2 hj, ← ht, List.getElem?_take, if_pos (by omega)]
        simp [World.cell?, hg]
      have hss : ss[i]?.getD undef = ss[i] := by simp [hi2]
      rw [hss]
      exact ⟨e 0 (by omega), e 1 (by omega), e 2 (by omega), e 3 (by omega), e 4 (by omega), e 5 (by omega)⟩
    · have hi2 : i < ss.length := by omega
      have hss : ss[i]?.getD undef = ss[i] := by simp [hi2]
      rw [hss]
      exact (h3 i hi hi2).weaken fun b _ hq => hq.1

/-- An append: what the list's row holds then, and that its block is the old one or a new one. -/
theorem run_append_list {P : Program} (w : World) (base : Nat) (t ty e : TypeId) (i : TypeInfo) (z : Value) (size bytes : Nat) (ht : P.underlying t = some (.slice e)) (hi : P.info? e = some i) (hz : i.zero = some z)
    (hsize : i.size = size) (hby : i.bytes = bytes) (hzs : z.cells.size = size) (hsz : 0 < size)
    (v : Value) (n : Nat) (xs : List Value) (hown : w.ownsRow base e size v n xs)
    (a : Addr) (m c : Nat) (news : List Value) (hl : news.length = m * size) (hnews : ∀ j u, news[j]? = some u → w.cell? (a.add j) = some u) (h1 : ∀ u ∈ news, u.oneCell' = true)
    (h63 : n + m ≤ maxLen) (hbytes : (n + m) * bytes ≤ 140737488355328) (hbase : base ≤ w.heap.size) :
    ∃ v' w', (Builtin.append_ #[t, t] ty #[v, .slice (some a) m c]).run P w = .ok v' w' ∧ w'.ownsRow base e size v' (n + m) (xs ++ news) ∧ w.grownBy w' v.ownBlock ∧ (v'.ownBlock = v.ownBlock ∨ v'.ownBlock = some w.heap.size) := by
  obtain ⟨v', w', hr, h2, h3, h4⟩ := run_append_own (P := P) w base t ty e i z size bytes ht hi hz hsize hby hzs hsz v n xs hown a m c news hl hnews h1 h63 hbytes hbase
  refine ⟨v', w', hr, h2, h3, ?_⟩
  subst hsize hby
  rcases hown.2 with ⟨rfl, rfl⟩ | ⟨g, cap, cur, rfl, hbg, hg, hnc, hcm, hcs, htake⟩
  · rcases Nat.eq_zero_or_pos m with rfl | hm
    · left; rw [h4.2 ⟨rfl, rfl⟩]
    · right
      have hr2 := run_append_nil (P := P) (w := w) t ty e i z ht hi hz a m c news hl hnews hm (by simp only [maxLen] at h63; omega) (by rw [Nat.zero_add] at hbytes; omega)
      rw [hr] at hr2
      injection hr2 with e1 e2
      rw [e1]; rfl
  · rcases Nat.lt_or_ge cap (n + m) with hc | hc
    · right
      have hr2 := run_append_grow (P := P) (w := w) t ty e i z ht hi hz ⟨g, 0, none⟩ n cap xs hown.1 (hown.cells (g := g) rfl) a m c news hl hnews hc (by simp only [maxLen] at h63; omega) (growslice_fits (by omega) hbytes)
      rw [hr] at hr2
      injection hr2 with e1 e2
      rw [e1]; rfl
    · left
      have hr2 := run_append_room (P := P) (w := w) t ty e i ht hi g n cap cur hg a m c news hl hnews h1 hc (by rw [hl, hcs, ← Nat.add_mul]; exact Nat.mul_le_mul_right _ hc)
      rw [hr] at hr2
      injection hr2 with e1 e2
      rw [e1]; rfl

/-- One more list of values behind a list that is being made. -/
theorem OwnL.append {base : Nat} {w : World} {l m : List V} {v : Value} (h : OwnL base w l v) (hbase : base ≤ w.heap.size) {Q : Nat → Prop} (hQ : ∀ b, b < w.heap.size → Q b → base ≤ b ∧ v.ownBlock ≠ some b)
    {ms : List Value} (hms : ms.length = m.length) (hm : ∀ i, (h : i < m.length) → (h2 : i < ms.length) → RepL Q w m[i].list ms[i]) (ty : TypeId) (a : Addr) (c : Nat)
    (hnews : ∀ j u, (rowsL m ms)[j]? = some u → w.cell? (a.add j) = some u) (h63 : l.length + m.length ≤ 1000000) :
    ∃ v' w', (Builtin.append_ #[26, 26] ty #[v, .slice (some a) m.length c]).run Tryz.prog w = .ok v' w' ∧ OwnL base w' (l ++ m) v' ∧ w.grownBy w' v.ownBlock ∧ (v'.ownBlock = v.ownBlock ∨ v'.ownBlock = some w.heap.size) := by
  obtain ⟨ss, h1, h2, h3⟩ := h.ex
  obtain ⟨i0, hi, hz0, hz1, hz2⟩ := info_parts value_info
  have hone : ∀ u ∈ rowsL m ms, u.oneCell' = true := by
    intro u hu
    obtain ⟨k, hk, rfl⟩ := List.getElem_of_mem hu
    rw [rowsL_length m ms hms] at hk
    have hi : k / 6 < m.length := by omega
    have e := rowsL_get m ms (k / 6) (k % 6) hms hi (by omega) (by omega)
    rw [show k / 6 * 6 + k % 6 = k by omega, List.getElem?_eq_getElem (by rw [rowsL_length m ms hms]; exact hk)] at e
    obtain ⟨p, cap, hs⟩ := (hm (k / 6) hi (by omega)).slice
    exact rowL_one _ _ (by rw [hs]; rfl) _ (List.mem_of_getElem? e.symm)
  obtain ⟨v', w', hr, hown, hg, ho⟩ := run_append_list (P := Tryz.prog) w base 26 ty 28 i0 _ 6 72 Tryz.underlying26 hi hz0 hz1 hz2 rfl (by decide) v l.length _ h2 a m.length c _ (rowsL_length m ms hms) hnews hone
    (by simp only [maxLen]; omega) (by omega) hbase
  refine ⟨v', w', hr, ⟨ss ++ ms, by simp [h1, hms], ?_, fun i hi hi2 => ?_⟩, hg, ho⟩
  · rw [rowsL_app l m ss ms h1, List.length_append]; exact hown
  · have hno : ∀ b, b < w.heap.size → v.ownBlock ≠ some b → v'.ownBlock ≠ some b ∧ w'.heap[b]? = w.heap[b]? := fun b hb hne => by
      refine ⟨?_, hg.block b hb fun e => hne e.symm⟩
      rcases ho with e | e
      · rw [e]; exact hne
      · rw [e]; intro e2; cases e2; omega
    by_cases hil : i < l.length
    · have e1 : (l ++ m)[i] = l[i] := List.getElem_append_left hil
      have e2 : (ss ++ ms)[i] = ss[i]'(by omega) := List.getElem_append_left (by omega)
      rw [e1, e2]
      exact (h3 i hil (by omega)).carry fun b hb hq => ⟨⟨hq.1, (hno b hb hq.2).1⟩, (hno b hb hq.2).2⟩
    · rw [List.length_append] at hi
      have e1 : (l ++ m)[i] = m[i - l.length]'(by omega) := List.getElem_append_right (by omega)
      have e2 : (ss ++ ms)[i] = ms[i - l.length]'(by omega) := (List.getElem_append_right (by omega)).trans (getElem_congr_idx (by rw [h1]))
      rw [e1, e2]
      exact (hm (i - l.length) (by omega) (by omega)).carry fun b hb hq => ⟨⟨(hQ b hb hq).1, (hno b hb (hQ b hb hq).2).1⟩, (hno b hb (hQ b hb hq).2).2⟩

/-- The append of one value as a step of a region that draws its order. -/
theorem step_append_one {ops : Array Oper} {o : Oper} {a : Act} {w : World} {K : Act → World → Prop} {Q : Exit → Act → World → Prop} {E : Prop}
    (hg : o.guard = none) (s x : Operand) (hop : o.op = Op.call { callee := Callee.builtin Builtin.append, args := #[s, x], argTypes := #[26, 26] })
    (base : Nat) (l : List V) (v : Value) (hs : a.eval s = v) (hown : OwnL base w l v) (hbase : base ≤ w.heap.size) (R : Nat → Prop) (hR : ∀ b, b < w.heap.size → R b → base ≤ b ∧ v.ownBlock ≠ some b)
    (y : V) (sl : Value) (hy : RepL R w y.list sl) (ad : Addr) (c : Nat) (hx : a.eval x = .slice (some ad) 1 c) (hc : ∀ j u, (rowL y.nd sl)[j]? = some u → w.cell? (ad.add j) = some u) (hn : l.length < 1000000)
    (hK : ∀ v' w', OwnL base w' (l ++ [y]) v' → w.grownBy w' v.ownBlock → (v'.ownBlock = v.ownBlock ∨ v'.ownBlock = some w.heap.size) → K (a.put o.dst v') w') :
    if Region.wanted o (yielded ops a.tmps) = true then Oper.wp Tryz.prog o a w K Q else E := by
  have hw : Region.wanted o (yielded ops a.tmps) = true := by simp [Region.wanted, hg]
  rw [if_pos hw]
  obtain ⟨v', w', hrun, h1, h2, h3⟩ := hown.append hbase (Q := R) hR (m := [y]) (ms := [sl]) rfl (fun i h h2 => by
    obtain rfl : i = 0 := by simpa using h
    exact hy) o.type ad c (by rw [rowsL_one]; exact hc) (by simp; omega)
  unfold Oper.wp
  rw [List.length_singleton] at hrun
  simp [execOp, hop, resolve, invoke, builtin, hs, hx, hrun, Result.andThen]
  exact hK _ _ h1 h2 h3
/-- Six cells of a new block. -/
theorem six_new (w : World) (a : Nd) (sl : Value) (t : TypeId) : ∀ j u, (rowL a sl)[j]? = some u → (w.alloc (.cells #[.int .u8 a.k, .int .i64 a.n, .int .i64 a.d, .bool a.t, .string a.s, sl] t)).cell? ((⟨w.heap.size, 0, none⟩ : Addr).add j) = some u := by
  intro j u h
  have hb := heap_alloc_new w (.cells #[.int .u8 a.k, .int .i64 a.n, .int .i64 a.d, .bool a.t, .string a.s, sl] t)
  simp only [Addr.add_lit, Nat.zero_add]
  simp only [World.cell?, hb]
  have : (#[.int .u8 a.k, .int .i64 a.n, .int .i64 a.d, .bool a.t, .string a.s, sl] : Array Value)[j]? = (rowL a sl)[j]? := by
    show (rowL a sl).toArray[j]? = _
    simp
  rw [this, h]; simp
end Go.Proofs.YtakjgjhjndiggaaGreatDoor
