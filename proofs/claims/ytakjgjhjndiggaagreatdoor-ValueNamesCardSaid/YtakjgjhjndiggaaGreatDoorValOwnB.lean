/-
  A list that is being made, next to other memory.
-/
import Derived.Test.YtakjgjhjndiggaaGreatDoorValOwn
import Derived.Test.YtakjgjhjndiggaaGreatDoorValSix
namespace Go.Proofs.YtakjgjhjndiggaaGreatDoor
open Go.RowKit
open VM
set_option linter.unusedVariables false
set_option linter.unusedSimpArgs false

theorem OwnL.set {base : Nat} {w : World} {l : List V} {v : Value} (h : OwnL base w l v) {p : Addr} (hp : p.block < base) (u : Value) : OwnL base (w.setCell p u) l v := by
  obtain ⟨ss, h1, h2, h3⟩ := h.ex
  exact ⟨ss, h1, ownsRow_setCell_below h2 hp u, fun i hi hi2 => (h3 i hi hi2).carry fun b hb hq => ⟨hq, Below.heap_setCell _ _ _ _ (by have := hq.1; omega)⟩⟩
theorem below_grown {B base : Nat} {w w' w0 : World} {v : Value} {l : List V} (h : w.grownBy w' v.ownBlock) (ho : OwnL base w l v) (hB : B ≤ base) (hs : base ≤ w.heap.size) (hb : Below B w0 w) : Below B w0 w' := by
  refine hb.trans ⟨h.os, h.tape, h.output, h.size, fun k hk => ?_⟩
  refine h.block k (by omega) fun e => ?_
  rcases ho.slice with ⟨rfl, _⟩ | ⟨g, cap, rfl, hg, _⟩
  · simp [Value.ownBlock] at e
  · simp only [Value.ownBlock, Option.some.injEq] at e; omega
theorem heap_grown {base g : Nat} {w w' : World} {v : Value} {l : List V} {x : Obj} (h : w.grownBy w' v.ownBlock) (ho : OwnL base w l v) (hg : g < base) (hx : w.heap[g]? = some x) : w'.heap[g]? = some x := by
  rw [← hx]
  refine h.block g (lt_of_block hx) fun e => ?_
  rcases ho.slice with ⟨rfl, _⟩ | ⟨g, cap, rfl, hg, _⟩
  · simp [Value.ownBlock] at e
  · simp only [Value.ownBlock, Option.some.injEq] at e; omega
theorem rep_grown {base : Nat} {Q : Nat → Prop} {w w' : World} {v : Value} {l m : List V} {sl : Value} (h : w.grownBy w' v.ownBlock) (ho : OwnL base w l v) (hr : RepL Q w m sl) (hQ : ∀ b, Q b → b < base) : RepL Q w' m sl :=
  hr.carry fun b hb hq => ⟨hq, h.block b hb fun e => by
    have := hQ b hq
    rcases ho.slice with ⟨rfl, _⟩ | ⟨g, cap, rfl, hg, _⟩
    · simp [Value.ownBlock] at e
    · simp only [Value.ownBlock, Option.some.injEq] at e; omega⟩

theorem OwnL.some {base : Nat} {w : World} {l : List V} {v : Value} (h : OwnL base w l v) {n : Nat} (hl : l.length = n + 1) : ∃ g cap, v = .slice (some ⟨g, 0, none⟩) (n + 1) cap ∧ base ≤ g ∧ g < w.heap.size := by
  rcases h.slice with ⟨_, e⟩ | h
  · rw [e] at hl; simp at hl
  · rw [hl] at h; exact h
theorem OwnL.apart {base : Nat} {w : World} {l : List V} {v : Value} (h : OwnL base w l v) (hb : base ≤ w.heap.size) : ∀ b, w.heap.size ≤ b → base ≤ b ∧ v.ownBlock ≠ Option.some b := by
  intro b hb2
  refine ⟨by omega, ?_⟩
  rcases h.slice with ⟨rfl, _⟩ | ⟨g, cap, rfl, hg, hg2⟩
  · simp [Value.ownBlock]
  · simp only [Value.ownBlock, ne_eq, Option.some.injEq]; omega

/-- The append of one value, in a plain walk. -/
theorem wpList_append_one {ops : Array Oper} {rest : List Oper} {o : Oper} {a : Act} {w : World} {Q : Exit → Act → World → Prop}
    (hgd : o.guard = none) (s x : Operand) (hop : o.op = Op.call { callee := Callee.builtin Builtin.append, args := #[s, x], argTypes := #[26, 26] })
    (base : Nat) (l : List V) (v : Value) (hs : a.eval s = v) (hown : OwnL base w l v) (hbase : base ≤ w.heap.size) (R : Nat → Prop) (hR : ∀ b, b < w.heap.size → R b → base ≤ b ∧ v.ownBlock ≠ Option.some b)
    (y : V) (sl : Value) (hy : RepL R w y.list sl) (ad : Addr) (c : Nat) (hx : a.eval x = .slice (Option.some ad) 1 c) (hc : ∀ j u, (rowL y.nd sl)[j]? = Option.some u → w.cell? (ad.add j) = Option.some u) (hn : l.length < 1000000)
    (hK : ∀ v' w', OwnL base w' (l ++ [y]) v' → w.grownBy w' v.ownBlock → (v'.ownBlock = v.ownBlock ∨ v'.ownBlock = Option.some w.heap.size) → wpList Tryz.prog ops Q rest (a.put o.dst v') w') : wpList Tryz.prog ops Q (o :: rest) a w :=
  wpList_plain hgd fun _ hK2 => by
    obtain ⟨v', w', hrun, h1, h2, h3⟩ := hown.append hbase (Q := R) hR (m := [y]) (ms := [sl]) rfl (fun i h h2 => by
      obtain rfl : i = 0 := by simpa using h
      exact hy) o.type ad c (by rw [rowsL_one]; exact hc) (by simp; omega)
    unfold Oper.wp
    rw [List.length_singleton] at hrun
    simp [execOp, hop, resolve, invoke, builtin, hs, hx, hrun, Result.andThen]
    exact hK2 _ _ (hK _ _ h1 h2 h3)
end Go.Proofs.YtakjgjhjndiggaaGreatDoor
