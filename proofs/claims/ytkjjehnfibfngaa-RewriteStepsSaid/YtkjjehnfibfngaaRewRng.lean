/-
  A loop over an iterator whose values lie in memory: the iterator says, of each value that it hands on, where it lies (Qx).
-/
import Derived.Test.YtkjjehnfibfngaaWordFr
import Derived.RangeFuncNested
import Derived.RangeFuncBound
import Derived.RangeFuncCalls
import Derived.RangeFuncLeaves
import Derived.RangeFuncBox
import Derived.Shelf.Abstract
import Derived.Shelf.RegionOpen
import Derived.OwnWalkIn
import Derived.TacticsInMore
import Derived.LoopNIn
import Derived.LoopIn
namespace Go.Proofs.Ytkjjehnfibfngaa
open Go.RowKit
set_option linter.unusedVariables false
set_option linter.unusedSimpArgs false

variable {F : Fence} {n : Nat} {P : Program} {α : Type}

/-- What a round may do: it writes block B and the row r, which may be a new one behind. -/
structure StepK (N0 B : Nat) (r r' : Option Nat) (W W' : World) : Prop where
  below : Below N0 W W'
  keep : ∀ (k : Nat) (o : Obj), W.heap[k]? = some o → o.isCells = true → k ≠ B → some k ≠ r → W'.heap[k]? = some o
  row : r' = r ∨ ∀ g, r' = some g → W.heap.size ≤ g
theorem StepK.trans {N0 B : Nat} {r1 r2 r3 : Option Nat} {X Y Z : World} (h : StepK N0 B r1 r2 X Y) (k : StepK N0 B r2 r3 Y Z) : StepK N0 B r1 r3 X Z := by
  refine ⟨h.below.trans k.below, fun j o hj ho hb hr => ?_, ?_⟩
  · refine k.keep j o (h.keep j o hj ho hb hr) ho hb ?_
    rcases h.row with e | e
    · rw [e]; exact hr
    · intro e2
      have := e j e2.symm
      have := lt_of_block hj
      omega
  · have hs := h.below.size
    rcases k.row with e | e
    · rw [e]; exact h.row
    · exact .inr fun g hg => Nat.le_trans hs (e g hg)
theorem StepK.alloc {N0 B : Nat} {r : Option Nat} {W : World} (hN : N0 ≤ W.heap.size) (o : Obj) : StepK N0 B r r W (W.alloc o) := ⟨(Below.refl _ _).alloc hN _, fun k o2 hk _ _ _ => heap_alloc_old hk _, .inl rfl⟩
theorem StepK.put {N0 B : Nat} {r : Option Nat} {W : World} {l : Nat} {o o' : Obj} (hl : W.heap[l]? = some o) (ho : o.isCells = false) (hb : Below N0 W (W.putObj l o')) : StepK N0 B r r W (W.putObj l o') :=
  ⟨hb, fun k o2 hk ho2 _ _ => by
    by_cases e : k = l
    · subst e; rw [hl] at hk; cases hk; rw [ho] at ho2; cases ho2
    · exact (World.putObj_heap_other e).trans hk, .inl rfl⟩
/-- What a round promises the iterator. -/
def TellR (N0 B : Nat) (J : Option Nat → List α → World → Prop) (Jx : List α → World → Prop) (r : Option Nat) (pre : List α) (W1 : World) (e : Ending) (W' : World) : Prop :=
  (e = .returned (.bool true) ∧ ∃ r', StepK N0 B r r' W1 W' ∧ J r' pre W') ∨ (e = .returned (.bool false) ∧ Jx pre W')
/-- What an iterator promises that tells where its values lie. -/
def Tells (F : Fence) (n : Nat) (P : Program) (g : Nat) (lb : Array Value) (en : α → Array Value) (N0 B : Nat) (Qx : α → World → Prop) (S Sp : List α → Prop) (N : Nat) (w : World) : Prop :=
  ∀ (l : Nat) (J : Option Nat → List α → World → Prop) (Jx : List α → World → Prop) (W : World), Below w.heap.size w W → AbidesFrom W.heap.size (fun (s : Option Nat × List α) => J s.1 s.2) → AbidesFrom W.heap.size Jx →
    (∀ r pre W1, J r pre W1 → ∀ g, r = some g → g < W1.heap.size) →
    (∀ r pre x W1, J r pre W1 → Qx x W1 → pre.length < N → YieldAt F (n - 1) P l (en x) W1 (TellR N0 B J Jx r (pre ++ [x]) W1)) → J none [] W →
    CallsIn F n P g (#[.func (.yield l) #[] #[]] ++ lb) W fun e W' => (∃ v, e = .returned v) ∧ ((∃ r xs, S xs ∧ J r xs W') ∨ (∃ pre, Sp pre ∧ Jx pre W'))
/-- How a round's body may end. -/
def TellB (b N0 B : Nat) (I : Option Nat → List α → World → Prop) (Ix : List α → World → Prop) (r : Option Nat) (pre : List α) (W : World) : Exit → Act → World → Prop
  | .normal, _, W' => KeepsFrom b W W' ∧ ∃ r', StepK N0 B r r' W W' ∧ I r' pre W'
  | .ret, _, W' => KeepsFrom b W W' ∧ Ix pre W'
  | _, _, _ => False
/-- The loop's two blocks. -/
structure Two (w W : World) (r : Loop) : Prop where
  lp : W.heap[w.heap.size + 1]? = some (.loop r)
  col : W.heap[w.heap.size]? = some (.deferred (some []))
theorem Two.lt {w W : World} {r : Loop} (h : Two w W r) : w.heap.size + 1 < W.heap.size := lt_of_block h.lp
theorem Two.put {w W : World} {r : Loop} (h : Two w W r) (r' : Loop) : Two w (W.putObj (w.heap.size + 1) (.loop r')) r' :=
  ⟨World.putObj_heap_same h.lt, (World.putObj_heap_other (by omega)).trans h.col⟩
theorem Two.kept {w W W' : World} {r : Loop} (h : Two w W r) (hk : KeepsFrom w.heap.size W W') : Two w W' r := ⟨hk.same _ _ (by omega) h.lp rfl, hk.same _ _ (Nat.le_refl _) h.col rfl⟩
theorem Two.grown {w W W' : World} {r : Loop} {row : Option Nat} (h : Two w W r) (hg : W.grownBy W' row) (hr : ∀ j, row = some j → ∃ o : Obj, W.heap[j]? = some o ∧ o.isWalk = true) : Two w W' r :=
  ⟨(grownBy_keeps hg hr h.lp rfl).trans h.lp, (grownBy_keeps hg hr h.col rfl).trans h.col⟩
theorem Two.own {w W : World} {r : Loop} {β : Type} {I : β → World → Prop} (h : Two w W r) (hI : OwnFrom w.heap.size I) {s : β} (hs : I s W) (r' : Loop) : I s (W.putObj (w.heap.size + 1) (.loop r')) :=
  hI.putObj _ hs (by omega) h.lp rfl
theorem Two.step {w W : World} {r : Loop} (h : Two w W r) {N0 : Nat} (hN : N0 ≤ w.heap.size) (B : Nat) (q : Option Nat) (r' : Loop) : StepK N0 B q q W (W.putObj (w.heap.size + 1) (.loop r')) :=
  StepK.put h.lp rfl (belowK_b (w := w) hN W _ _ _ (by omega) h.lp rfl rfl)
theorem own_abides {w : World} {B : Nat} {β : Type} {I : β → World → Prop} (hI : OwnFrom w.heap.size I) (hB : w.heap.size ≤ B) {s : β} {A A' : World} {row : Option Nat} (hs : I s A) (hg : A.grownBy A' row) (hr : ∀ j, row = some j → B ≤ j ∧ ∃ o : Obj, A.heap[j]? = some o ∧ o.isWalk = true) : I s A' :=
  hI s A A' row hs hg fun j e => by obtain ⟨h1, o, h2, h3⟩ := hr j e; exact ⟨by omega, o, h2, Obj.not_cells_of_walk h3⟩

theorem range_tells {g : Operand} {ps : Array Tmp} {assign body : Code} {Q : Exit → Act → World → Prop} {a : Act} {w : World} (hro : F.round = none) (h1 : 1 ≤ n) {gf : Nat} {lb : Array Value} (hg : a.eval g = .func (.func gf) #[] lb) (hFg : F.fn gf)
    (eg : ∀ args w, (callFunc gf args).run P w = .ok (.enter gf args) w) {en : α → Array Value} {N0 B : Nat} {Qx : α → World → Prop} {S Sp : List α → Prop} {N : Nat} {w0 : World} (hit : Tells F (n - 1) P gf lb en N0 B Qx S Sp N w0)
    (hN0 : N0 ≤ w.heap.size) (hb0 : Below w0.heap.size w0 w) (hps : ∀ x, (en x).size = ps.size) (I : Option Nat → List α → World → Prop) (Ix : List α → World → Prop) (hIr : ∀ r pre W1, I r pre W1 → ∀ g, r = some g → g < W1.heap.size) (hI : OwnFrom w.heap.size (fun (s : Option Nat × List α) => I s.1 s.2)) (hIx : OwnFrom w.heap.size Ix) (hQ : OwnFrom w.heap.size Qx) (h0 : I none [] w) (ob : α → Obj) (a₁ : α → Nat → Act)
    (hassign : ∀ (l : Nat) (x : α) (W : World) (K : Act → World → Prop), K (a₁ x W.heap.size) (W.alloc (ob x)) →
      assign.wpIn (F.inRound l) (n - 1 - 1) P (Exit.then K (fun _ _ _ => False)) { tmps := (ps.zip (en x)).foldl (fun t (p, v) => t.setIfInBounds p v) a.tmps, defers := [] } W)
    (hbody : ∀ (l : Nat) (r : Option Nat) (pre : List α) (x : α) (mb : Nat) (W : World), I r pre W → Qx x W → W.heap[mb]? = some (ob x) → some mb ≠ r → w.heap.size ≤ mb → pre.length < N → body.wpIn (F.inRound l) (n - 1 - 1) P (TellB w.heap.size N0 B I Ix r (pre ++ [x]) W) (a₁ x mb) W)
    (hdone : ∀ (D : Nat) (r : Option Nat) (xs : List α) (W : World), w.heap.size ≤ D → S xs → I r xs W → W.heap[D]? = some (.deferred (some [])) → Q .normal { a with defers := { target := .collected D, args := #[] } :: a.defers } W)
    (hstop : ∀ (D : Nat) (pre : List α) (W : World), w.heap.size ≤ D → Sp pre → Ix pre W → W.heap[D]? = some (.deferred (some [])) → Code.ret.wpIn F n P Q { a with defers := { target := .collected D, args := #[] } :: a.defers } W) :
    (Code.rangeFunc g ps assign body).wpIn F n P Q a w := by
  refine wpIn_rangeFunc fun fn hfn => ?_
  obtain ⟨r0, hr0⟩ : ∃ r0 : Loop, r0 = { state := .ready, pending := none, fn, tmps := a.tmps, params := ps, assign, body, defers := w.heap.size } := ⟨_, rfl⟩
  obtain ⟨W1, hW1⟩ : ∃ W1, W1 = (w.alloc (.deferred (some []))).alloc (.loop r0) := ⟨_, rfl⟩
  have T1 : Two w W1 r0 := by
    rw [hW1]
    exact ⟨by have := World.alloc_heap_new (w.alloc (.deferred (some []))) (.loop r0); rwa [World.size_alloc] at this, heap_alloc_old (World.alloc_heap_new w _) _⟩
  have hsz : W1.heap.size = w.heap.size + 2 := by rw [hW1]; simp
  have hB1 : Below w.heap.size w W1 := by rw [hW1]; exact ((Below.refl _ w).alloc (Nat.le_refl _) _).alloc (by simp) _
  refine ⟨w.heap.size + 1, [{ target := .collected w.heap.size, args := #[] }], W1, { target := .fn (.func gf) lb, args := #[.func (.yield (w.heap.size + 1)) #[] #[]] }, W1, gf, #[.func (.yield (w.heap.size + 1)) #[] #[]] ++ lb, W1, ?_, ?_, ?_, ?_, fun _ => h1, ?_⟩
  · rw [hro, hW1, hr0]; exact run_enterLoop_outer _ _ _ _ _
  · simp only [resolve, hg]; simp [go_sem]
  · intro f' hf'
    simp [Target.leads] at hf'
    subst hf'; exact hFg
  · simp [invoke, go_sem, eg]
  have ab : ∀ {β : Type} {I : β → World → Prop}, OwnFrom w.heap.size I → AbidesFrom W1.heap.size I := fun hI s A A' row hs hg hr => own_abides hI (by omega) hs hg hr
  refine (hit (w.heap.size + 1) (fun r pre W => I r pre W ∧ Two w W r0) (fun pre W => Ix pre W ∧ Two w W { r0 with state := .done, pending := some .ret }) W1 (hb0.trans (hB1.mono hb0.size))
    (fun s A A' row hs hg hr => ⟨ab hI s A A' row hs.1 hg hr, hs.2.grown hg fun j e => (hr j e).2⟩) (fun s A A' row hs hg hr => ⟨ab hIx s A A' row hs.1 hg hr, hs.2.grown hg fun j e => (hr j e).2⟩) (fun r pre W h => hIr r pre W h.1) ?_
    ⟨by rw [hW1]; exact hI.alloc (s := (none, [])) _ (hI.alloc (s := (none, [])) _ h0), T1⟩).mono ?_
  · rintro r pre x W ⟨hi, hT⟩ hq hlen
    have hy := run_yield (P := P) (args := en x) hT.lp (by rw [hr0]; exact hps x)
    rw [hr0] at hy
    have hT1 : Two w (W.alloc (ob x)) r0 := hT.grown (World.grownBy_alloc W _ none) (fun j e => by cases e)
    refine ⟨fn, _, assign, body, hy, roundIn_of_wpIn hfn (hassign _ x W _ ⟨_, run_beginRound hT1.lp (by rw [hr0]), ?_⟩)⟩
    have T2 := hT1.put { r0 with state := .busy }
    have hlt := hT.lt
    have s1 : StepK N0 B r r W (W.alloc (ob x)) := StepK.alloc (by omega) _
    refine wpIn_mono (hbody _ r pre x W.heap.size _ (hT1.own hI (s := (r, pre)) (hI.alloc (s := (r, pre)) _ hi) _) (hT1.own hQ (hQ.alloc _ hq) _) ((World.putObj_heap_other (by omega)).trans (World.alloc_heap_new W _)) (fun e => by have := hIr r pre W hi _ e.symm; omega) (by omega) hlen) ?_
    rintro e a3 W3 hp
    cases e with
    | normal =>
      obtain ⟨k3, r', b3, i3⟩ := hp
      have T3 := T2.kept k3
      have T4 := T3.put r0
      refine ⟨_, _, run_endRound none T3.lp, .inl ⟨rfl, r', ((s1.trans (hT1.step hN0 B r _)).trans b3).trans (T3.step hN0 B r' _), T3.own hI (s := (r', _)) i3 _, ?_⟩⟩
      have e0 : ({ ({ r0 with state := .busy } : Loop) with state := .ready, pending := none } : Loop) = r0 := by rw [hr0]
      show Two w (W3.putObj (w.heap.size + 1) (.loop { ({ r0 with state := .busy } : Loop) with state := .ready, pending := none })) r0
      rw [e0]; exact T4
    | ret =>
      obtain ⟨k3, i3⟩ := hp
      have T3 := T2.kept k3
      exact ⟨_, _, run_endRound (some .ret) T3.lp, .inr ⟨rfl, T3.own hIx i3 _, T3.put { r0 with state := .done, pending := some .ret }⟩⟩
    | exit id => exact hp.elim
    | goto t => exact hp.elim
    | panic ch => exact hp.elim
    | outgrown => exact hp.elim
  · rintro e W2 ⟨⟨v, rfl⟩, ⟨r, xs, hS, hi, hT⟩ | ⟨pre, hSp, hi, hT⟩⟩
    · refine ⟨none, _, by have := run_endLoop (P := P) hT.lp (by rw [hr0]; simp); rw [show r0.pending = none by rw [hr0]] at this; exact this, hdone _ r xs _ (Nat.le_refl _) hS (hT.own hI (s := (r, xs)) hi _) (hT.put _).col⟩
    · exact ⟨some .ret, _, run_endLoop (P := P) hT.lp (by simp), hstop _ pre _ (Nat.le_refl _) hSp (hT.own hIx hi _) (hT.put _).col⟩
end Go.Proofs.Ytkjjehnfibfngaa
