/-
  RewriteFirst: a word whose args may be another's; a rule behind rules; steps module by module.
-/
import Derived.Test.YtkjjehnfibfngaaGreatDoorZRewriteStillProofM10
import Derived.Test.YtkjjehnfibfngaaGreatDoorZRewriteStillProofM12
import Derived.Test.YtkjjehnfibfngaaGreatDoorZRewriteStillProofM8
namespace Go.Proofs.YtkjjehnfibfngaaGreatDoor
open Go.RowKit
open WM RM
set_option linter.unusedVariables false
set_option linter.unusedSimpArgs false

/-- A list of numbers in memory, apart from a row. -/
structure ArgX (w : World) (rb : Option Nat) (u : Value) (x : List Int) : Prop where
  ints : Ints w u x
  nilOr : NilOr u
  apart : x = [] ∨ u.ownBlock ≠ rb
theorem ints_blk {w : World} {u : Value} {x : List Int} (h : Ints w u x) (hx : x ≠ []) : ∃ b, u.ownBlock = some b ∧ b < w.heap.size := by
  cases h with
  | none p c => exact absurd rfl hx
  | some b off cap _ hpos hlt hc => exact ⟨b, rfl, hlt⟩
theorem ints_grown {w w' : World} {u : Value} {x : List Int} {row : Option Nat} (h : Ints w u x) (hg : w.grownBy w' row) (ha : x = [] ∨ u.ownBlock ≠ row) : Ints w' u x := by
  cases h with
  | none p c => exact .none p c
  | some b off cap _ hpos hlt hc =>
    have hne : some b ≠ row := by
      rcases ha with e | e
      · subst e; simp at hpos
      · exact e
    have hb := hg.block b hlt hne
    have hs : b < w'.heap.size := by
      rcases Nat.lt_or_ge b w'.heap.size with h | h
      · exact h
      · rw [Array.getElem?_eq_none h] at hb
        rw [Array.getElem?_eq_getElem hlt] at hb
        simp at hb
    refine .some b off cap x hpos hs fun i hi => ?_
    rw [← hc i hi]
    simp only [World.cell?, hb]
theorem ArgX.later {w w1 : World} {rb : Option Nat} {u : Value} {x : List Int} (h : ArgX w rb u x) (hb : Below w.heap.size w w1) : ArgX w1 rb u x := ⟨h.ints.later hb, h.nilOr, h.apart⟩
/-- A word in a row of one's own; its args anywhere else. -/
structure ModX (w : World) (base : Nat) (v : Value) (l : List Md) (vs : List Value) : Prop where
  len : vs.length = l.length
  row : w.ownsRow base 43 2 v l.length (modC l vs)
  args : ∀ k, (h : k < l.length) → (h2 : k < vs.length) → ArgX w v.ownBlock vs[k] l[k].a
theorem ModX.mods {w : World} {base : Nat} {v : Value} {l : List Md} {vs : List Value} (h : ModX w base v l vs) : Mods w v l :=
  mods_of_rows h.len h.row fun j hj hj2 => ⟨(h.args j hj hj2).ints, (h.args j hj hj2).nilOr⟩
theorem ModX.later {w w' : World} {base : Nat} {v : Value} {l : List Md} {vs : List Value} (h : ModX w base v l vs) (hb : Below w.heap.size w w') : ModX w' base v l vs :=
  ⟨h.len, l_own_later h.row hb, fun k hk hk2 => (h.args k hk hk2).later hb⟩
theorem modX_nil (w : World) (base : Nat) : ModX w base (.slice none 0 0) [] [] := ⟨rfl, World.ownsRow_nil _ _ _ _, fun k h => by simp at h⟩
theorem modX_snoc {base : Nat} {wr X3 X4 : World} {l : List Md} {m : Md} {v v' v2 : Value} {vs : List Value} (h : ModX wr base v l vs) (e : Below wr.heap.size wr X3) (ha : ArgX X3 v.ownBlock v' m.a)
    (o4 : X4.ownsRow base 43 2 v2 (l.length + 1) (modC l vs ++ [.int .u8 m.c.toNat, v'])) (g4 : X3.grownBy X4 v.ownBlock) (b4 : v2.ownBlock = v.ownBlock ∨ v2.ownBlock = some X3.heap.size) : ModX X4 base v2 (l ++ [m]) (vs ++ [v']) := by
  have key : ∀ u x, ArgX X3 v.ownBlock u x → ArgX X4 v2.ownBlock u x := by
    intro u x hu
    refine ⟨ints_grown hu.ints g4 hu.apart, hu.nilOr, ?_⟩
    by_cases hx : x = []
    · exact .inl hx
    · right
      rcases hu.apart with h1 | h1
      · exact absurd h1 hx
      · rcases b4 with h2 | h2
        · rw [h2]; exact h1
        · obtain ⟨b, h3, h4⟩ := ints_blk hu.ints hx
          rw [h2, h3]; intro h5
          have := Option.some.inj h5; omega
  refine ⟨by rw [List.length_append, List.length_append, h.len]; rfl, by rw [List.length_append, modC_snoc _ _ _ _ h.len.symm]; exact o4, ?_⟩
  intro k hk hk2
  rw [List.length_append, List.length_singleton] at hk
  rcases Nat.lt_or_eq_of_le (Nat.le_of_lt_succ hk) with hlt | heq
  · have hk3 : k < vs.length := by rw [h.len]; exact hlt
    rw [List.getElem_append_left hlt, List.getElem_append_left hk3]
    exact key _ _ ((h.args k hlt hk3).later e)
  · subst heq
    have e1 : (l ++ [m])[l.length] = m := by simp
    have e2 : (vs ++ [v'])[l.length] = v' := by
      rw [List.getElem_append_right (by rw [h.len]; exact Nat.le_refl _)]
      simp [h.len]
    rw [e1, e2]
    exact key _ _ ha
/-- The args of a word that came in are apart from a newer row. -/
theorem argX_old {W0 w : World} {rb : Option Nat} {u : Value} {x : List Int} (h : Ints W0 u x) (hn : NilOr u) (hb : Below W0.heap.size W0 w) (hr : ∀ j, rb = some j → W0.heap.size ≤ j) : ArgX w rb u x :=
  ⟨h.later hb, hn, by
    by_cases hx : x = []
    · exact .inl hx
    · right
      obtain ⟨b, h1, h2⟩ := ints_blk h hx
      rw [h1]; intro e
      have := hr b e.symm; omega⟩
/-- The args that a row of one's own holds are apart from an older row. -/
theorem argX_new {w : World} {B : Nat} {rb : Option Nat} {u : Value} {x : List Int} (h : w.ownsRow B 3 1 u x.length (valsL x)) (hr : ∀ j, rb = some j → j < B) : ArgX w rb u x :=
  ⟨ints_of_owned h, nilOr_of_owned h, by
    by_cases hx : x = []
    · exact .inl hx
    · right
      obtain ⟨b, h1, h2⟩ := ints_blk (ints_of_owned h) hx
      rw [h1]; intro e
      have := hr b e.symm
      have := (owns_lt h b h1).1; omega⟩
/-! ### A rule behind rules -/
theorem rchk_init {r : Rw} {l : List Rw} (h : rchk (l ++ [r]) = 0) : rchk l = 0 := by
  obtain ⟨h1, h2⟩ := rchk_zero h
  obtain ⟨h3, h4⟩ := many_no h1
  have m1 : manyB l = false := by
    refine many_not (by rw [List.length_append] at h3; omega) fun k hk => ?_
    have := h4 l[k] (by simp)
    omega
  exact rchk_ok m1 fun k hk => h2 _ (by simp)
def usB (r x : Rw) : Bool := x.c == r.c && decide (x.ar = r.ar) && decide (x.gs.length = 0)
theorem firstF_app (r : Rw) (m : Md) : ∀ (l : List Rw) (i : Int), 0 ≤ i → firstF (l ++ [r]) m i = if firstF l m i = -1 then (if fitB r m = true then i + l.length else -1) else firstF l m i
  | [], i, h => by simp [firstF]
  | x :: l, i, h => by
    have e1 : firstF (x :: l ++ [r]) m i = if fitB x m = true then i else firstF (l ++ [r]) m (i + 1) := rfl
    have e2 : firstF (x :: l) m i = if fitB x m = true then i else firstF l m (i + 1) := rfl
    rw [e1, e2]
    by_cases hf : fitB x m = true
    · rw [if_pos hf, if_pos hf, if_neg (by omega)]
    · rw [if_neg hf, if_neg hf, firstF_app r m l (i + 1) (by omega)]
      split
      · split
        · rw [List.length_cons]; omega
        · rfl
      · rfl
theorem firstF_none (m : Md) : ∀ (l : List Rw) (i : Int), 0 ≤ i → firstF l m i = -1 → ∀ x ∈ l, fitB x m = false
  | [], _, _, _ => by simp
  | y :: l, i, h, e => by
    unfold firstF at e
    by_cases hf : fitB y m = true
    · rw [if_pos hf] at e; omega
    · rw [if_neg hf] at e
      intro x hx
      rcases List.mem_cons.1 hx with rfl | hx
      · simpa using hf
      · exact firstF_none m l (i + 1) (by omega) e x hx
theorem us_fit {r x : Rw} {m : Md} (h : usB r x = true) (hx : fitB x m = false) : fitB r m = false := by
  unfold usB at h
  rw [Bool.and_eq_true, Bool.and_eq_true, beq_iff_eq, decide_eq_true_iff, decide_eq_true_iff] at h
  obtain ⟨⟨h1, h2⟩, h3⟩ := h
  have hg : x.gs = [] := List.length_eq_zero_iff.1 h3
  unfold fitB at hx ⊢
  rw [hg, h1, h2, List.all_nil, Bool.and_true] at hx
  rw [hx]; rfl
theorem suc_more {r : Rw} {l : List Rw} {m : Md} (h : l.any (usB r) = true) : succM (l ++ [r]) m = succM l m := by
  have e : first (l ++ [r]) m = first l m := by
    unfold first
    rw [firstF_app r m l 0 (by omega)]
    split
    · rename_i h1
      obtain ⟨x, hx, hu⟩ := List.any_eq_true.1 h
      rw [if_neg (by rw [us_fit hu (firstF_none m l 0 (by omega) h1 x hx)]; decide), h1]
    · rfl
  unfold succM
  rw [e]
  by_cases h0 : 0 ≤ first l m
  · rw [dif_pos h0, dif_pos h0]
    have : (first l m).toNat < l.length := by
      rcases firstF_rng l m 0 with h1 | ⟨h1, h2⟩
      · have : first l m = -1 := h1
        omega
      · have : first l m < 0 + l.length := h2
        omega
    rw [List.getElem?_append_left this]
  · rw [dif_neg h0, dif_neg h0]
theorem step_more {r : Rw} {l : List Rw} (h : l.any (usB r) = true) : ∀ u : List Md, stepL (l ++ [r]) u = stepL l u
  | [] => rfl
  | m :: u => by simp only [stepL]; rw [suc_more h, step_more h u]
theorem more_st {r : Rw} {l : List Rw} {u : List Md} (h : rchk (l ++ [r]) = 0) (hu : chk u = 0) (hs : l.any (usB r) = true) : stC (l ++ [r]) u = stC l u ∧ stL (l ++ [r]) u = stL l u := by
  obtain ⟨a1, a2⟩ := st_valid h hu
  obtain ⟨b1, b2⟩ := st_valid (rchk_init h) hu
  rw [step_more hs] at a1 a2
  exact ⟨by rw [a1, b1], by rw [a2, b2]⟩
/-! ### Module by module -/
theorem step_at {l : List Rw} {a D : List Md} (h : stepL l a = some D) {k : Nat} (hk : k < a.length) : ∃ d s, stepL l (a.take k) = some d ∧ succM l a[k] = some s ∧ stepL l (a.take (k + 1)) = some (d ++ s) ∧ d.length + s.length ≤ D.length := by
  have e0 : a = a.take (k + 1) ++ a.drop (k + 1) := (List.take_append_drop _ _).symm
  have e1 : a.take (k + 1) = a.take k ++ [a[k]] := List.take_succ_eq_append_getElem hk
  rw [e0, stepL_app] at h
  cases h1 : stepL l (a.take (k + 1)) with
  | none => rw [h1] at h; simp at h
  | some x =>
    cases h2 : stepL l (a.drop (k + 1)) with
    | none => rw [h1, h2] at h; simp at h
    | some y =>
      rw [h1, h2] at h
      obtain rfl : x ++ y = D := by simpa using h
      rw [e1, stepL_app] at h1
      cases h3 : stepL l (a.take k) with
      | none => rw [h3] at h1; simp at h1
      | some d =>
        cases h4 : succM l a[k] with
        | none =>
          have : stepL l [a[k]] = none := by simp [stepL, h4]
          rw [h3, this] at h1; simp at h1
        | some s =>
          have h5 : stepL l [a[k]] = some s := by simp [stepL, h4]
          rw [h3, h5] at h1
          obtain rfl : d ++ s = x := by simpa using h1
          refine ⟨d, s, rfl, rfl, ?_, ?_⟩
          · rfl
          · rw [List.length_append, List.length_append]; omega
theorem suc_none {l : List Rw} {m : Md} {s : List Md} (h : succM l m = some s) (hf : ¬ 0 ≤ first l m) : s = [m] := by
  unfold succM at h
  rw [dif_neg hf] at h
  exact (Option.some.inj h).symm
theorem suc_some {l : List Rw} {m : Md} {s : List Md} (h : succM l m = some s) (hf : 0 ≤ first l m) : ∃ k, ∃ hk : k < l.length, first l m = (k : Int) ∧ s = l[k].out.map (mkM · m.a) ∧ ∀ i, (hi : i < l[k].out.length) → mkB l[k].out[i] m.a = true := by
  have hk : (first l m).toNat < l.length := by
    rcases firstF_rng l m 0 with h1 | ⟨h1, h2⟩
    · have : first l m = -1 := h1
      omega
    · have : first l m < 0 + l.length := h2
      omega
  refine ⟨(first l m).toNat, hk, by omega, ?_⟩
  unfold succM at h
  rw [dif_pos hf, List.getElem?_eq_getElem hk] at h
  simp only at h
  unfold made at h
  split at h
  · rename_i h2
    refine ⟨(Option.some.inj h).symm, fun i hi => ?_⟩
    rw [List.all_eq_true] at h2
    exact h2 _ (List.getElem_mem hi)
  · cases h
theorem st_zero {l : List Rw} {u : List Md} (h : rchk l = 0) (hu : chk u = 0) (h0 : stC l u = 0) : ∃ D, stepL l u = some D ∧ D.length ≤ 2000 ∧ stL l u = D := by
  obtain ⟨a1, a2⟩ := st_valid h hu
  cases hs : stepL l u with
  | none => rw [hs] at a1; simp only at a1; omega
  | some D =>
    rw [hs] at a1 a2
    simp only at a1 a2
    by_cases hD : 2000 < D.length
    · rw [if_pos hD] at a1; omega
    · rw [if_neg hD] at a2
      exact ⟨D, rfl, by omega, a2⟩
/-- Where RewriteFirst's loop over the word stands. -/
structure GAt (WB : World) (l : List Rw) (a : List Md) (k : Nat) (v : Value) (wr : World) : Prop where
  hi : k ≤ a.length
  below : Below WB.heap.size WB wr
  own : ∃ d vs, stepL l (a.take k) = some d ∧ d.length ≤ 2000 ∧ ModX wr WB.heap.size v d vs
/-- Where its loop over a rule's shapes stands. -/
structure OX (WB : World) (d : List Md) (out : List Sh) (x : List Int) (n : Nat) (v : Value) (wr : World) : Prop where
  hi : n ≤ out.length
  below : Below WB.heap.size WB wr
  own : ∃ vs, ModX wr WB.heap.size v (d ++ (out.take n).map (mkM · x)) vs
theorem gAt_start (WB : World) (l : List Rw) (a : List Md) : GAt WB l a 0 (.slice none 0 0) WB := ⟨Nat.zero_le _, Below.refl _ _, [], [], rfl, by simp, modX_nil _ _⟩
theorem va_ok {f : Fm} {x : List Int} (h1 : x.length ≤ 4) (h2 : formB f (x.length : Int) = true) (h3 : fineB ⟨70, x⟩ = true) (h4 : argB (worth f x) = true) : vaC f x = 0 ∧ vaV f x = worth f x := (va_two h1 h2 h3).2 h4
theorem mkB_at {s : Sh} {x : List Int} (h : mkB s x = true) {k : Nat} (hk : k < s.a.length) : argB (worth s.a[k] x) = true := by
  unfold mkB at h
  rw [List.all_eq_true] at h
  exact h _ (List.getElem_mem hk)
theorem any_snoc {l : List Rw} {r : Rw} {k : Nat} (h : k < l.length) : (l.take (k + 1)).any (usB r) = ((l.take k).any (usB r) || usB r l[k]) := by
  rw [List.take_succ_eq_append_getElem h, List.any_append]; simp
end Go.Proofs.YtkjjehnfibfngaaGreatDoor
