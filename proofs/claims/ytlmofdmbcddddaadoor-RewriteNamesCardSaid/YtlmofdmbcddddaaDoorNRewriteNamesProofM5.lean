/-
  Texts of the proof, merged: NRewMath, NRewMem, NRewRefA, NRewRefB, NRewRefC, NRewRefD, NRewPrM, NRewPrA, NRewRefE, NRewPrD.
-/
import Derived.Test.YtlmofdmbcddddaaDoorNRewriteNamesProofM1
import Derived.Test.YtlmofdmbcddddaaDoorNRewriteNamesProofM2
namespace Go.Proofs.YtlmofdmbcddddaaDoor
open WM
set_option linter.unusedVariables false
set_option linter.unusedSimpArgs false
namespace RM

structure Fm where
  k : Int
  cs : List Int
  deriving DecidableEq
structure Sh where
  c : UInt8
  a : List Fm
  deriving DecidableEq
structure Rw where
  c : UInt8
  ar : Int
  l : UInt8
  r : UInt8
  gs : List Fm
  wt : Int
  out : List Sh
  deriving DecidableEq
def coefB (x : Int) : Bool := decide (-1000000 ≤ x) && decide (x ≤ 1000000)
theorem coefB_iff {x : Int} : coefB x = true ↔ -1000000 ≤ x ∧ x ≤ 1000000 := by simp [coefB]
/-- Is a form valid for a number of arguments? -/
def formB (f : Fm) (n : Int) : Bool := coefB f.k && decide ((f.cs.length : Int) = n) && f.cs.all coefB
/-- The module that a shape is like, its args 0. -/
def shM (s : Sh) : Md := ⟨s.c, List.replicate s.a.length 0⟩
def shB (s : Sh) (n : Int) : Bool := fineB (shM s) && s.a.all (formB · n)
/-- Is a rule valid in what the layers share? -/
def ruleB (r : Rw) : Bool := letB r.c && !(braB r.c) && decide (0 ≤ r.ar) && decide (r.ar ≤ 4) && r.gs.all (formB · r.ar) && r.out.all (shB · r.ar) && decide (chk (r.out.map shM) = 0)
def plainB (r : Rw) : Bool := r.l == 0 && r.r == 0 && decide (r.wt = 0)
def manyB (l : List Rw) : Bool := decide (40 < l.length) || l.any fun r => decide (4 < r.gs.length) || decide (20 < r.out.length)
/-- Check. -/
def rchk (l : List Rw) : Int := if manyB l = true then 4 else if l.all (fun r => ruleB r && plainB r) = true then 0 else 8
def wor : Int → List Int → List Int → Int
  | n, _, [] => n
  | n, [], _ :: _ => n
  | n, c :: cs, x :: xs => wor (n + c * x) cs xs
/-- A form's value. -/
def worth (f : Fm) (x : List Int) : Int := wor f.k f.cs x
theorem wor_snoc : ∀ (n : Int) (cs xs : List Int) (c x : Int), cs.length = xs.length → wor n (cs ++ [c]) (xs ++ [x]) = wor n cs xs + c * x
  | n, [], [], c, x, _ => by simp [wor]
  | n, c' :: cs, x' :: xs, c, x, h => by
    simp only [List.cons_append, wor]
    exact wor_snoc _ cs xs c x (by simpa using h)
  | n, [], _ :: _, _, _, h => by simp at h
  | n, _ :: _, [], _, _, h => by simp at h
theorem take_snoc {l : List Int} {k : Nat} (h : k < l.length) : l.take (k + 1) = l.take k ++ [l[k]] := List.take_succ_eq_append_getElem h
theorem wor_take {n : Int} {cs xs : List Int} (hl : cs.length = xs.length) {k : Nat} (h : k < xs.length) : wor n (cs.take (k + 1)) (xs.take (k + 1)) = wor n (cs.take k) (xs.take k) + cs[k]'(by omega) * xs[k] := by
  rw [take_snoc (l := cs) (by omega), take_snoc h]
  exact wor_snoc _ _ _ _ _ (by rw [List.length_take, List.length_take]; omega)
theorem mul_rng {c x : Int} (hc : -1000000 ≤ c ∧ c ≤ 1000000) (hx : -1000000000 ≤ x ∧ x ≤ 1000000000) : -1000000000000000 ≤ c * x ∧ c * x ≤ 1000000000000000 := by
  have key : ∀ a b : Int, -1000000 ≤ a → a ≤ 1000000 → 0 ≤ b → b ≤ 1000000000 → -1000000000000000 ≤ a * b ∧ a * b ≤ 1000000000000000 := by
    intro a b h1 h2 h3 h4
    have e1 : a * b ≤ 1000000 * b := Int.mul_le_mul_of_nonneg_right h2 h3
    have e2 : -1000000 * b ≤ a * b := Int.mul_le_mul_of_nonneg_right h1 h3
    omega
  by_cases h : 0 ≤ x
  · exact key c x hc.1 hc.2 h hx.2
  · have := key c (-x) hc.1 hc.2 (by omega) (by omega)
    rw [Int.mul_neg] at this
    omega
/-- The sum stays small at each step. -/
theorem wor_rng {n : Int} {cs xs : List Int} (hl : cs.length = xs.length) (hn : coefB n = true) (hc : cs.all coefB = true) (hx : ∀ x ∈ xs, -1000000000 ≤ x ∧ x ≤ 1000000000) :
    ∀ k, k ≤ xs.length → -1000000 - k * 1000000000000000 ≤ wor n (cs.take k) (xs.take k) ∧ wor n (cs.take k) (xs.take k) ≤ 1000000 + k * 1000000000000000 := by
  intro k
  induction k with
  | zero => intro _; have := coefB_iff.1 hn; simp [wor]; omega
  | succ k ih =>
    intro hk
    have h1 := ih (by omega)
    rw [wor_take hl (by omega)]
    have h2 := mul_rng (coefB_iff.1 (List.all_eq_true.1 hc _ (List.getElem_mem (show k < cs.length by omega)))) (hx _ (List.getElem_mem (show k < xs.length by omega)))
    omega
/-- Does a rule fit a module? -/
def fitB (r : Rw) (m : Md) : Bool := r.c == m.c && decide (r.ar = (m.a.length : Int)) && r.gs.all fun g => decide (0 ≤ worth g m.a)
/-- The first rule that fits from an index on, or -1. -/
def firstF : List Rw → Md → Int → Int
  | [], _, _ => -1
  | r :: l, m, i => if fitB r m = true then i else firstF l m (i + 1)
def first (l : List Rw) (m : Md) : Int := firstF l m 0
theorem firstF_rng : ∀ (l : List Rw) (m : Md) (i : Int), firstF l m i = -1 ∨ (i ≤ firstF l m i ∧ firstF l m i < i + l.length)
  | [], _, _ => .inl rfl
  | r :: l, m, i => by
    unfold firstF
    split
    · right; simp; omega
    · rcases firstF_rng l m (i + 1) with h | h
      · exact .inl h
      · right; simp; omega
theorem firstF_drop {l : List Rw} {m : Md} {k : Nat} (hk : k < l.length) : firstF (l.drop k) m (k : Int) = if fitB l[k] m = true then (k : Int) else firstF (l.drop (k + 1)) m ((k + 1 : Nat) : Int) := by
  rw [List.drop_eq_getElem_cons hk, firstF]
  rfl
theorem firstF_end {l : List Rw} {m : Md} {k : Nat} (hk : l.length ≤ k) : firstF (l.drop k) m (k : Int) = -1 := by
  rw [List.drop_of_length_le hk]; rfl
/-- Find's error and index. -/
def finC (l : List Rw) (m : Md) : Int := if rchk l ≠ 0 then rchk l else if fineB m = true then 0 else 8
def finV (l : List Rw) (m : Md) : Int := if finC l m = 0 then first l m else 0
/-- Value's error and number. -/
def vaC (f : Fm) (x : List Int) : Int :=
  if 4 < x.length ∨ formB f (x.length : Int) = false ∨ fineB ⟨70, x⟩ = false then 8 else if -1000000000 ≤ worth f x ∧ worth f x ≤ 1000000000 then 0 else 16
def vaV (f : Fm) (x : List Int) : Int := if vaC f x = 0 then worth f x else 0
/-- What a shape becomes. -/
def mkM (s : Sh) (x : List Int) : Md := ⟨s.c, s.a.map (worth · x)⟩
def argB (x : Int) : Bool := decide (-1000000000 ≤ x) && decide (x ≤ 1000000000)
def mkB (s : Sh) (x : List Int) : Bool := s.a.all fun f => argB (worth f x)
/-- What a rule makes of a module. -/
def made (r : Rw) (m : Md) : Option (List Md) := if r.out.all (mkB · m.a) = true then some (r.out.map (mkM · m.a)) else none
/-- A module's successor. -/
def succM (l : List Rw) (m : Md) : Option (List Md) := if h : 0 ≤ first l m then (match l[(first l m).toNat]? with | some r => made r m | none => none) else some [m]
/-- A word's successor, before its length is looked at. -/
def stepL (l : List Rw) : List Md → Option (List Md)
  | [] => some []
  | m :: w => match succM l m, stepL l w with
    | some a, some b => some (a ++ b)
    | _, _ => none
theorem stepL_app (l : List Rw) : ∀ a b : List Md, stepL l (a ++ b) = (match stepL l a, stepL l b with | some x, some y => some (x ++ y) | _, _ => none)
  | [], b => by
    simp only [List.nil_append, stepL]
    cases stepL l b <;> rfl
  | m :: a, b => by
    simp only [List.cons_append, stepL]
    rw [stepL_app l a b]
    cases succM l m <;> cases stepL l a <;> cases stepL l b <;> simp
theorem stepL_one (l : List Rw) (m : Md) : stepL l [m] = succM l m := by
  simp only [stepL]
  cases succM l m <;> simp
/-- Step's error and word. -/
def stC (l : List Rw) (w : List Md) : Int := if rchk l ≠ 0 then rchk l else if chk w ≠ 0 then chk w else match stepL l w with
  | none => 16
  | some v => if 2000 < v.length then 4 else 0
def stL (l : List Rw) (w : List Md) : List Md := if stC l w = 0 then (stepL l w).getD [] else []
/-- Run's error and word. -/
def runF (l : List Rw) : Nat → List Md → Int × List Md
  | 0, w => (0, w)
  | n + 1, w => if stC l w ≠ 0 then (stC l w, []) else runF l n (stL l w)
def ruC (l : List Rw) (w : List Md) (n : Int) : Int := if rchk l ≠ 0 then rchk l else if chk w ≠ 0 then chk w else if n < 0 ∨ 30 < n then 2 else (runF l n.toNat w).1
def ruL (l : List Rw) (w : List Md) (n : Int) : List Md := if ruC l w n = 0 then (runF l n.toNat w).2 else []
def greatR (l : List Rw) : Bool := decide (50 < l.length) || l.any fun r => decide (10 < r.gs.length) || decide (30 < r.out.length) || r.gs.any (fun g => decide (10 < g.cs.length)) || r.out.any (fun s => decide (10 < s.a.length) || s.a.any (fun g => decide (10 < g.cs.length)))
end RM
end Go.Proofs.YtlmofdmbcddddaaDoor
namespace Go.Proofs.YtlmofdmbcddddaaDoor
open Go.RowKit
open WM RM
set_option linter.unusedVariables false
set_option linter.unusedSimpArgs false

inductive Fms (w : World) : Value → List Fm → Prop
  | none (p : Option Addr) (cap : Nat) : Fms w (.slice p 0 cap) []
  | some (b off cap : Nat) (l : List Fm) (hpos : 0 < l.length) (hb : b < w.heap.size)
      (h : ∀ i, (h : i < l.length) → w.cell? ⟨b, off + i * 2, Option.none⟩ = Option.some (.int .i64 l[i].k) ∧
        ∃ v, w.cell? ⟨b, off + i * 2 + 1, Option.none⟩ = Option.some v ∧ Ints w v l[i].cs) :
      Fms w (.slice (Option.some ⟨b, off, Option.none⟩) l.length cap) l
theorem Fms.later {w w1 : World} {v : Value} {l : List Fm} (h : Fms w v l) (hb : Below w.heap.size w w1) : Fms w1 v l := by
  cases h with
  | none p cap => exact .none p cap
  | some b off cap _ hpos hlt hx =>
    refine .some b off cap l hpos (Nat.lt_of_lt_of_le hlt hb.size) fun i hi => ?_
    obtain ⟨h1, v, h2, h3⟩ := hx i hi
    exact ⟨(hb.cell (p := ⟨b, off + i * 2, Option.none⟩) hlt).trans h1, v, (hb.cell (p := ⟨b, off + i * 2 + 1, Option.none⟩) hlt).trans h2, h3.later hb⟩
theorem Fms.slice {w : World} {v : Value} {l : List Fm} (h : Fms w v l) : ∃ p cap, v = .slice p l.length cap := by
  cases h with
  | none p cap => exact ⟨p, cap, rfl⟩
  | some b off cap _ _ _ _ => exact ⟨_, cap, rfl⟩
theorem Fms.at {w : World} {v : Value} {l : List Fm} (h : Fms w v l) {k : Nat} (hk : k < l.length) :
    ∃ b off cap p c, v = .slice (Option.some ⟨b, off, Option.none⟩) l.length cap ∧ w.cell? ⟨b, off + k * 2, Option.none⟩ = Option.some (.int .i64 l[k].k) ∧
      w.cell? ⟨b, off + k * 2 + 1, Option.none⟩ = Option.some (.slice p l[k].cs.length c) ∧ Ints w (.slice p l[k].cs.length c) l[k].cs ∧ b < w.heap.size := by
  cases h with
  | none p cap => simp at hk
  | some b off cap _ _ hb hx =>
    obtain ⟨h1, v, h2, h3⟩ := hx k hk
    obtain ⟨p, c, rfl⟩ := h3.slice
    exact ⟨b, off, cap, p, c, rfl, h1, h2, h3, hb⟩
inductive Shs (w : World) : Value → List Sh → Prop
  | none (p : Option Addr) (cap : Nat) : Shs w (.slice p 0 cap) []
  | some (b off cap : Nat) (l : List Sh) (hpos : 0 < l.length) (hb : b < w.heap.size)
      (h : ∀ i, (h : i < l.length) → w.cell? ⟨b, off + i * 2, Option.none⟩ = Option.some (.int .u8 l[i].c.toNat) ∧
        ∃ v, w.cell? ⟨b, off + i * 2 + 1, Option.none⟩ = Option.some v ∧ Fms w v l[i].a) :
      Shs w (.slice (Option.some ⟨b, off, Option.none⟩) l.length cap) l
theorem Shs.later {w w1 : World} {v : Value} {l : List Sh} (h : Shs w v l) (hb : Below w.heap.size w w1) : Shs w1 v l := by
  cases h with
  | none p cap => exact .none p cap
  | some b off cap _ hpos hlt hx =>
    refine .some b off cap l hpos (Nat.lt_of_lt_of_le hlt hb.size) fun i hi => ?_
    obtain ⟨h1, v, h2, h3⟩ := hx i hi
    exact ⟨(hb.cell (p := ⟨b, off + i * 2, Option.none⟩) hlt).trans h1, v, (hb.cell (p := ⟨b, off + i * 2 + 1, Option.none⟩) hlt).trans h2, h3.later hb⟩
theorem Shs.slice {w : World} {v : Value} {l : List Sh} (h : Shs w v l) : ∃ p cap, v = .slice p l.length cap := by
  cases h with
  | none p cap => exact ⟨p, cap, rfl⟩
  | some b off cap _ _ _ _ => exact ⟨_, cap, rfl⟩
theorem Shs.at {w : World} {v : Value} {l : List Sh} (h : Shs w v l) {k : Nat} (hk : k < l.length) :
    ∃ b off cap p c, v = .slice (Option.some ⟨b, off, Option.none⟩) l.length cap ∧ w.cell? ⟨b, off + k * 2, Option.none⟩ = Option.some (.int .u8 l[k].c.toNat) ∧
      w.cell? ⟨b, off + k * 2 + 1, Option.none⟩ = Option.some (.slice p l[k].a.length c) ∧ Fms w (.slice p l[k].a.length c) l[k].a ∧ b < w.heap.size := by
  cases h with
  | none p cap => simp at hk
  | some b off cap _ _ hb hx =>
    obtain ⟨h1, v, h2, h3⟩ := hx k hk
    obtain ⟨p, c, rfl⟩ := h3.slice
    exact ⟨b, off, cap, p, c, rfl, h1, h2, h3, hb⟩
inductive Rws (w : World) : Value → List Rw → Prop
  | none (p : Option Addr) (cap : Nat) : Rws w (.slice p 0 cap) []
  | some (b off cap : Nat) (l : List Rw) (hpos : 0 < l.length) (hb : b < w.heap.size)
      (h : ∀ i, (h : i < l.length) → w.cell? ⟨b, off + i * 7, Option.none⟩ = Option.some (.int .u8 l[i].c.toNat) ∧ w.cell? ⟨b, off + i * 7 + 1, Option.none⟩ = Option.some (.int .i64 l[i].ar) ∧
        w.cell? ⟨b, off + i * 7 + 2, Option.none⟩ = Option.some (.int .u8 l[i].l.toNat) ∧ w.cell? ⟨b, off + i * 7 + 3, Option.none⟩ = Option.some (.int .u8 l[i].r.toNat) ∧
        w.cell? ⟨b, off + i * 7 + 5, Option.none⟩ = Option.some (.int .i64 l[i].wt) ∧
        (∃ v, w.cell? ⟨b, off + i * 7 + 4, Option.none⟩ = Option.some v ∧ Fms w v l[i].gs) ∧ (∃ v, w.cell? ⟨b, off + i * 7 + 6, Option.none⟩ = Option.some v ∧ Shs w v l[i].out)) :
      Rws w (.slice (Option.some ⟨b, off, Option.none⟩) l.length cap) l
theorem Rws.later {w w1 : World} {v : Value} {l : List Rw} (h : Rws w v l) (hb : Below w.heap.size w w1) : Rws w1 v l := by
  cases h with
  | none p cap => exact .none p cap
  | some b off cap _ hpos hlt hx =>
    refine .some b off cap l hpos (Nat.lt_of_lt_of_le hlt hb.size) fun i hi => ?_
    obtain ⟨h1, h2, h3, h4, h5, ⟨v, h6, h7⟩, ⟨u, h8, h9⟩⟩ := hx i hi
    have c : ∀ o, w1.cell? ⟨b, o, Option.none⟩ = w.cell? ⟨b, o, Option.none⟩ := fun o => hb.cell (p := ⟨b, o, Option.none⟩) hlt
    exact ⟨(c _).trans h1, (c _).trans h2, (c _).trans h3, (c _).trans h4, (c _).trans h5, ⟨v, (c _).trans h6, h7.later hb⟩, ⟨u, (c _).trans h8, h9.later hb⟩⟩
theorem Rws.slice {w : World} {v : Value} {l : List Rw} (h : Rws w v l) : ∃ p cap, v = .slice p l.length cap := by
  cases h with
  | none p cap => exact ⟨p, cap, rfl⟩
  | some b off cap _ _ _ _ => exact ⟨_, cap, rfl⟩
/-- A rule's cells, at a place. -/
structure RwAt (w : World) (b o : Nat) (r : Rw) (gv ov : Value) : Prop where
  c0 : w.cell? ⟨b, o, Option.none⟩ = Option.some (.int .u8 r.c.toNat)
  c1 : w.cell? ⟨b, o + 1, Option.none⟩ = Option.some (.int .i64 r.ar)
  c2 : w.cell? ⟨b, o + 2, Option.none⟩ = Option.some (.int .u8 r.l.toNat)
  c3 : w.cell? ⟨b, o + 3, Option.none⟩ = Option.some (.int .u8 r.r.toNat)
  c4 : w.cell? ⟨b, o + 4, Option.none⟩ = Option.some gv
  c5 : w.cell? ⟨b, o + 5, Option.none⟩ = Option.some (.int .i64 r.wt)
  c6 : w.cell? ⟨b, o + 6, Option.none⟩ = Option.some ov
  gs : Fms w gv r.gs
  out : Shs w ov r.out
theorem Rws.at {w : World} {v : Value} {l : List Rw} (h : Rws w v l) {k : Nat} (hk : k < l.length) :
    ∃ b off cap p c q d, v = .slice (Option.some ⟨b, off, Option.none⟩) l.length cap ∧ b < w.heap.size ∧ RwAt w b (off + k * 7) l[k] (.slice p l[k].gs.length c) (.slice q l[k].out.length d) := by
  cases h with
  | none p cap => simp at hk
  | some b off cap _ _ hb hx =>
    obtain ⟨h1, h2, h3, h4, h5, ⟨v, h6, h7⟩, ⟨u, h8, h9⟩⟩ := hx k hk
    obtain ⟨p, c, rfl⟩ := h7.slice
    obtain ⟨q, d, rfl⟩ := h9.slice
    exact ⟨b, off, cap, p, c, q, d, rfl, hb, h1, h2, h3, h4, h6, h5, h8, h7, h9⟩
end Go.Proofs.YtlmofdmbcddddaaDoor
namespace Go.Proofs.YtlmofdmbcddddaaDoor
open Go.RowKit
open WM RM
set_option linter.unusedVariables false
set_option linter.unusedSimpArgs false

theorem form_k {f : Fm} {n : Int} (h : coefB f.k = false) : formB f n = false := by simp [formB, h]
theorem form_len {f : Fm} {n : Int} (h : (f.cs.length : Int) ≠ n) : formB f n = false := by simp [formB, h]
theorem form_bad {f : Fm} {n : Int} {i : Nat} (hi : i < f.cs.length) (h : coefB f.cs[i] = false) : formB f n = false := by
  have : f.cs.all coefB = false := by
    rw [List.all_eq_false]
    exact ⟨_, List.getElem_mem hi, by rw [h]; simp⟩
  simp [formB, this]
theorem form_ok {f : Fm} {n : Int} (h1 : coefB f.k = true) (h2 : (f.cs.length : Int) = n) (h : ∀ i, (hi : i < f.cs.length) → coefB f.cs[i] = true) : formB f n = true := by
  have : f.cs.all coefB = true := by
    rw [List.all_eq_true]
    intro x hx
    obtain ⟨j, hj, rfl⟩ := List.mem_iff_getElem.1 hx
    exact h j hj
  simp [formB, h1, h2, this]
theorem form_iff {f : Fm} {n : Int} (h : formB f n = true) : coefB f.k = true ∧ (f.cs.length : Int) = n ∧ f.cs.all coefB = true := by
  unfold formB at h
  simp only [Bool.and_eq_true, decide_eq_true_eq] at h
  exact ⟨h.1.1, h.1.2, h.2⟩
theorem coef_lo {x : Int} (h : x < -1000000) : coefB x = false := by simp [coefB]; omega
theorem coef_hi {x : Int} (h : 1000000 < x) : coefB x = false := by simp [coefB]; omega
end Go.Proofs.YtlmofdmbcddddaaDoor
namespace Go.Proofs.YtlmofdmbcddddaaDoor
open Go.RowKit
open WM RM
set_option linter.unusedVariables false
set_option linter.unusedSimpArgs false

theorem fit_name {r : Rw} {m : Md} (h : r.c ≠ m.c) : fitB r m = false := by simp [fitB, h]
theorem fit_len {r : Rw} {m : Md} (h : r.ar ≠ (m.a.length : Int)) : fitB r m = false := by simp [fitB, h]
theorem fit_neg {r : Rw} {m : Md} {i : Nat} (hi : i < r.gs.length) (h : worth r.gs[i] m.a < 0) : fitB r m = false := by
  have : (r.gs.all fun g => decide (0 ≤ worth g m.a)) = false := by
    rw [List.all_eq_false]
    exact ⟨_, List.getElem_mem hi, by simp; omega⟩
  simp [fitB, this]
theorem fit_ok {r : Rw} {m : Md} (h1 : r.c = m.c) (h2 : r.ar = (m.a.length : Int)) (h : ∀ i, (hi : i < r.gs.length) → 0 ≤ worth r.gs[i] m.a) : fitB r m = true := by
  have : (r.gs.all fun g => decide (0 ≤ worth g m.a)) = true := by
    rw [List.all_eq_true]
    intro x hx
    obtain ⟨j, hj, rfl⟩ := List.mem_iff_getElem.1 hx
    simpa using h j hj
  simp [fitB, h1, h2, this]
theorem fine_args4 {m : Md} (h : fineB m = true) : m.a.length ≤ 4 ∧ ∀ x ∈ m.a, -1000000000 ≤ x ∧ x ≤ 1000000000 := by
  unfold fineB at h
  simp only [Bool.and_eq_true, decide_eq_true_eq] at h
  exact ⟨h.1.1.2, rngB_iff.1 h.2⟩
/-- A rule as a value. -/
def rwV (r : Rw) (gv ov : Value) : Value := .agg #[.int .u8 r.c.toNat, .int .i64 r.ar, .int .u8 r.l.toNat, .int .u8 r.r.toNat, gv, .int .i64 r.wt, ov]
end Go.Proofs.YtlmofdmbcddddaaDoor
namespace Go.Proofs.YtlmofdmbcddddaaDoor
open Go.RowKit
open WM RM
set_option linter.unusedVariables false
set_option linter.unusedSimpArgs false

theorem va_bad {f : Fm} {x : List Int} (h : 4 < x.length ∨ formB f (x.length : Int) = false ∨ fineB ⟨70, x⟩ = false) : vaC f x = 8 ∧ vaV f x = 0 := by
  have e : vaC f x = 8 := by unfold vaC; rw [if_pos h]
  exact ⟨e, by unfold vaV; rw [e]; rfl⟩
theorem va_good {f : Fm} {x : List Int} (h1 : ¬ 4 < x.length) (h2 : formB f (x.length : Int) = true) (h3 : fineB ⟨70, x⟩ = true) :
    (¬ (-1000000000 ≤ worth f x ∧ worth f x ≤ 1000000000) → vaC f x = 16 ∧ vaV f x = 0) ∧ ((-1000000000 ≤ worth f x ∧ worth f x ≤ 1000000000) → vaC f x = 0 ∧ vaV f x = worth f x) := by
  have e : vaC f x = if -1000000000 ≤ worth f x ∧ worth f x ≤ 1000000000 then 0 else 16 := by
    unfold vaC; rw [if_neg (by rw [h2, h3]; simp [h1])]
  constructor
  · intro h
    rw [if_neg h] at e
    exact ⟨e, by unfold vaV; rw [e]; rfl⟩
  · intro h
    rw [if_pos h] at e
    exact ⟨e, by unfold vaV; rw [e]; rfl⟩
theorem rret_two {a b c d : Int} (h1 : a = c) (h2 : b = d) : Ending.returned (.tuple #[.int .i64 a, .int .i64 b]) = .returned (.tuple #[.int .i64 c, .int .i64 d]) := by rw [h1, h2]
/-! ### Many -/
theorem many_len {l : List Rw} (h : 40 < l.length) : manyB l = true := by simp [manyB, h]
theorem many_at {l : List Rw} {k : Nat} (hk : k < l.length) (h : 4 < l[k].gs.length ∨ 20 < l[k].out.length) : manyB l = true := by
  have : (l.any fun r => decide (4 < r.gs.length) || decide (20 < r.out.length)) = true := by
    rw [List.any_eq_true]
    exact ⟨_, List.getElem_mem hk, by simpa using h⟩
  unfold manyB
  rw [this]; simp
theorem many_not {l : List Rw} (h1 : ¬ 40 < l.length) (h : ∀ k, (hk : k < l.length) → ¬ 4 < l[k].gs.length ∧ ¬ 20 < l[k].out.length) : manyB l = false := by
  have : (l.any fun r => decide (4 < r.gs.length) || decide (20 < r.out.length)) = false := by
    rw [List.any_eq_false]
    intro x hx
    obtain ⟨j, hj, rfl⟩ := List.mem_iff_getElem.1 hx
    have := h j hj
    simp; omega
  unfold manyB
  rw [this]; simpa using h1
theorem many_no {l : List Rw} (h : manyB l = false) : l.length ≤ 40 ∧ ∀ r ∈ l, r.gs.length ≤ 4 ∧ r.out.length ≤ 20 := by
  unfold manyB at h
  rw [Bool.or_eq_false_iff] at h
  refine ⟨by simpa using h.1, fun r hr => ?_⟩
  have := List.any_eq_false.1 h.2 r hr
  simpa using this
end Go.Proofs.YtlmofdmbcddddaaDoor
namespace Go.Proofs.YtlmofdmbcddddaaDoor
open Go.RowKit
open WM RM
set_option linter.unusedVariables false
set_option linter.unusedSimpArgs false

/-- How the search stands. -/
def FAt (l : List Rw) (m : Md) (k : Nat) : Prop := first l m = firstF (l.drop k) m (k : Int)
theorem fAt_start (l : List Rw) (m : Md) : FAt l m 0 := rfl
theorem fAt_yes {l : List Rw} {m : Md} {k : Nat} (hk : k < l.length) (h : FAt l m k) (hf : fitB l[k] m = true) : first l m = (k : Int) := by
  unfold FAt at h; rw [h, firstF_drop hk, if_pos hf]
theorem fAt_no {l : List Rw} {m : Md} {k : Nat} (hk : k < l.length) (h : FAt l m k) (hf : fitB l[k] m = false) : FAt l m (k + 1) := by
  unfold FAt at h ⊢; rw [h, firstF_drop hk, if_neg (by rw [hf]; decide)]
theorem fAt_end {l : List Rw} {m : Md} (h : FAt l m l.length) : first l m = -1 := by
  unfold FAt at h; rw [h, firstF_end (Nat.le_refl _)]
end Go.Proofs.YtlmofdmbcddddaaDoor
namespace Go.Proofs.YtlmofdmbcddddaaDoor
open WM
set_option linter.unusedVariables false
set_option linter.unusedSimpArgs false
namespace RM

def zerM (c : UInt8) (n : Nat) : Md := ⟨c, List.replicate n 0⟩
/-- The module that the package lays for a shape. -/
def blM (s : Sh) : Md := zerM s.c (min s.a.length 5)
theorem rng_zer (n : Nat) : rngB (List.replicate n 0) = true := by
  rw [rngB_iff]; intro x hx
  have := List.eq_of_mem_replicate hx
  omega
theorem fine_zer (c : UInt8) (n : Nat) : fineB (zerM c n) = (letB c && decide (n ≤ 4) && !(braB c && decide (0 < n))) := by
  simp [fineB, zerM, rng_zer]
theorem fine_bl (s : Sh) : fineB (blM s) = fineB (shM s) := by
  have e : shM s = zerM s.c s.a.length := rfl
  rw [e, blM, fine_zer, fine_zer]
  have h1 : decide (min s.a.length 5 ≤ 4) = decide (s.a.length ≤ 4) := by rw [decide_eq_decide]; omega
  have h2 : decide (0 < min s.a.length 5) = decide (0 < s.a.length) := by rw [decide_eq_decide]; omega
  rw [h1, h2]
theorem dlt_c {a b : Md} (h : a.c = b.c) : dlt a = dlt b := by unfold dlt; rw [h]
theorem dep_map {α : Type} (f g : α → Md) (h : ∀ x, (f x).c = (g x).c) : ∀ l : List α, dep (l.map f) = dep (l.map g)
  | [] => rfl
  | x :: l => by rw [List.map_cons, List.map_cons, dep_cons, dep_cons, dep_map f g h l, dlt_c (h x)]
theorem ok_map {α : Type} (f g : α → Md) (h : ∀ x, (f x).c = (g x).c) (l : List α) (k : Nat) : okB (l.map f) k = okB (l.map g) k := by
  rw [Bool.eq_iff_iff, okB_iff, okB_iff]
  have e : ∀ i, dep ((l.map f).take (i + 1)) = dep ((l.map g).take (i + 1)) := fun i => by rw [← List.map_take, ← List.map_take, dep_map f g h]
  constructor
  · intro h1 i hi; rw [← e i]; exact h1 i hi
  · intro h1 i hi; rw [e i]; exact h1 i hi
theorem chk_bl {out : List Sh} (hl : out.length ≤ 2000) : decide (chk (out.map blM) = 0) = (out.all (fun s => fineB (shM s)) && decide (chk (out.map shM) = 0)) := by
  have hc : ∀ s : Sh, (blM s).c = (shM s).c := fun _ => rfl
  rw [Bool.eq_iff_iff, decide_eq_true_iff, Bool.and_eq_true, decide_eq_true_iff, chk_zero, chk_zero]
  rw [List.length_map, List.length_map, ok_map blM shM hc, dep_map blM shM hc, List.all_map, List.all_map]
  have e : (fineB ∘ blM) = fun s => fineB (shM s) := by funext s; exact fine_bl s
  have e2 : (fineB ∘ shM) = fun s => fineB (shM s) := rfl
  rw [e, e2]
  constructor
  · rintro ⟨h1, h2, h3, h4⟩; exact ⟨h2, h1, h2, h3, h4⟩
  · rintro ⟨_, h1, h2, h3, h4⟩; exact ⟨h1, h2, h3, h4⟩
/-- valid's answer. -/
def validB (r : Rw) : Bool := letB r.c && !(braB r.c) && decide (0 ≤ r.ar) && decide (r.ar ≤ 4) && plainB r && r.gs.all (formB · r.ar) && decide (chk (r.out.map blM) = 0) && r.out.all (fun s => s.a.all (formB · r.ar))
theorem sh_all (out : List Sh) (n : Int) : out.all (shB · n) = (out.all (fun s => fineB (shM s)) && out.all (fun s => s.a.all (formB · n))) := by
  induction out with
  | nil => rfl
  | cons s l ih =>
    rw [List.all_cons, List.all_cons, List.all_cons, ih]
    unfold shB
    cases fineB (shM s) <;> cases s.a.all (formB · n) <;> simp
theorem validB_eq {r : Rw} (hl : r.out.length ≤ 2000) : validB r = (ruleB r && plainB r) := by
  unfold validB ruleB
  rw [chk_bl hl, sh_all]
  cases letB r.c <;> cases braB r.c <;> cases decide (0 ≤ r.ar) <;> cases decide (r.ar ≤ 4) <;> cases plainB r <;> cases r.gs.all (formB · r.ar) <;> cases r.out.all (fun s => fineB (shM s)) <;> cases r.out.all (fun s => s.a.all (formB · r.ar)) <;> cases decide (chk (r.out.map shM) = 0) <;> rfl
theorem dep_one (m : Md) : dep [m] = dlt m := by rw [dep_cons, dep_nil]; omega
theorem ok_one (m : Md) : okB [m] 1 = decide (0 ≤ dlt m) := by rw [okB_succ, okB_zero, Bool.true_and]; rw [show ([m] : List Md).take (0 + 1) = [m] from rfl, dep_one]
/-- A module alone is a word where it is no bracket. -/
theorem chk_let (c : UInt8) : decide (chk [⟨c, []⟩] = 0) = (letB c && !(braB c)) := by
  rw [Bool.eq_iff_iff, decide_eq_true_iff, chk_zero]
  have hf : ([⟨c, []⟩] : List Md).all fineB = letB c := by simp [fineB, rngB]
  rw [hf, dep_one, show ([⟨c, []⟩] : List Md).length = 1 from rfl, ok_one]
  have hd : (0 ≤ dlt ⟨c, []⟩ ∧ dlt ⟨c, []⟩ = 0) ↔ braB c = false := by
    unfold dlt braB
    by_cases h1 : c = 91
    · subst h1; decide
    · by_cases h2 : c = 93
      · subst h2; decide
      · simp [h1, h2]
  rw [Bool.and_eq_true, Bool.not_eq_true', decide_eq_true_iff]
  constructor
  · rintro ⟨_, h2, h3, h4⟩; exact ⟨h2, hd.1 ⟨h3, h4⟩⟩
  · rintro ⟨h1, h2⟩
    obtain ⟨h3, h4⟩ := hd.2 h2
    exact ⟨by omega, h1, h3, h4⟩
/-- A module alone is told bad exactly if it is no valid module. -/
theorem chk_one (m : Md) : (chk [m] == 8) = !(fineB m) := by
  cases h : fineB m with
  | false =>
    rw [chk_bad (by simp) (by simp [h])]; rfl
  | true =>
    have h1 : ([m] : List Md).all fineB = true := by simp [h]
    cases h2 : (okB [m] ([m] : List Md).length && decide (dep [m] = 0)) with
    | false => rw [chk_open (by simp) h1 h2]; rfl
    | true =>
      have : chk [m] = 0 := by unfold chk; rw [if_neg (by simp), if_neg (by simp [h]), if_pos h2]
      rw [this]; rfl
/-- Check's answer, as the package finds it. -/
theorem rchk_valid {l : List Rw} (h : manyB l = false) : rchk l = if l.all validB = true then 0 else 8 := by
  have e : l.all validB = l.all (fun r => ruleB r && plainB r) := by
    unfold manyB at h
    simp only [Bool.or_eq_false_iff] at h
    have h2 := List.any_eq_false.1 h.2
    apply Bool.eq_iff_iff.2
    rw [List.all_eq_true, List.all_eq_true]
    have key : ∀ r ∈ l, validB r = (ruleB r && plainB r) := fun r hr => validB_eq (by
      have := h2 r hr
      simp only [Bool.or_eq_true, decide_eq_true_eq, not_or, Nat.not_lt] at this
      omega)
    constructor
    · intro h3 r hr; rw [← key r hr]; exact h3 r hr
    · intro h3 r hr; rw [key r hr]; exact h3 r hr
  unfold rchk
  rw [if_neg (by rw [h]; decide), e]
/-- What the modules become, one by one: none where an arg is out of range. -/
def shO (s : Sh) (x : List Int) : Option Md := if mkB s x = true then some (mkM s x) else none
def sucO (l : List Rw) (m : Md) : List (Option Md) := if h : 0 ≤ first l m then (match l[(first l m).toNat]? with | some r => r.out.map (shO · m.a) | none => []) else [some m]
def seqO (l : List Rw) (w : List Md) : List (Option Md) := w.flatMap (sucO l)
def allO : List (Option Md) → Option (List Md)
  | [] => some []
  | none :: _ => none
  | some m :: l => (allO l).map (m :: ·)
theorem allO_app : ∀ a b : List (Option Md), allO (a ++ b) = (match allO a, allO b with | some x, some y => some (x ++ y) | _, _ => none)
  | [], b => by cases h : allO b <;> simp [allO, h]
  | none :: a, b => by simp [allO]
  | some m :: a, b => by
    simp only [List.cons_append, allO]
    rw [allO_app a b]
    cases allO a <;> cases allO b <;> simp
theorem allO_some (d : List Md) : allO (d.map some) = some d := by
  induction d with
  | nil => rfl
  | cons m d ih => simp [allO, ih]
theorem allO_none {a : List (Option Md)} (h : none ∈ a) : allO a = none := by
  induction a with
  | nil => simp at h
  | cons o a ih =>
    cases o with
    | none => rfl
    | some m =>
      simp only [List.mem_cons, reduceCtorEq, false_or] at h
      simp [allO, ih h]
theorem allO_map (out : List Sh) (x : List Int) : allO (out.map (shO · x)) = if out.all (mkB · x) = true then some (out.map (mkM · x)) else none := by
  induction out with
  | nil => rfl
  | cons s out ih =>
    rw [List.map_cons, List.all_cons, List.map_cons]
    cases h : mkB s x with
    | false =>
      rw [show shO s x = none by unfold shO; rw [if_neg (by rw [h]; decide)]]
      simp [allO]
    | true =>
      rw [show shO s x = some (mkM s x) by unfold shO; rw [if_pos h]]
      rw [allO, ih, Bool.true_and]
      split <;> rfl
theorem allO_suc (l : List Rw) (m : Md) (hb : first l m < l.length) : allO (sucO l m) = succM l m := by
  unfold sucO succM
  by_cases h : 0 ≤ first l m
  · rw [dif_pos h, dif_pos h]
    have hk : (first l m).toNat < l.length := by omega
    rw [List.getElem?_eq_getElem hk]
    exact allO_map _ _
  · rw [dif_neg h, dif_neg h]; rfl
theorem first_lt (l : List Rw) (m : Md) : first l m < l.length := by
  rcases firstF_rng l m 0 with h | h <;> unfold first <;> omega
/-- A word's successor, by its sequence. -/
theorem allO_seq (l : List Rw) : ∀ w : List Md, allO (seqO l w) = stepL l w
  | [] => rfl
  | m :: w => by
    have e : seqO l (m :: w) = sucO l m ++ seqO l w := rfl
    rw [e, allO_app, allO_suc l m (first_lt l m), allO_seq l w]
    rfl
theorem seqO_snoc {l : List Rw} {w : List Md} {k : Nat} (hk : k < w.length) : seqO l (w.take (k + 1)) = seqO l (w.take k) ++ sucO l w[k] := by
  unfold seqO
  rw [List.take_succ_eq_append_getElem hk, List.flatMap_append, List.flatMap_cons, List.flatMap_nil, List.append_nil]
theorem seqO_pre (l : List Rw) (w : List Md) (k : Nat) : seqO l (w.take k) <+: seqO l w := by
  refine ⟨seqO l (w.drop k), ?_⟩
  unfold seqO
  rw [← List.flatMap_append, List.take_append_drop]
theorem sucO_self {l : List Rw} {m : Md} (h : first l m < 0) : sucO l m = [some m] := by unfold sucO; rw [dif_neg (by omega)]
theorem sucO_made {l : List Rw} {m : Md} {k : Nat} (h : first l m = (k : Int)) (hk : k < l.length) : sucO l m = l[k].out.map (shO · m.a) := by
  unfold sucO
  rw [dif_pos (by omega)]
  have : (first l m).toNat = k := by omega
  rw [this, List.getElem?_eq_getElem hk]
theorem sucO_len {l : List Rw} (h : ∀ r ∈ l, r.out.length ≤ 20) (m : Md) : (sucO l m).length ≤ 20 := by
  unfold sucO
  split
  · split
    · rename_i r hr
      rw [List.length_map]; exact h r (List.mem_of_getElem? hr)
    · simp
  · simp
theorem seqO_len {l : List Rw} (h : ∀ r ∈ l, r.out.length ≤ 20) (w : List Md) : (seqO l w).length ≤ 20 * w.length := by
  induction w with
  | nil => simp [seqO]
  | cons m w ih =>
    have e : seqO l (m :: w) = sucO l m ++ seqO l w := rfl
    have := sucO_len h m
    rw [e, List.length_append, List.length_cons]; omega
end RM
end Go.Proofs.YtlmofdmbcddddaaDoor
namespace Go.Proofs.YtlmofdmbcddddaaDoor
open Go.RowKit
open WM RM
set_option linter.unusedVariables false
set_option linter.unusedSimpArgs false

set_option maxHeartbeats 800000 in
theorem within_any (n m : Int) (hm : 0 ≤ m ∧ m ≤ 1000000000) (w : World) :
    Calls Tryd.prog 15 #[.int .i64 n, .int .i64 m] w fun e w' => e = .returned (.bool (decide (-m ≤ n) && decide (n ≤ m))) ∧ w = w' := by
  have hw : wrap64 (-m) = -m := by unfold wrap64; omega
  by_cases h1 : -m ≤ n
  · by_cases h2 : n ≤ m
    · go_enter Tryd.func15, Tryd.ntmps15
      go_wp2_with fail
      go_ret
      exact ⟨ret_bool (by simp [h1, h2]), rfl⟩
    · go_enter Tryd.func15, Tryd.ntmps15
      go_wp2_with fail
      go_ret
      exact ⟨ret_bool (by simp [h1, h2]), rfl⟩
  · go_enter Tryd.func15, Tryd.ntmps15
    go_wp2_with fail
    go_ret
    exact ⟨ret_bool (by simp; omega), rfl⟩
theorem within_coef (n : Int) (w : World) : Calls Tryd.prog 15 #[.int .i64 n, .int .i64 1000000] w fun e w' => e = .returned (.bool (coefB n)) ∧ w = w' := within_any n 1000000 (by decide) w
theorem within_arg (n : Int) (w : World) : Calls Tryd.prog 15 #[.int .i64 n, .int .i64 1000000000] w fun e w' => e = .returned (.bool (decide (-1000000000 ≤ n) && decide (n ≤ 1000000000))) ∧ w = w' := within_any n 1000000000 (by decide) w
set_option maxRecDepth 100000 in
set_option maxHeartbeats 1600000 in
theorem formed_any (f : Fm) (v : Value) (n : Int) (hm : f.cs.length ≤ 9223372036854775807) (w : World) (hv : Ints w v f.cs) :
    Calls Tryd.prog 14 #[.agg #[.int .i64 f.k, v], .int .i64 n] w fun e w' => e = .returned (.bool (formB f n)) ∧ Below w.heap.size w w' := by
  obtain ⟨p, cap, rfl⟩ := hv.slice
  obtain ⟨W0, hW0⟩ : ∃ W, W = w.alloc (.cells #[.int .i64 f.k, .slice p f.cs.length cap] 35) := ⟨_, rfl⟩
  have N0 : W0.heap[w.heap.size]? = some (.cells #[.int .i64 f.k, .slice p f.cs.length cap] 35 (0, 0)) := by rw [hW0]; exact heap_alloc_new _ _
  have B0 : Below w.heap.size w W0 := by rw [hW0]; exact (Below.refl _ _).alloc (Nat.le_refl _) _
  have HB := Lib.hid B0
  have HV0 := Lib.hid (hv.later B0)
  have q0 := cell_two0 N0
  have q1 := cell_two1 N0
  have l1 := lt_of_block N0
  have KW := Lib.hid within_coef
  clear N0 B0 hv
  by_cases h3 : (f.cs.length : Int) = n
  · have t3 : ((f.cs.length : Int) != n) = false := by rw [h3]; simp
    have HN := Lib.hid h3
    cases hk : coefB f.k with
    | false =>
      have HF := Lib.hid (form_k (n := n) hk)
      have K1 := Lib.hid (KW.out f.k)
      rw [hk] at K1
      clear h3 hk
      go_enter Tryd.func14, Tryd.ntmps14
      go_wp2_with fail
      rw [← hW0]
      clear hW0
      go_wp2_with fail
      refine (K1.out _).mono ?_
      rintro e w1 ⟨rfl, rfl⟩
      go_wp2_with fail
      go_ret
      exact ⟨ret_bool HF.out.symm, HB.out⟩
    | true =>
      have HK := Lib.hid hk
      have K1 := Lib.hid (KW.out f.k)
      rw [hk] at K1
      clear h3 hk
      go_enter Tryd.func14, Tryd.ntmps14
      go_wp2_with fail
      rw [← hW0]
      clear hW0
      go_wp2_with fail
      refine (K1.out _).mono ?_
      rintro e w1 ⟨rfl, rfl⟩
      go_wp2_with fail
      go_loopw [21] (fun i wr => ∃ k : Nat, k ≤ f.cs.length ∧ i = .int .i64 k ∧ wr = W0 ∧ ∀ j, (h : j < f.cs.length) → j < k → coefB f.cs[j] = true) (fun i _ => f.cs.length - (intOf i).toNat)
      case atStart => exact ⟨0, Nat.zero_le _, rfl, rfl, fun j _ h => by omega⟩
      case round =>
        obtain ⟨k, hk, rfl, rfl, hok⟩ := hrel
        have HO := Lib.hid hok
        clear hok
        by_cases hlt : k < f.cs.length
        · obtain ⟨b, off, cap', hp, e1, lb⟩ := HV0.out.at hlt
          obtain rfl : p = some ⟨b, off, none⟩ := by cases hp; rfl
          have k1 : (k : Int) < (f.cs.length : Int) := by omega
          have K2 := Lib.hid (KW.out f.cs[k])
          obtain ⟨t, ht⟩ : ∃ t, coefB f.cs[k] = t := ⟨_, rfl⟩
          have HT := Lib.hid ht
          rw [ht] at K2
          clear hp ht
          generalize f.cs[k] = x at e1 K2
          cases t with
          | false =>
            have HF := Lib.hid (form_bad (n := n) hlt HT.out)
            go_wp2_with fail
            refine (K2.out _).mono ?_
            rintro e w1 ⟨rfl, rfl⟩
            go_wp2_with fail
            go_ret
            exact ⟨ret_bool HF.out.symm, HB.out⟩
          | true =>
            have HG : Hid (∀ j, (h : j < f.cs.length) → j < k + 1 → coefB f.cs[j] = true) := Lib.hid (fun j h hj => by
              rcases Nat.lt_or_eq_of_le (Nat.le_of_lt_succ hj) with h6 | h6
              · exact HO.out j h h6
              · subst h6; exact HT.out)
            go_wp2_with fail
            refine (K2.out _).mono ?_
            rintro e w1 ⟨rfl, rfl⟩
            go_wp2_with fail
            go_roundw
            case rel => exact ⟨k + 1, by omega, by go_num, (by first | trivial | rfl), HG.out⟩
            case measure => simp [intOf]; omega
        · obtain rfl : k = f.cs.length := by omega
          have HF := Lib.hid (form_ok HK.out HN.out (fun i hi => HO.out i hi hi))
          go_wp2_with fail
          go_ret
          exact ⟨ret_bool HF.out.symm, HB.out⟩
  · have HF := Lib.hid (form_len h3)
    have t3 : ((f.cs.length : Int) != n) = true := by rw [bne_iff_ne]; exact h3
    go_enter Tryd.func14, Tryd.ntmps14
    go_wp2_with fail
    rw [← hW0]
    clear hW0
    go_wp2_with fail
    go_ret
    exact ⟨ret_bool HF.out.symm, HB.out⟩
/-- Of a form that is valid for the args, which are in range. -/
theorem total_any (f : Fm) (x : List Int) (v u : Value) (hf : formB f (x.length : Int) = true) (hl : x.length ≤ 4) (hx : ∀ y ∈ x, -1000000000 ≤ y ∧ y ≤ 1000000000) (w : World) (hv : Ints w v f.cs) (hu : Ints w u x) :
    Calls Tryd.prog 16 #[.agg #[.int .i64 f.k, v], u] w fun e w' => e = .returned (.int .i64 (worth f x)) ∧ Below w.heap.size w w' := by
  obtain ⟨f1, f2, f3⟩ := form_iff hf
  have hlen : f.cs.length = x.length := by omega
  obtain ⟨p, cap, rfl⟩ := hv.slice
  obtain ⟨p2, cap2, rfl⟩ := hu.slice
  obtain ⟨W0, hW0⟩ : ∃ W, W = w.alloc (.cells #[.int .i64 f.k, .slice p f.cs.length cap] 35) := ⟨_, rfl⟩
  have N0 : W0.heap[w.heap.size]? = some (.cells #[.int .i64 f.k, .slice p f.cs.length cap] 35 (0, 0)) := by rw [hW0]; exact heap_alloc_new _ _
  have B0 : Below w.heap.size w W0 := by rw [hW0]; exact (Below.refl _ _).alloc (Nat.le_refl _) _
  have HB := Lib.hid B0
  have HV0 := Lib.hid (hv.later B0)
  have HU0 := Lib.hid (hu.later B0)
  have q0 := cell_two0 N0
  have q1 := cell_two1 N0
  have l1 := lt_of_block N0
  have HR := Lib.hid (wor_rng hlen f1 f3 hx)
  have HS : Hid (∀ k, (h : k < x.length) → wor f.k (f.cs.take (k + 1)) (x.take (k + 1)) = wor f.k (f.cs.take k) (x.take k) + f.cs[k]'(hlen.symm ▸ h) * x[k]) := Lib.hid (fun k h => wor_take hlen h)
  have HM : Hid (∀ k, (h : k < x.length) → -1000000000000000 ≤ f.cs[k]'(hlen.symm ▸ h) * x[k] ∧ f.cs[k]'(hlen.symm ▸ h) * x[k] ≤ 1000000000000000) := Lib.hid (fun k h => mul_rng (coefB_iff.1 (List.all_eq_true.1 f3 _ (List.getElem_mem (show k < f.cs.length by omega)))) (hx _ (List.getElem_mem h)))
  have HE : Hid (wor f.k (f.cs.take x.length) (x.take x.length) = worth f x) := Lib.hid (by rw [← hlen, List.take_length, hlen, List.take_length]; rfl)
  have H0 : Hid (wor f.k (f.cs.take 0) (x.take 0) = f.k) := Lib.hid (by simp [wor])
  rw [hlen] at q1
  rw [hlen] at hW0
  rw [hlen]
  clear N0 B0 hv hu hf hx f1 f2 f3
  go_enter Tryd.func16, Tryd.ntmps16
  go_wp2_with fail
  rw [← hW0]
  clear hW0
  go_wp2_with fail
  go_loopw [5, 13] (fun m i wr => ∃ k : Nat, k ≤ x.length ∧ i = .int .i64 k ∧ m = .int .i64 (wor f.k (f.cs.take k) (x.take k)) ∧ wr = W0) (fun _ i _ => x.length - (intOf i).toNat)
  case atStart => exact ⟨0, Nat.zero_le _, rfl, by rw [H0.out], rfl⟩
  case round =>
    obtain ⟨k, hk, rfl, rfl, rfl⟩ := hrel
    have hr := HR.out k hk
    by_cases hlt : k < x.length
    · obtain ⟨b, off, cap', hp, e1, lb⟩ := HV0.out.at (k := k) (by omega)
      obtain rfl : p = some ⟨b, off, none⟩ := by cases hp; rfl
      obtain ⟨b2, off2, cap3, hp2, e2, lb2⟩ := HU0.out.at hlt
      obtain rfl : p2 = some ⟨b2, off2, none⟩ := by cases hp2; rfl
      have k1 : (k : Int) < (x.length : Int) := by omega
      have HS1 := Lib.hid (HS.out k hlt)
      have hm := HM.out k hlt
      clear hp hp2
      obtain ⟨m, hmm⟩ : ∃ m, wor f.k (f.cs.take k) (x.take k) = m := ⟨_, rfl⟩
      rw [hmm] at HS1 hr ⊢
      obtain ⟨c, hc⟩ : ∃ c, f.cs[k]'(hlen.symm ▸ hlt) = c := ⟨_, rfl⟩
      rw [hc] at HS1 hm e1
      obtain ⟨y, hy⟩ : ∃ y, x[k] = y := ⟨_, rfl⟩
      rw [hy] at HS1 hm e2
      obtain ⟨z, hz⟩ : ∃ z, c * y = z := ⟨_, rfl⟩
      have hz1 : -1000000000000000 ≤ z ∧ z ≤ 1000000000000000 := by rw [← hz]; exact hm
      rw [hz] at HS1
      have hrr : -5000000001000000 ≤ m ∧ m ≤ 5000000001000000 := by
        have : (k : Int) ≤ 4 := by omega
        omega
      clear hmm hc hy hm hr
      go_wp2_with fail
      go_roundw
      case rel => exact ⟨k + 1, by omega, by go_num, by rw [HS1.out], (by first | trivial | rfl)⟩
      case measure => simp [intOf]; omega
    · obtain rfl : k = x.length := by omega
      rw [HE.out]
      go_wp2_with fail
      go_ret
      exact ⟨rfl, HB.out⟩
theorem all_no {fs : List Fm} {n : Int} {k : Nat} (hk : k < fs.length) (h : formB fs[k] n = false) : fs.all (formB · n) = false := by
  rw [List.all_eq_false]; exact ⟨_, List.getElem_mem hk, by rw [h]; simp⟩
theorem all_yes {fs : List Fm} {n : Int} (h : ∀ k, (hk : k < fs.length) → formB fs[k] n = true) : fs.all (formB · n) = true := by
  rw [List.all_eq_true]
  intro x hx
  obtain ⟨j, hj, rfl⟩ := List.mem_iff_getElem.1 hx
  exact h j hj
set_option maxRecDepth 100000 in
set_option maxHeartbeats 1600000 in
theorem allformed_any (fs : List Fm) (v : Value) (n : Int) (hm : fs.length ≤ 9223372036854775807) (hms : ∀ f ∈ fs, f.cs.length ≤ 9223372036854775807) (w : World) (hv : Fms w v fs) :
    Calls Tryd.prog 23 #[v, .int .i64 n] w fun e w' => e = .returned (.bool (fs.all (formB · n))) ∧ Below w.heap.size w w' := by
  obtain ⟨p, cap, rfl⟩ := hv.slice
  have HV := Lib.hid hv
  have HA := Lib.hid hms
  clear hv hms
  go_enter Tryd.func23, Tryd.ntmps23
  go_wp2_with fail
  go_loopw [9] (fun i wr => ∃ k : Nat, k ≤ fs.length ∧ i = .int .i64 k ∧ Below w.heap.size w wr ∧ ∀ j, (h : j < fs.length) → j < k → formB fs[j] n = true) (fun i _ => fs.length - (intOf i).toNat)
  case atStart => exact ⟨0, Nat.zero_le _, rfl, Below.refl _ _, fun j _ h => by omega⟩
  case round =>
    obtain ⟨k, hk, rfl, hb, hok⟩ := hrel
    have HK := Lib.hid hok
    have HB := Lib.hid hb
    clear hok hb
    by_cases hlt : k < fs.length
    · obtain ⟨b, off, cap', q, c, hp, e1, e2, hin, lb⟩ := (HV.out.later (HB.out.mono (Nat.le_refl _))).at hlt
      obtain rfl : p = some ⟨b, off, none⟩ := by cases hp; rfl
      have k1 : (k : Int) < (fs.length : Int) := by omega
      have HI := Lib.hid hin
      have KF := Lib.hid (fun (w : World) (h : Ints w (.slice q fs[k].cs.length c) fs[k].cs) => formed_any fs[k] (.slice q fs[k].cs.length c) n (HA.out _ (List.getElem_mem hlt)) w h)
      obtain ⟨t, ht⟩ : ∃ t, formB fs[k] n = t := ⟨_, rfl⟩
      have HT := Lib.hid ht
      rw [ht] at KF
      generalize fs[k].k = fk at e1 KF
      generalize fs[k].cs.length = fl at e2 KF HI
      obtain ⟨W1, hW1⟩ : ∃ W, W = wr.alloc (.cells #[.int .i64 fk, .slice q fl c] 35) := ⟨_, rfl⟩
      have N1 : W1.heap[wr.heap.size]? = some (.cells #[.int .i64 fk, .slice q fl c] 35 (0, 0)) := by rw [hW1]; exact heap_alloc_new _ _
      have b1 : Below wr.heap.size wr W1 := by rw [hW1]; exact (Below.refl _ _).alloc (Nat.le_refl _) _
      have B1 := Lib.hid b1
      have q0 := cell_two0 N1
      have q1 := cell_two1 N1
      clear hp hin ht N1 b1
      cases t with
      | false =>
        have HF := Lib.hid (all_no hlt HT.out)
        go_wp2_with fail
        rw [← hW1]
        clear hW1
        go_wp2_with fail
        refine (KF.out _ (HI.out.later B1.out)).mono ?_
        rintro e w1 ⟨rfl, hb⟩
        have HB1 := Lib.hid (HB.out.trans ((B1.out.trans (hb.mono B1.out.size)).mono HB.out.size))
        clear hb
        go_wp2_with fail
        go_ret
        exact ⟨ret_bool HF.out.symm, HB1.out⟩
      | true =>
        have HG : Hid (∀ j, (h : j < fs.length) → j < k + 1 → formB fs[j] n = true) := Lib.hid (fun j h hj => by
          rcases Nat.lt_or_eq_of_le (Nat.le_of_lt_succ hj) with h1 | h1
          · exact HK.out j h h1
          · subst h1; exact HT.out)
        go_wp2_with fail
        rw [← hW1]
        clear hW1
        go_wp2_with fail
        refine (KF.out _ (HI.out.later B1.out)).mono ?_
        rintro e w1 ⟨rfl, hb⟩
        have HB1 := Lib.hid (HB.out.trans ((B1.out.trans (hb.mono B1.out.size)).mono HB.out.size))
        clear hb
        go_wp2_with fail
        go_roundw
        case rel => exact ⟨k + 1, by omega, by go_num, HB1.out, HG.out⟩
        case measure => simp [intOf]; omega
    · obtain rfl : k = fs.length := by omega
      have HF := Lib.hid (all_yes (fun i hi => HK.out i hi hi))
      go_wp2_with fail
      go_ret
      exact ⟨ret_bool HF.out.symm, HB.out⟩
end Go.Proofs.YtlmofdmbcddddaaDoor
namespace Go.Proofs.YtlmofdmbcddddaaDoor
open Go.RowKit
open WM RM
set_option linter.unusedVariables false
set_option linter.unusedSimpArgs false

/-- Rules that are no greater than the statements look at. -/
def RwSm (r : Rw) : Prop := r.gs.length ≤ 10 ∧ r.out.length ≤ 30 ∧ (∀ f ∈ r.gs, f.cs.length ≤ 10) ∧ ∀ s ∈ r.out, s.a.length ≤ 10 ∧ ∀ f ∈ s.a, f.cs.length ≤ 10
theorem rchk_many {l : List Rw} (h : manyB l = true) : rchk l = 4 := by unfold rchk; rw [if_pos h]
theorem rchk_bad {l : List Rw} (h : manyB l = false) {k : Nat} (hk : k < l.length) (h2 : ruleB l[k] = false ∨ plainB l[k] = false) : rchk l = 8 := by
  have : (l.all fun r => ruleB r && plainB r) = false := by
    rw [List.all_eq_false]
    refine ⟨_, List.getElem_mem hk, ?_⟩
    rcases h2 with h | h <;> simp [h]
  unfold rchk; rw [if_neg (by rw [h]; decide), if_neg (by rw [this]; decide)]
theorem rchk_ok {l : List Rw} (h : manyB l = false) (h2 : ∀ k, (hk : k < l.length) → ruleB l[k] = true ∧ plainB l[k] = true) : rchk l = 0 := by
  have : (l.all fun r => ruleB r && plainB r) = true := by
    rw [List.all_eq_true]
    intro x hx
    obtain ⟨j, hj, rfl⟩ := List.mem_iff_getElem.1 hx
    obtain ⟨h3, h4⟩ := h2 j hj
    simp [h3, h4]
  unfold rchk; rw [if_neg (by rw [h]; decide), if_pos this]
theorem rchk_zero {l : List Rw} (h : rchk l = 0) : manyB l = false ∧ ∀ r ∈ l, ruleB r = true ∧ plainB r = true := by
  unfold rchk at h
  split at h
  · omega
  · rename_i h1
    split at h
    · rename_i h2
      refine ⟨by simpa using h1, fun r hr => ?_⟩
      have := List.all_eq_true.1 h2 r hr
      simpa using this
    · omega
theorem rule_guards {r : Rw} (h : ruleB r = true) : r.gs.all (formB · r.ar) = true := by
  unfold ruleB at h
  simp only [Bool.and_eq_true] at h
  exact h.1.1.2
theorem plain_l {r : Rw} (h : r.l ≠ 0) : plainB r = false := by simp [plainB, h]
theorem plain_r {r : Rw} (h : r.r ≠ 0) : plainB r = false := by simp [plainB, h]
theorem plain_w {r : Rw} (h : r.wt ≠ 0) : plainB r = false := by simp [plainB, h]
theorem plain_ok {r : Rw} (h1 : r.l = 0) (h2 : r.r = 0) (h3 : r.wt = 0) : plainB r = true := by simp [plainB, h1, h2, h3]
theorem u8_nz {c : UInt8} (h : c ≠ 0) : ((c.toNat : Int) != 0) = true := by
  rw [bne_iff_ne]; intro e
  exact h (UInt8.toNat_inj.1 (by show c.toNat = 0; omega))
/-! ### Find -/
theorem fin_rules {l : List Rw} {m : Md} (h : rchk l ≠ 0) : finC l m = rchk l ∧ finV l m = 0 := by
  have e : finC l m = rchk l := by unfold finC; rw [if_pos h]
  exact ⟨e, by unfold finV; rw [e, if_neg h]⟩
theorem fin_bad {l : List Rw} {m : Md} (h : rchk l = 0) (h2 : fineB m = false) : finC l m = 8 ∧ finV l m = 0 := by
  have e : finC l m = 8 := by unfold finC; rw [if_neg (by simp [h]), if_neg (by rw [h2]; decide)]
  exact ⟨e, by unfold finV; rw [e, if_neg (by decide)]⟩
theorem fin_ok {l : List Rw} {m : Md} (h : rchk l = 0) (h2 : fineB m = true) : finC l m = 0 ∧ finV l m = first l m := by
  have e : finC l m = 0 := by unfold finC; rw [if_neg (by simp [h]), if_pos h2]
  exact ⟨e, by unfold finV; rw [if_pos e]⟩
end Go.Proofs.YtlmofdmbcddddaaDoor
namespace Go.Proofs.YtlmofdmbcddddaaDoor
open Go.RowKit
open WM RM
set_option linter.unusedVariables false
set_option linter.unusedSimpArgs false

theorem rng_in (x : Int) : (decide (-1000000000 ≤ x) && decide (x ≤ 1000000000)) = argB x := rfl
theorem fine70_no {x : List Int} {k : Nat} (hk : k < x.length) (h : argB x[k] = false) : fineB ⟨70, x⟩ = false := by
  have : rngB x = false := by
    unfold rngB
    rw [List.all_eq_false]
    exact ⟨_, List.getElem_mem hk, by rw [rng_in, h]; simp⟩
  simp [fineB, this]
theorem fine70_ok {x : List Int} (h4 : ¬ 4 < x.length) (h : ∀ k, (hk : k < x.length) → argB x[k] = true) : fineB ⟨70, x⟩ = true := by
  have : rngB x = true := by
    unfold rngB
    rw [List.all_eq_true]
    intro y hy
    obtain ⟨j, hj, rfl⟩ := List.mem_iff_getElem.1 hy
    exact h j hj
  unfold fineB
  rw [this, decide_eq_true (by show x.length ≤ 4; omega)]
  simp [letB, braB]
theorem within_argB (n : Int) (w : World) : Calls Tryd.prog 15 #[.int .i64 n, .int .i64 1000000000] w fun e w' => e = .returned (.bool (argB n)) ∧ w = w' := within_arg n w
theorem argB_iff {x : Int} : argB x = true ↔ -1000000000 ≤ x ∧ x ≤ 1000000000 := by simp [argB]
set_option maxRecDepth 100000 in
set_option maxHeartbeats 3200000 in
theorem prvalue_any (f : Fm) (x : List Int) (v u : Value) (hm : f.cs.length ≤ 9223372036854775807) (hx : x.length ≤ 9223372036854775807) (w : World) (h1 : Ints w v f.cs) (h2 : Ints w u x) :
    Calls Tryd.prog 7 #[.agg #[.int .i64 f.k, v], u] w fun e w' => e = .returned (.tuple #[.int .i64 (vaV f x), .int .i64 (vaC f x)]) ∧ Below w.heap.size w w' := by
  obtain ⟨p, cap, rfl⟩ := h1.slice
  obtain ⟨p2, cap2, rfl⟩ := h2.slice
  obtain ⟨W0, hW0⟩ : ∃ W, W = w.alloc (.cells #[.int .i64 f.k, .slice p f.cs.length cap] 35) := ⟨_, rfl⟩
  have N0 : W0.heap[w.heap.size]? = some (.cells #[.int .i64 f.k, .slice p f.cs.length cap] 35 (0, 0)) := by rw [hW0]; exact heap_alloc_new _ _
  have B0 : Below w.heap.size w W0 := by rw [hW0]; exact (Below.refl _ _).alloc (Nat.le_refl _) _
  have HB := Lib.hid B0
  have H1 := Lib.hid (h1.later B0)
  have H2 := Lib.hid (h2.later B0)
  have q0 := cell_two0 N0
  have q1 := cell_two1 N0
  have l1 := lt_of_block N0
  have KF := Lib.hid (fun w h => formed_any f (.slice p f.cs.length cap) (x.length : Int) hm w h)
  have KI := Lib.hid within_argB
  have HFm := Lib.hid hm
  clear N0 B0 h1 h2
  by_cases c4 : 4 < x.length
  · have HV := Lib.hid (va_bad (f := f) (.inl c4))
    have c4' : (4 : Int) < (x.length : Int) := by omega
    go_enter Tryd.func7, Tryd.ntmps7
    go_wp2_with fail
    rw [← hW0]
    clear hW0
    go_wp2_with fail
    go_ret2
    exact ⟨rret_two HV.out.2.symm HV.out.1.symm, HB.out⟩
  have c4' : ¬ (4 : Int) < (x.length : Int) := by omega
  cases hf : formB f (x.length : Int) with
  | false =>
    have HV := Lib.hid (va_bad (f := f) (.inr (.inl hf)))
    rw [hf] at KF
    clear hf
    go_enter Tryd.func7, Tryd.ntmps7
    go_wp2_with fail
    rw [← hW0]
    clear hW0
    go_wp2_with fail
    refine (KF.out _ H1.out).mono ?_
    rintro e w1 ⟨rfl, hb⟩
    have B1 := Lib.hid (HB.out.trans (hb.mono HB.out.size))
    clear hb
    go_wp2_with fail
    go_ret2
    exact ⟨rret_two HV.out.2.symm HV.out.1.symm, B1.out⟩
  | true =>
    have HFo := Lib.hid hf
    rw [hf] at KF
    clear hf
    go_enter Tryd.func7, Tryd.ntmps7
    go_wp2_with fail
    rw [← hW0]
    clear hW0
    go_wp2_with fail
    refine (KF.out _ H1.out).mono ?_
    rintro e w1 ⟨rfl, hb⟩
    have D1 := Lib.hid hb
    have y0 := (hb.cell (p := ⟨w.heap.size, 0, none⟩) l1).trans q0
    have y1 := (hb.cell (p := ⟨w.heap.size, 1, none⟩) l1).trans q1
    have H1' := Lib.hid (H1.out.later hb)
    have H2' := Lib.hid (H2.out.later hb)
    have B1 := Lib.hid (HB.out.trans (hb.mono HB.out.size))
    clear hb
    go_wp2_with fail
    go_loopw [21] (fun i wr => ∃ k : Nat, k ≤ x.length ∧ i = .int .i64 k ∧ wr = w1 ∧ ∀ j, (h : j < x.length) → j < k → argB x[j] = true) (fun i _ => x.length - (intOf i).toNat)
    case atStart => exact ⟨0, Nat.zero_le _, rfl, rfl, fun j _ h => by omega⟩
    case round =>
      obtain ⟨k, hk, rfl, rfl, hok⟩ := hrel
      have HO := Lib.hid hok
      clear hok
      by_cases hlt : k < x.length
      · obtain ⟨b, off, cap', hp, e1, lb⟩ := H2'.out.at hlt
        obtain rfl : p2 = some ⟨b, off, none⟩ := by cases hp; rfl
        have k1 : (k : Int) < (x.length : Int) := by omega
        have K2 := Lib.hid (KI.out x[k])
        obtain ⟨t, ht⟩ : ∃ t, argB x[k] = t := ⟨_, rfl⟩
        have HT := Lib.hid ht
        rw [ht] at K2
        clear hp ht
        generalize x[k] = y at e1 K2
        cases t with
        | false =>
          have HV := Lib.hid (va_bad (f := f) (.inr (.inr (fine70_no hlt HT.out))))
          go_wp2_with fail
          refine (K2.out _).mono ?_
          rintro e w2 ⟨rfl, rfl⟩
          go_wp2_with fail
          go_ret2
          exact ⟨rret_two HV.out.2.symm HV.out.1.symm, B1.out⟩
        | true =>
          have HG : Hid (∀ j, (h : j < x.length) → j < k + 1 → argB x[j] = true) := Lib.hid (fun j h hj => by
            rcases Nat.lt_or_eq_of_le (Nat.le_of_lt_succ hj) with h6 | h6
            · exact HO.out j h h6
            · subst h6; exact HT.out)
          go_wp2_with fail
          refine (K2.out _).mono ?_
          rintro e w2 ⟨rfl, rfl⟩
          go_wp2_with fail
          go_roundw
          case rel => exact ⟨k + 1, by omega, by go_num, (by first | trivial | rfl), HG.out⟩
          case measure => simp [intOf]; omega
      · obtain rfl : k = x.length := by omega
        have hi := fine70_ok c4 (fun i hi => HO.out i hi hi)
        have HV := Lib.hid (va_good c4 HFo.out hi)
        have KW := Lib.hid (fun w h h' => total_any f x (.slice p f.cs.length cap) (.slice p2 x.length cap2) HFo.out (by omega) (fine_args4 hi).2 w h h')
        obtain ⟨z, hz⟩ : ∃ z, worth f x = z := ⟨_, rfl⟩
        have K3 := Lib.hid (KI.out z)
        rw [hz] at KW HV
        clear hz hi
        have HZ : Hid ((-1000000000 ≤ z ∧ z ≤ 1000000000) ↔ argB z = true) := Lib.hid argB_iff.symm
        cases ht : argB z with
        | false =>
          have HV := Lib.hid (HV.out.1 (by rw [HZ.out, ht]; decide))
          rw [ht] at K3
          clear ht HZ
          go_wp2_with fail
          refine (KW.out _ H1'.out H2'.out).mono ?_
          rintro e w2 ⟨rfl, hb⟩
          have B2 := Lib.hid (B1.out.trans (hb.mono B1.out.size))
          clear hb
          go_wp2_with fail
          refine (K3.out _).mono ?_
          rintro e w3 ⟨rfl, rfl⟩
          go_wp2_with fail
          go_ret2
          exact ⟨rret_two HV.out.2.symm HV.out.1.symm, B2.out⟩
        | true =>
          have HV := Lib.hid (HV.out.2 (by rw [HZ.out, ht]))
          rw [ht] at K3
          clear ht HZ
          go_wp2_with fail
          refine (KW.out _ H1'.out H2'.out).mono ?_
          rintro e w2 ⟨rfl, hb⟩
          have B2 := Lib.hid (B1.out.trans (hb.mono B1.out.size))
          clear hb
          go_wp2_with fail
          refine (K3.out _).mono ?_
          rintro e w3 ⟨rfl, rfl⟩
          go_wp2_with fail
          go_ret2
          exact ⟨rret_two HV.out.2.symm HV.out.1.symm, B2.out⟩
end Go.Proofs.YtlmofdmbcddddaaDoor
