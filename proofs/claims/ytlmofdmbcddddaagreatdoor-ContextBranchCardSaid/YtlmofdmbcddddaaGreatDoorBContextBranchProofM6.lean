/-
  Texts of the proof, merged: BRewPrM, BRewMem, BRewRefA, BRewRefB, BRewRefC, BRewRefD, BRewRefE, BRewRefM, BRewRefG.
-/
import Derived.Test.YtlmofdmbcddddaaGreatDoorBContextBranchProofM5
import Derived.Test.YtlmofdmbcddddaaGreatDoorBContextBranchProofM2
import Derived.Test.YtlmofdmbcddddaaGreatDoorBContextBranchProofM4
import Derived.Lib.BufferMore
namespace Go.Proofs.YtlmofdmbcddddaaGreatDoor
open WM
set_option linter.unusedVariables false
set_option linter.unusedSimpArgs false
namespace RM

def zerM (c : UInt8) (n : Nat) : Md := ⟨c, List.replicate n 0⟩
/-- The module that the package lays for a shape. -/
def blM (s : Sh) : Md := zerM s.c (min s.a.length 5)
theorem rng_zer (n : Nat) : rngB (List.replicate n 0) = true := by
  rw [rngB_iff]; intro x hx
  have := List.eq_of_mem_replicate hx
  omega
theorem fine_zer (c : UInt8) (n : Nat) : fineB (zerM c n) = (letB c && decide (n ≤ 4) && !(braB c && decide (0 < n))) := by
  simp [fineB, zerM, rng_zer]
theorem fine_bl (s : Sh) : fineB (blM s) = fineB (shM s) := by
  have e : shM s = zerM s.c s.a.length := rfl
  rw [e, blM, fine_zer, fine_zer]
  have h1 : decide (min s.a.length 5 ≤ 4) = decide (s.a.length ≤ 4) := by rw [decide_eq_decide]; omega
  have h2 : decide (0 < min s.a.length 5) = decide (0 < s.a.length) := by rw [decide_eq_decide]; omega
  rw [h1, h2]
theorem dlt_c {a b : Md} (h : a.c = b.c) : dlt a = dlt b := by unfold dlt; rw [h]
theorem dep_map {α : Type} (f g : α → Md) (h : ∀ x, (f x).c = (g x).c) : ∀ l : List α, dep (l.map f) = dep (l.map g)
  | [] => rfl
  | x :: l => by rw [List.map_cons, List.map_cons, dep_cons, dep_cons, dep_map f g h l, dlt_c (h x)]
theorem ok_map {α : Type} (f g : α → Md) (h : ∀ x, (f x).c = (g x).c) (l : List α) (k : Nat) : okB (l.map f) k = okB (l.map g) k := by
  rw [Bool.eq_iff_iff, okB_iff, okB_iff]
  have e : ∀ i, dep ((l.map f).take (i + 1)) = dep ((l.map g).take (i + 1)) := fun i => by rw [← List.map_take, ← List.map_take, dep_map f g h]
  constructor
  · intro h1 i hi; rw [← e i]; exact h1 i hi
  · intro h1 i hi; rw [e i]; exact h1 i hi
theorem chk_bl {out : List Sh} (hl : out.length ≤ 2000) : decide (chk (out.map blM) = 0) = (out.all (fun s => fineB (shM s)) && decide (chk (out.map shM) = 0)) := by
  have hc : ∀ s : Sh, (blM s).c = (shM s).c := fun _ => rfl
  rw [Bool.eq_iff_iff, decide_eq_true_iff, Bool.and_eq_true, decide_eq_true_iff, chk_zero, chk_zero]
  rw [List.length_map, List.length_map, ok_map blM shM hc, dep_map blM shM hc, List.all_map, List.all_map]
  have e : (fineB ∘ blM) = fun s => fineB (shM s) := by funext s; exact fine_bl s
  have e2 : (fineB ∘ shM) = fun s => fineB (shM s) := rfl
  rw [e, e2]
  constructor
  · rintro ⟨h1, h2, h3, h4⟩; exact ⟨h2, h1, h2, h3, h4⟩
  · rintro ⟨_, h1, h2, h3, h4⟩; exact ⟨h1, h2, h3, h4⟩
/-- valid's answer. -/
def validB (r : Rw) : Bool := letB r.c && !(braB r.c) && decide (0 ≤ r.ar) && decide (r.ar ≤ 4) && plainB r && r.gs.all (formB · r.ar) && decide (chk (r.out.map blM) = 0) && r.out.all (fun s => s.a.all (formB · r.ar))
theorem sh_all (out : List Sh) (n : Int) : out.all (shB · n) = (out.all (fun s => fineB (shM s)) && out.all (fun s => s.a.all (formB · n))) := by
  induction out with
  | nil => rfl
  | cons s l ih =>
    rw [List.all_cons, List.all_cons, List.all_cons, ih]
    unfold shB
    cases fineB (shM s) <;> cases s.a.all (formB · n) <;> simp
theorem validB_eq {r : Rw} (hl : r.out.length ≤ 2000) : validB r = (ruleB r && plainB r) := by
  unfold validB ruleB
  rw [chk_bl hl, sh_all]
  cases letB r.c <;> cases braB r.c <;> cases decide (0 ≤ r.ar) <;> cases decide (r.ar ≤ 4) <;> cases plainB r <;> cases r.gs.all (formB · r.ar) <;> cases r.out.all (fun s => fineB (shM s)) <;> cases r.out.all (fun s => s.a.all (formB · r.ar)) <;> cases decide (chk (r.out.map shM) = 0) <;> rfl
theorem dep_one (m : Md) : dep [m] = dlt m := by rw [dep_cons, dep_nil]; omega
theorem ok_one (m : Md) : okB [m] 1 = decide (0 ≤ dlt m) := by rw [okB_succ, okB_zero, Bool.true_and]; rw [show ([m] : List Md).take (0 + 1) = [m] from rfl, dep_one]
/-- A module alone is a word where it is no bracket. -/
theorem chk_let (c : UInt8) : decide (chk [⟨c, []⟩] = 0) = (letB c && !(braB c)) := by
  rw [Bool.eq_iff_iff, decide_eq_true_iff, chk_zero]
  have hf : ([⟨c, []⟩] : List Md).all fineB = letB c := by simp [fineB, rngB]
  rw [hf, dep_one, show ([⟨c, []⟩] : List Md).length = 1 from rfl, ok_one]
  have hd : (0 ≤ dlt ⟨c, []⟩ ∧ dlt ⟨c, []⟩ = 0) ↔ braB c = false := by
    unfold dlt braB
    by_cases h1 : c = 91
    · subst h1; decide
    · by_cases h2 : c = 93
      · subst h2; decide
      · simp [h1, h2]
  rw [Bool.and_eq_true, Bool.not_eq_true', decide_eq_true_iff]
  constructor
  · rintro ⟨_, h2, h3, h4⟩; exact ⟨h2, hd.1 ⟨h3, h4⟩⟩
  · rintro ⟨h1, h2⟩
    obtain ⟨h3, h4⟩ := hd.2 h2
    exact ⟨by omega, h1, h3, h4⟩
/-- A module alone is told bad exactly if it is no valid module. -/
theorem chk_one (m : Md) : (chk [m] == 8) = !(fineB m) := by
  cases h : fineB m with
  | false =>
    rw [chk_bad (by simp) (by simp [h])]; rfl
  | true =>
    have h1 : ([m] : List Md).all fineB = true := by simp [h]
    cases h2 : (okB [m] ([m] : List Md).length && decide (dep [m] = 0)) with
    | false => rw [chk_open (by simp) h1 h2]; rfl
    | true =>
      have : chk [m] = 0 := by unfold chk; rw [if_neg (by simp), if_neg (by simp [h]), if_pos h2]
      rw [this]; rfl
/-- Check's answer, as the package finds it. -/
theorem rchk_valid {l : List Rw} (h : manyB l = false) : rchk l = if l.all validB = true then 0 else 8 := by
  have e : l.all validB = l.all (fun r => ruleB r && plainB r) := by
    unfold manyB at h
    simp only [Bool.or_eq_false_iff] at h
    have h2 := List.any_eq_false.1 h.2
    apply Bool.eq_iff_iff.2
    rw [List.all_eq_true, List.all_eq_true]
    have key : ∀ r ∈ l, validB r = (ruleB r && plainB r) := fun r hr => validB_eq (by
      have := h2 r hr
      simp only [Bool.or_eq_true, decide_eq_true_eq, not_or, Nat.not_lt] at this
      omega)
    constructor
    · intro h3 r hr; rw [← key r hr]; exact h3 r hr
    · intro h3 r hr; rw [key r hr]; exact h3 r hr
  unfold rchk
  rw [if_neg (by rw [h]; decide), e]
/-- What the modules become, one by one: none where an arg is out of range. -/
def shO (s : Sh) (x : List Int) : Option Md := if mkB s x = true then some (mkM s x) else none
def sucO (l : List Rw) (m : Md) : List (Option Md) := if h : 0 ≤ first l m then (match l[(first l m).toNat]? with | some r => r.out.map (shO · m.a) | none => []) else [some m]
def seqO (l : List Rw) (w : List Md) : List (Option Md) := w.flatMap (sucO l)
def allO : List (Option Md) → Option (List Md)
  | [] => some []
  | none :: _ => none
  | some m :: l => (allO l).map (m :: ·)
theorem allO_app : ∀ a b : List (Option Md), allO (a ++ b) = (match allO a, allO b with | some x, some y => some (x ++ y) | _, _ => none)
  | [], b => by cases h : allO b <;> simp [allO, h]
  | none :: a, b => by simp [allO]
  | some m :: a, b => by
    simp only [List.cons_append, allO]
    rw [allO_app a b]
    cases allO a <;> cases allO b <;> simp
theorem allO_some (d : List Md) : allO (d.map some) = some d := by
  induction d with
  | nil => rfl
  | cons m d ih => simp [allO, ih]
theorem allO_none {a : List (Option Md)} (h : none ∈ a) : allO a = none := by
  induction a with
  | nil => simp at h
  | cons o a ih =>
    cases o with
    | none => rfl
    | some m =>
      simp only [List.mem_cons, reduceCtorEq, false_or] at h
      simp [allO, ih h]
theorem allO_map (out : List Sh) (x : List Int) : allO (out.map (shO · x)) = if out.all (mkB · x) = true then some (out.map (mkM · x)) else none := by
  induction out with
  | nil => rfl
  | cons s out ih =>
    rw [List.map_cons, List.all_cons, List.map_cons]
    cases h : mkB s x with
    | false =>
      rw [show shO s x = none by unfold shO; rw [if_neg (by rw [h]; decide)]]
      simp [allO]
    | true =>
      rw [show shO s x = some (mkM s x) by unfold shO; rw [if_pos h]]
      rw [allO, ih, Bool.true_and]
      split <;> rfl
theorem allO_suc (l : List Rw) (m : Md) (hb : first l m < l.length) : allO (sucO l m) = succM l m := by
  unfold sucO succM
  by_cases h : 0 ≤ first l m
  · rw [dif_pos h, dif_pos h]
    have hk : (first l m).toNat < l.length := by omega
    rw [List.getElem?_eq_getElem hk]
    exact allO_map _ _
  · rw [dif_neg h, dif_neg h]; rfl
theorem first_lt (l : List Rw) (m : Md) : first l m < l.length := by
  rcases firstF_rng l m 0 with h | h <;> unfold first <;> omega
/-- A word's successor, by its sequence. -/
theorem allO_seq (l : List Rw) : ∀ w : List Md, allO (seqO l w) = stepL l w
  | [] => rfl
  | m :: w => by
    have e : seqO l (m :: w) = sucO l m ++ seqO l w := rfl
    rw [e, allO_app, allO_suc l m (first_lt l m), allO_seq l w]
    rfl
theorem seqO_snoc {l : List Rw} {w : List Md} {k : Nat} (hk : k < w.length) : seqO l (w.take (k + 1)) = seqO l (w.take k) ++ sucO l w[k] := by
  unfold seqO
  rw [List.take_succ_eq_append_getElem hk, List.flatMap_append, List.flatMap_cons, List.flatMap_nil, List.append_nil]
theorem seqO_pre (l : List Rw) (w : List Md) (k : Nat) : seqO l (w.take k) <+: seqO l w := by
  refine ⟨seqO l (w.drop k), ?_⟩
  unfold seqO
  rw [← List.flatMap_append, List.take_append_drop]
theorem sucO_self {l : List Rw} {m : Md} (h : first l m < 0) : sucO l m = [some m] := by unfold sucO; rw [dif_neg (by omega)]
theorem sucO_made {l : List Rw} {m : Md} {k : Nat} (h : first l m = (k : Int)) (hk : k < l.length) : sucO l m = l[k].out.map (shO · m.a) := by
  unfold sucO
  rw [dif_pos (by omega)]
  have : (first l m).toNat = k := by omega
  rw [this, List.getElem?_eq_getElem hk]
theorem sucO_len {l : List Rw} (h : ∀ r ∈ l, r.out.length ≤ 20) (m : Md) : (sucO l m).length ≤ 20 := by
  unfold sucO
  split
  · split
    · rename_i r hr
      rw [List.length_map]; exact h r (List.mem_of_getElem? hr)
    · simp
  · simp
theorem seqO_len {l : List Rw} (h : ∀ r ∈ l, r.out.length ≤ 20) (w : List Md) : (seqO l w).length ≤ 20 * w.length := by
  induction w with
  | nil => simp [seqO]
  | cons m w ih =>
    have e : seqO l (m :: w) = sucO l m ++ seqO l w := rfl
    have := sucO_len h m
    rw [e, List.length_append, List.length_cons]; omega
end RM
end Go.Proofs.YtlmofdmbcddddaaGreatDoor
namespace Go.Proofs.YtlmofdmbcddddaaGreatDoor
open Go.RowKit
open WM RM
set_option linter.unusedVariables false
set_option linter.unusedSimpArgs false

inductive Fms (w : World) : Value → List Fm → Prop
  | none (p : Option Addr) (cap : Nat) : Fms w (.slice p 0 cap) []
  | some (b off cap : Nat) (l : List Fm) (hpos : 0 < l.length) (hb : b < w.heap.size)
      (h : ∀ i, (h : i < l.length) → w.cell? ⟨b, off + i * 2, Option.none⟩ = Option.some (.int .i64 l[i].k) ∧
        ∃ v, w.cell? ⟨b, off + i * 2 + 1, Option.none⟩ = Option.some v ∧ Ints w v l[i].cs) :
      Fms w (.slice (Option.some ⟨b, off, Option.none⟩) l.length cap) l
theorem Fms.later {w w1 : World} {v : Value} {l : List Fm} (h : Fms w v l) (hb : Below w.heap.size w w1) : Fms w1 v l := by
  cases h with
  | none p cap => exact .none p cap
  | some b off cap _ hpos hlt hx =>
    refine .some b off cap l hpos (Nat.lt_of_lt_of_le hlt hb.size) fun i hi => ?_
    obtain ⟨h1, v, h2, h3⟩ := hx i hi
    exact ⟨(hb.cell (p := ⟨b, off + i * 2, Option.none⟩) hlt).trans h1, v, (hb.cell (p := ⟨b, off + i * 2 + 1, Option.none⟩) hlt).trans h2, h3.later hb⟩
theorem Fms.slice {w : World} {v : Value} {l : List Fm} (h : Fms w v l) : ∃ p cap, v = .slice p l.length cap := by
  cases h with
  | none p cap => exact ⟨p, cap, rfl⟩
  | some b off cap _ _ _ _ => exact ⟨_, cap, rfl⟩
theorem Fms.at {w : World} {v : Value} {l : List Fm} (h : Fms w v l) {k : Nat} (hk : k < l.length) :
    ∃ b off cap p c, v = .slice (Option.some ⟨b, off, Option.none⟩) l.length cap ∧ w.cell? ⟨b, off + k * 2, Option.none⟩ = Option.some (.int .i64 l[k].k) ∧
      w.cell? ⟨b, off + k * 2 + 1, Option.none⟩ = Option.some (.slice p l[k].cs.length c) ∧ Ints w (.slice p l[k].cs.length c) l[k].cs ∧ b < w.heap.size := by
  cases h with
  | none p cap => simp at hk
  | some b off cap _ _ hb hx =>
    obtain ⟨h1, v, h2, h3⟩ := hx k hk
    obtain ⟨p, c, rfl⟩ := h3.slice
    exact ⟨b, off, cap, p, c, rfl, h1, h2, h3, hb⟩
inductive Shs (w : World) : Value → List Sh → Prop
  | none (p : Option Addr) (cap : Nat) : Shs w (.slice p 0 cap) []
  | some (b off cap : Nat) (l : List Sh) (hpos : 0 < l.length) (hb : b < w.heap.size)
      (h : ∀ i, (h : i < l.length) → w.cell? ⟨b, off + i * 2, Option.none⟩ = Option.some (.int .u8 l[i].c.toNat) ∧
        ∃ v, w.cell? ⟨b, off + i * 2 + 1, Option.none⟩ = Option.some v ∧ Fms w v l[i].a) :
      Shs w (.slice (Option.some ⟨b, off, Option.none⟩) l.length cap) l
theorem Shs.later {w w1 : World} {v : Value} {l : List Sh} (h : Shs w v l) (hb : Below w.heap.size w w1) : Shs w1 v l := by
  cases h with
  | none p cap => exact .none p cap
  | some b off cap _ hpos hlt hx =>
    refine .some b off cap l hpos (Nat.lt_of_lt_of_le hlt hb.size) fun i hi => ?_
    obtain ⟨h1, v, h2, h3⟩ := hx i hi
    exact ⟨(hb.cell (p := ⟨b, off + i * 2, Option.none⟩) hlt).trans h1, v, (hb.cell (p := ⟨b, off + i * 2 + 1, Option.none⟩) hlt).trans h2, h3.later hb⟩
theorem Shs.slice {w : World} {v : Value} {l : List Sh} (h : Shs w v l) : ∃ p cap, v = .slice p l.length cap := by
  cases h with
  | none p cap => exact ⟨p, cap, rfl⟩
  | some b off cap _ _ _ _ => exact ⟨_, cap, rfl⟩
theorem Shs.at {w : World} {v : Value} {l : List Sh} (h : Shs w v l) {k : Nat} (hk : k < l.length) :
    ∃ b off cap p c, v = .slice (Option.some ⟨b, off, Option.none⟩) l.length cap ∧ w.cell? ⟨b, off + k * 2, Option.none⟩ = Option.some (.int .u8 l[k].c.toNat) ∧
      w.cell? ⟨b, off + k * 2 + 1, Option.none⟩ = Option.some (.slice p l[k].a.length c) ∧ Fms w (.slice p l[k].a.length c) l[k].a ∧ b < w.heap.size := by
  cases h with
  | none p cap => simp at hk
  | some b off cap _ _ hb hx =>
    obtain ⟨h1, v, h2, h3⟩ := hx k hk
    obtain ⟨p, c, rfl⟩ := h3.slice
    exact ⟨b, off, cap, p, c, rfl, h1, h2, h3, hb⟩
inductive Rws (w : World) : Value → List Rw → Prop
  | none (p : Option Addr) (cap : Nat) : Rws w (.slice p 0 cap) []
  | some (b off cap : Nat) (l : List Rw) (hpos : 0 < l.length) (hb : b < w.heap.size)
      (h : ∀ i, (h : i < l.length) → w.cell? ⟨b, off + i * 7, Option.none⟩ = Option.some (.int .u8 l[i].c.toNat) ∧ w.cell? ⟨b, off + i * 7 + 1, Option.none⟩ = Option.some (.int .i64 l[i].ar) ∧
        w.cell? ⟨b, off + i * 7 + 2, Option.none⟩ = Option.some (.int .u8 l[i].l.toNat) ∧ w.cell? ⟨b, off + i * 7 + 3, Option.none⟩ = Option.some (.int .u8 l[i].r.toNat) ∧
        w.cell? ⟨b, off + i * 7 + 5, Option.none⟩ = Option.some (.int .i64 l[i].wt) ∧
        (∃ v, w.cell? ⟨b, off + i * 7 + 4, Option.none⟩ = Option.some v ∧ Fms w v l[i].gs) ∧ (∃ v, w.cell? ⟨b, off + i * 7 + 6, Option.none⟩ = Option.some v ∧ Shs w v l[i].out)) :
      Rws w (.slice (Option.some ⟨b, off, Option.none⟩) l.length cap) l
theorem Rws.later {w w1 : World} {v : Value} {l : List Rw} (h : Rws w v l) (hb : Below w.heap.size w w1) : Rws w1 v l := by
  cases h with
  | none p cap => exact .none p cap
  | some b off cap _ hpos hlt hx =>
    refine .some b off cap l hpos (Nat.lt_of_lt_of_le hlt hb.size) fun i hi => ?_
    obtain ⟨h1, h2, h3, h4, h5, ⟨v, h6, h7⟩, ⟨u, h8, h9⟩⟩ := hx i hi
    have c : ∀ o, w1.cell? ⟨b, o, Option.none⟩ = w.cell? ⟨b, o, Option.none⟩ := fun o => hb.cell (p := ⟨b, o, Option.none⟩) hlt
    exact ⟨(c _).trans h1, (c _).trans h2, (c _).trans h3, (c _).trans h4, (c _).trans h5, ⟨v, (c _).trans h6, h7.later hb⟩, ⟨u, (c _).trans h8, h9.later hb⟩⟩
theorem Rws.slice {w : World} {v : Value} {l : List Rw} (h : Rws w v l) : ∃ p cap, v = .slice p l.length cap := by
  cases h with
  | none p cap => exact ⟨p, cap, rfl⟩
  | some b off cap _ _ _ _ => exact ⟨_, cap, rfl⟩
/-- A rule's cells, at a place. -/
structure RwAt (w : World) (b o : Nat) (r : Rw) (gv ov : Value) : Prop where
  c0 : w.cell? ⟨b, o, Option.none⟩ = Option.some (.int .u8 r.c.toNat)
  c1 : w.cell? ⟨b, o + 1, Option.none⟩ = Option.some (.int .i64 r.ar)
  c2 : w.cell? ⟨b, o + 2, Option.none⟩ = Option.some (.int .u8 r.l.toNat)
  c3 : w.cell? ⟨b, o + 3, Option.none⟩ = Option.some (.int .u8 r.r.toNat)
  c4 : w.cell? ⟨b, o + 4, Option.none⟩ = Option.some gv
  c5 : w.cell? ⟨b, o + 5, Option.none⟩ = Option.some (.int .i64 r.wt)
  c6 : w.cell? ⟨b, o + 6, Option.none⟩ = Option.some ov
  gs : Fms w gv r.gs
  out : Shs w ov r.out
theorem Rws.at {w : World} {v : Value} {l : List Rw} (h : Rws w v l) {k : Nat} (hk : k < l.length) :
    ∃ b off cap p c q d, v = .slice (Option.some ⟨b, off, Option.none⟩) l.length cap ∧ b < w.heap.size ∧ RwAt w b (off + k * 7) l[k] (.slice p l[k].gs.length c) (.slice q l[k].out.length d) := by
  cases h with
  | none p cap => simp at hk
  | some b off cap _ _ hb hx =>
    obtain ⟨h1, h2, h3, h4, h5, ⟨v, h6, h7⟩, ⟨u, h8, h9⟩⟩ := hx k hk
    obtain ⟨p, c, rfl⟩ := h7.slice
    obtain ⟨q, d, rfl⟩ := h9.slice
    exact ⟨b, off, cap, p, c, q, d, rfl, hb, h1, h2, h3, h4, h6, h5, h8, h7, h9⟩
end Go.Proofs.YtlmofdmbcddddaaGreatDoor
namespace Go.Proofs.YtlmofdmbcddddaaGreatDoor
open Go.RowKit
open WM RM
set_option linter.unusedVariables false
set_option linter.unusedSimpArgs false

theorem form_k {f : Fm} {n : Int} (h : coefB f.k = false) : formB f n = false := by simp [formB, h]
theorem form_len {f : Fm} {n : Int} (h : (f.cs.length : Int) ≠ n) : formB f n = false := by simp [formB, h]
theorem form_bad {f : Fm} {n : Int} {i : Nat} (hi : i < f.cs.length) (h : coefB f.cs[i] = false) : formB f n = false := by
  have : f.cs.all coefB = false := by
    rw [List.all_eq_false]
    exact ⟨_, List.getElem_mem hi, by rw [h]; simp⟩
  simp [formB, this]
theorem form_ok {f : Fm} {n : Int} (h1 : coefB f.k = true) (h2 : (f.cs.length : Int) = n) (h : ∀ i, (hi : i < f.cs.length) → coefB f.cs[i] = true) : formB f n = true := by
  have : f.cs.all coefB = true := by
    rw [List.all_eq_true]
    intro x hx
    obtain ⟨j, hj, rfl⟩ := List.mem_iff_getElem.1 hx
    exact h j hj
  simp [formB, h1, h2, this]
theorem form_iff {f : Fm} {n : Int} (h : formB f n = true) : coefB f.k = true ∧ (f.cs.length : Int) = n ∧ f.cs.all coefB = true := by
  unfold formB at h
  simp only [Bool.and_eq_true, decide_eq_true_eq] at h
  exact ⟨h.1.1, h.1.2, h.2⟩
theorem coef_lo {x : Int} (h : x < -1000000) : coefB x = false := by simp [coefB]; omega
theorem coef_hi {x : Int} (h : 1000000 < x) : coefB x = false := by simp [coefB]; omega
set_option maxRecDepth 100000 in
set_option maxHeartbeats 1600000 in
theorem refform_any (f : Fm) (v : Value) (n : Int) (hm : f.cs.length ≤ 9223372036854775807) (w : World) (hv : Ints w v f.cs) :
    Calls Tryz.prog 34 #[.agg #[.int .i64 f.k, v], .int .i64 n] w fun e w' => e = .returned (.bool (formB f n)) ∧ Below w.heap.size w w' := by
  obtain ⟨p, cap, rfl⟩ := hv.slice
  obtain ⟨W0, hW0⟩ : ∃ W, W = w.alloc (.cells #[.int .i64 f.k, .slice p f.cs.length cap] 47) := ⟨_, rfl⟩
  have N0 : W0.heap[w.heap.size]? = some (.cells #[.int .i64 f.k, .slice p f.cs.length cap] 47 (0, 0)) := by rw [hW0]; exact heap_alloc_new _ _
  have B0 : Below w.heap.size w W0 := by rw [hW0]; exact (Below.refl _ _).alloc (Nat.le_refl _) _
  have HB := Lib.hid B0
  have HV0 := Lib.hid (hv.later B0)
  have q0 := cell_two0 N0
  have q1 := cell_two1 N0
  have l1 := lt_of_block N0
  clear N0 B0 hv
  by_cases h1 : f.k < -1000000
  · have HF := Lib.hid (form_k (n := n) (coef_lo h1))
    go_enter Tryz.func34, Tryz.ntmps34
    go_wp2_with fail
    rw [← hW0]
    clear hW0
    go_wp2_with fail
    go_ret
    exact ⟨ret_bool HF.out.symm, HB.out⟩
  by_cases h2 : 1000000 < f.k
  · have HF := Lib.hid (form_k (n := n) (coef_hi h2))
    go_enter Tryz.func34, Tryz.ntmps34
    go_wp2_with fail
    rw [← hW0]
    clear hW0
    go_wp2_with fail
    go_ret
    exact ⟨ret_bool HF.out.symm, HB.out⟩
  by_cases h3 : (f.cs.length : Int) = n
  · have HK : Hid (coefB f.k = true) := Lib.hid (coefB_iff.2 ⟨by omega, by omega⟩)
    subst h3
    go_enter Tryz.func34, Tryz.ntmps34
    go_wp2_with fail
    rw [← hW0]
    clear hW0
    go_wp2_with fail
    go_loop [5] (fun i => ∃ k : Nat, k ≤ f.cs.length ∧ i = .int .i64 k ∧ ∀ j, (h : j < f.cs.length) → j < k → coefB f.cs[j] = true) (fun i => f.cs.length - (intOf i).toNat)
    case atStart => exact ⟨0, Nat.zero_le _, rfl, fun j _ h => by omega⟩
    case round =>
      obtain ⟨k, hk, rfl, hok⟩ := hrel
      have HO := Lib.hid hok
      clear hok
      by_cases hlt : k < f.cs.length
      · obtain ⟨b, off, cap', hp, e1, lb⟩ := HV0.out.at hlt
        obtain rfl : p = some ⟨b, off, none⟩ := by cases hp; rfl
        have k1 : (k : Int) < (f.cs.length : Int) := by omega
        clear hp
        by_cases h4 : f.cs[k] < -1000000
        · have HF := Lib.hid (form_bad (n := (f.cs.length : Int)) hlt (coef_lo h4))
          obtain ⟨x, hx⟩ : ∃ x, f.cs[k] = x := ⟨_, rfl⟩
          rw [hx] at h4 e1
          clear hx
          go_wp2_with fail
          go_ret
          exact ⟨ret_bool HF.out.symm, HB.out⟩
        · by_cases h5 : 1000000 < f.cs[k]
          · have HF := Lib.hid (form_bad (n := (f.cs.length : Int)) hlt (coef_hi h5))
            obtain ⟨x, hx⟩ : ∃ x, f.cs[k] = x := ⟨_, rfl⟩
            rw [hx] at h4 h5 e1
            clear hx
            go_wp2_with fail
            go_ret
            exact ⟨ret_bool HF.out.symm, HB.out⟩
          · have HG : Hid (∀ j, (h : j < f.cs.length) → j < k + 1 → coefB f.cs[j] = true) := Lib.hid (fun j h hj => by
              rcases Nat.lt_or_eq_of_le (Nat.le_of_lt_succ hj) with h6 | h6
              · exact HO.out j h h6
              · subst h6; exact coefB_iff.2 ⟨by omega, by omega⟩)
            obtain ⟨x, hx⟩ : ∃ x, f.cs[k] = x := ⟨_, rfl⟩
            rw [hx] at h4 h5 e1
            clear hx
            go_wp2_with fail
            go_round
            case rel => exact ⟨k + 1, by omega, by go_num, HG.out⟩
            case measure => simp [intOf]; omega
      · obtain rfl : k = f.cs.length := by omega
        have HF := Lib.hid (form_ok HK.out rfl (fun i hi => HO.out i hi hi))
        go_wp2_with fail
        go_ret
        exact ⟨ret_bool HF.out.symm, HB.out⟩
  · have HF := Lib.hid (form_len h3)
    go_enter Tryz.func34, Tryz.ntmps34
    go_wp2_with fail
    rw [← hW0]
    clear hW0
    go_wp2_with fail
    go_ret
    exact ⟨ret_bool HF.out.symm, HB.out⟩
end Go.Proofs.YtlmofdmbcddddaaGreatDoor
namespace Go.Proofs.YtlmofdmbcddddaaGreatDoor
open Go.RowKit
open WM RM
set_option linter.unusedVariables false
set_option linter.unusedSimpArgs false

theorem fit_name {r : Rw} {m : Md} (h : r.c ≠ m.c) : fitB r m = false := by simp [fitB, h]
theorem fit_len {r : Rw} {m : Md} (h : r.ar ≠ (m.a.length : Int)) : fitB r m = false := by simp [fitB, h]
theorem fit_neg {r : Rw} {m : Md} {i : Nat} (hi : i < r.gs.length) (h : worth r.gs[i] m.a < 0) : fitB r m = false := by
  have : (r.gs.all fun g => decide (0 ≤ worth g m.a)) = false := by
    rw [List.all_eq_false]
    exact ⟨_, List.getElem_mem hi, by simp; omega⟩
  simp [fitB, this]
theorem fit_ok {r : Rw} {m : Md} (h1 : r.c = m.c) (h2 : r.ar = (m.a.length : Int)) (h : ∀ i, (hi : i < r.gs.length) → 0 ≤ worth r.gs[i] m.a) : fitB r m = true := by
  have : (r.gs.all fun g => decide (0 ≤ worth g m.a)) = true := by
    rw [List.all_eq_true]
    intro x hx
    obtain ⟨j, hj, rfl⟩ := List.mem_iff_getElem.1 hx
    simpa using h j hj
  simp [fitB, h1, h2, this]
theorem fine_args4 {m : Md} (h : fineB m = true) : m.a.length ≤ 4 ∧ ∀ x ∈ m.a, -1000000000 ≤ x ∧ x ≤ 1000000000 := by
  unfold fineB at h
  simp only [Bool.and_eq_true, decide_eq_true_eq] at h
  exact ⟨h.1.1.2, rngB_iff.1 h.2⟩
/-- A rule as a value. -/
def rwV (r : Rw) (gv ov : Value) : Value := .agg #[.int .u8 r.c.toNat, .int .i64 r.ar, .int .u8 r.l.toNat, .int .u8 r.r.toNat, gv, .int .i64 r.wt, ov]
end Go.Proofs.YtlmofdmbcddddaaGreatDoor
namespace Go.Proofs.YtlmofdmbcddddaaGreatDoor
open Go.RowKit
open WM RM
set_option linter.unusedVariables false
set_option linter.unusedSimpArgs false

theorem va_bad {f : Fm} {x : List Int} (h : 4 < x.length ∨ formB f (x.length : Int) = false ∨ fineB ⟨70, x⟩ = false) : vaC f x = 8 ∧ vaV f x = 0 := by
  have e : vaC f x = 8 := by unfold vaC; rw [if_pos h]
  exact ⟨e, by unfold vaV; rw [e]; rfl⟩
theorem va_good {f : Fm} {x : List Int} (h1 : ¬ 4 < x.length) (h2 : formB f (x.length : Int) = true) (h3 : fineB ⟨70, x⟩ = true) :
    (¬ (-1000000000 ≤ worth f x ∧ worth f x ≤ 1000000000) → vaC f x = 16 ∧ vaV f x = 0) ∧ ((-1000000000 ≤ worth f x ∧ worth f x ≤ 1000000000) → vaC f x = 0 ∧ vaV f x = worth f x) := by
  have e : vaC f x = if -1000000000 ≤ worth f x ∧ worth f x ≤ 1000000000 then 0 else 16 := by
    unfold vaC; rw [if_neg (by rw [h2, h3]; simp [h1])]
  constructor
  · intro h
    rw [if_neg h] at e
    exact ⟨e, by unfold vaV; rw [e]; rfl⟩
  · intro h
    rw [if_pos h] at e
    exact ⟨e, by unfold vaV; rw [e]; rfl⟩
theorem rret_two {a b c d : Int} (h1 : a = c) (h2 : b = d) : Ending.returned (.tuple #[.int .i64 a, .int .i64 b]) = .returned (.tuple #[.int .i64 c, .int .i64 d]) := by rw [h1, h2]
/-! ### Many -/
theorem many_len {l : List Rw} (h : 40 < l.length) : manyB l = true := by simp [manyB, h]
theorem many_at {l : List Rw} {k : Nat} (hk : k < l.length) (h : 4 < l[k].gs.length ∨ 20 < l[k].out.length) : manyB l = true := by
  have : (l.any fun r => decide (4 < r.gs.length) || decide (20 < r.out.length)) = true := by
    rw [List.any_eq_true]
    exact ⟨_, List.getElem_mem hk, by simpa using h⟩
  unfold manyB
  rw [this]; simp
theorem many_not {l : List Rw} (h1 : ¬ 40 < l.length) (h : ∀ k, (hk : k < l.length) → ¬ 4 < l[k].gs.length ∧ ¬ 20 < l[k].out.length) : manyB l = false := by
  have : (l.any fun r => decide (4 < r.gs.length) || decide (20 < r.out.length)) = false := by
    rw [List.any_eq_false]
    intro x hx
    obtain ⟨j, hj, rfl⟩ := List.mem_iff_getElem.1 hx
    have := h j hj
    simp; omega
  unfold manyB
  rw [this]; simpa using h1
theorem many_no {l : List Rw} (h : manyB l = false) : l.length ≤ 40 ∧ ∀ r ∈ l, r.gs.length ≤ 4 ∧ r.out.length ≤ 20 := by
  unfold manyB at h
  rw [Bool.or_eq_false_iff] at h
  refine ⟨by simpa using h.1, fun r hr => ?_⟩
  have := List.any_eq_false.1 h.2 r hr
  simpa using this
set_option maxRecDepth 100000 in
set_option maxHeartbeats 1600000 in
theorem refmany_any (v : Value) (l : List Rw) (hmax : l.length ≤ 9223372036854775807) (w : World) (hv : Rws w v l) :
    Calls Tryz.prog 18 #[v] w fun e w' => e = .returned (.bool (manyB l)) ∧ w = w' := by
  obtain ⟨p, cap, rfl⟩ := hv.slice
  have HV := Lib.hid hv
  clear hv
  by_cases h40 : 40 < l.length
  · have HF := Lib.hid (many_len h40)
    have c1 : (40 : Int) < (l.length : Int) := by omega
    go_enter Tryz.func18, Tryz.ntmps18
    go_wp2_with fail
    go_ret
    exact ⟨ret_bool HF.out.symm, rfl⟩
  · have c1 : ¬ (40 : Int) < (l.length : Int) := by omega
    go_enter Tryz.func18, Tryz.ntmps18
    go_wp2_with fail
    go_loop [3] (fun i => ∃ k : Nat, k ≤ l.length ∧ i = .int .i64 k ∧ ∀ j, (hj : j < l.length) → j < k → ¬ 4 < l[j].gs.length ∧ ¬ 20 < l[j].out.length) (fun i => l.length - (intOf i).toNat)
    case atStart => exact ⟨0, Nat.zero_le _, rfl, fun j _ h => by omega⟩
    case round =>
      obtain ⟨k, hk, rfl, hok⟩ := hrel
      have HK := Lib.hid hok
      clear hok
      by_cases hlt : k < l.length
      · obtain ⟨b, off, cap', g, gc, o, oc, hp, lb, hat⟩ := HV.out.at hlt
        obtain rfl : p = some ⟨b, off, none⟩ := by cases hp; rfl
        have e4 := hat.c4
        have e6 := hat.c6
        have k1 : (k : Int) < (l.length : Int) := by omega
        clear hp hat
        by_cases h4 : 4 < l[k].gs.length
        · have HF := Lib.hid (many_at hlt (.inl h4))
          have c4 : (4 : Int) < (l[k].gs.length : Int) := by omega
          obtain ⟨n, hn⟩ : ∃ n, l[k].gs.length = n := ⟨_, rfl⟩
          rw [hn] at e4 c4
          clear hn h4
          go_wp2_with fail
          go_ret
          exact ⟨ret_bool HF.out.symm, rfl⟩
        · have c4 : ¬ (4 : Int) < (l[k].gs.length : Int) := by omega
          by_cases h20 : 20 < l[k].out.length
          · have HF := Lib.hid (many_at hlt (.inr h20))
            have c5 : (20 : Int) < (l[k].out.length : Int) := by omega
            obtain ⟨n, hn⟩ : ∃ n, l[k].gs.length = n := ⟨_, rfl⟩
            rw [hn] at e4 c4
            obtain ⟨m, hm⟩ : ∃ m, l[k].out.length = m := ⟨_, rfl⟩
            rw [hm] at e6 c5
            clear hn hm h4 h20
            go_wp2_with fail
            go_ret
            exact ⟨ret_bool HF.out.symm, rfl⟩
          · have c5 : ¬ (20 : Int) < (l[k].out.length : Int) := by omega
            have HG : Hid (∀ j, (hj : j < l.length) → j < k + 1 → ¬ 4 < l[j].gs.length ∧ ¬ 20 < l[j].out.length) := Lib.hid (fun j hj h => by
              rcases Nat.lt_or_eq_of_le (Nat.le_of_lt_succ h) with h1 | h1
              · exact HK.out j hj h1
              · subst h1; exact ⟨h4, h20⟩)
            obtain ⟨n, hn⟩ : ∃ n, l[k].gs.length = n := ⟨_, rfl⟩
            rw [hn] at e4 c4
            obtain ⟨m, hm⟩ : ∃ m, l[k].out.length = m := ⟨_, rfl⟩
            rw [hm] at e6 c5
            clear hn hm h4 h20
            go_wp2_with fail
            go_round
            case rel => exact ⟨k + 1, by omega, by go_num, HG.out⟩
            case measure => simp [intOf]; omega
      · obtain rfl : k = l.length := by omega
        have HF := Lib.hid (many_not h40 (fun i hi => HK.out i hi hi))
        go_wp2_with fail
        go_ret
        exact ⟨ret_bool HF.out.symm, rfl⟩
end Go.Proofs.YtlmofdmbcddddaaGreatDoor
namespace Go.Proofs.YtlmofdmbcddddaaGreatDoor
open Go.RowKit
open WM RM
set_option linter.unusedVariables false
set_option linter.unusedSimpArgs false

/-- How the search stands. -/
def FAt (l : List Rw) (m : Md) (k : Nat) : Prop := first l m = firstF (l.drop k) m (k : Int)
theorem fAt_start (l : List Rw) (m : Md) : FAt l m 0 := rfl
theorem fAt_yes {l : List Rw} {m : Md} {k : Nat} (hk : k < l.length) (h : FAt l m k) (hf : fitB l[k] m = true) : first l m = (k : Int) := by
  unfold FAt at h; rw [h, firstF_drop hk, if_pos hf]
theorem fAt_no {l : List Rw} {m : Md} {k : Nat} (hk : k < l.length) (h : FAt l m k) (hf : fitB l[k] m = false) : FAt l m (k + 1) := by
  unfold FAt at h ⊢; rw [h, firstF_drop hk, if_neg (by rw [hf]; decide)]
theorem fAt_end {l : List Rw} {m : Md} (h : FAt l m l.length) : first l m = -1 := by
  unfold FAt at h; rw [h, firstF_end (Nat.le_refl _)]
end Go.Proofs.YtlmofdmbcddddaaGreatDoor
namespace Go.Proofs.YtlmofdmbcddddaaGreatDoor
open Go.RowKit
open WM RM
set_option linter.unusedVariables false
set_option linter.unusedSimpArgs false

/-- Rules that are no greater than the statements look at. -/
def RwSm (r : Rw) : Prop := r.gs.length ≤ 10 ∧ r.out.length ≤ 30 ∧ (∀ f ∈ r.gs, f.cs.length ≤ 10) ∧ ∀ s ∈ r.out, s.a.length ≤ 10 ∧ ∀ f ∈ s.a, f.cs.length ≤ 10
/-- What rules' Fine is to hand back. -/
def FineR : Prop := ∀ (r : Rw) (gv ov : Value) (w : World), RwSm r → Fms w gv r.gs → Shs w ov r.out →
  Calls Tryz.prog 19 #[rwV r gv ov] w fun e w' => e = .returned (.bool (ruleB r)) ∧ Below w.heap.size w w'
theorem rchk_many {l : List Rw} (h : manyB l = true) : rchk l = 4 := by unfold rchk; rw [if_pos h]
theorem rchk_bad {l : List Rw} (h : manyB l = false) {k : Nat} (hk : k < l.length) (h2 : ruleB l[k] = false ∨ plainB l[k] = false) : rchk l = 8 := by
  have : (l.all fun r => ruleB r && plainB r) = false := by
    rw [List.all_eq_false]
    refine ⟨_, List.getElem_mem hk, ?_⟩
    rcases h2 with h | h <;> simp [h]
  unfold rchk; rw [if_neg (by rw [h]; decide), if_neg (by rw [this]; decide)]
theorem rchk_ok {l : List Rw} (h : manyB l = false) (h2 : ∀ k, (hk : k < l.length) → ruleB l[k] = true ∧ plainB l[k] = true) : rchk l = 0 := by
  have : (l.all fun r => ruleB r && plainB r) = true := by
    rw [List.all_eq_true]
    intro x hx
    obtain ⟨j, hj, rfl⟩ := List.mem_iff_getElem.1 hx
    obtain ⟨h3, h4⟩ := h2 j hj
    simp [h3, h4]
  unfold rchk; rw [if_neg (by rw [h]; decide), if_pos this]
theorem rchk_zero {l : List Rw} (h : rchk l = 0) : manyB l = false ∧ ∀ r ∈ l, ruleB r = true ∧ plainB r = true := by
  unfold rchk at h
  split at h
  · omega
  · rename_i h1
    split at h
    · rename_i h2
      refine ⟨by simpa using h1, fun r hr => ?_⟩
      have := List.all_eq_true.1 h2 r hr
      simpa using this
    · omega
theorem rule_guards {r : Rw} (h : ruleB r = true) : r.gs.all (formB · r.ar) = true := by
  unfold ruleB at h
  simp only [Bool.and_eq_true] at h
  exact h.1.1.2
theorem plain_l {r : Rw} (h : r.l ≠ 0) : plainB r = false := by simp [plainB, h]
theorem plain_r {r : Rw} (h : r.r ≠ 0) : plainB r = false := by simp [plainB, h]
theorem plain_w {r : Rw} (h : r.wt ≠ 0) : plainB r = false := by simp [plainB, h]
theorem plain_ok {r : Rw} (h1 : r.l = 0) (h2 : r.r = 0) (h3 : r.wt = 0) : plainB r = true := by simp [plainB, h1, h2, h3]
theorem u8_nz {c : UInt8} (h : c ≠ 0) : ((c.toNat : Int) != 0) = true := by
  rw [bne_iff_ne]; intro e
  exact h (UInt8.toNat_inj.1 (by show c.toNat = 0; omega))
/-! ### Find -/
theorem fin_rules {l : List Rw} {m : Md} (h : rchk l ≠ 0) : finC l m = rchk l ∧ finV l m = 0 := by
  have e : finC l m = rchk l := by unfold finC; rw [if_pos h]
  exact ⟨e, by unfold finV; rw [e, if_neg h]⟩
theorem fin_bad {l : List Rw} {m : Md} (h : rchk l = 0) (h2 : fineB m = false) : finC l m = 8 ∧ finV l m = 0 := by
  have e : finC l m = 8 := by unfold finC; rw [if_neg (by simp [h]), if_neg (by rw [h2]; decide)]
  exact ⟨e, by unfold finV; rw [e, if_neg (by decide)]⟩
theorem fin_ok {l : List Rw} {m : Md} (h : rchk l = 0) (h2 : fineB m = true) : finC l m = 0 ∧ finV l m = first l m := by
  have e : finC l m = 0 := by unfold finC; rw [if_neg (by simp [h]), if_pos h2]
  exact ⟨e, by unfold finV; rw [if_pos e]⟩
end Go.Proofs.YtlmofdmbcddddaaGreatDoor
namespace Go.Proofs.YtlmofdmbcddddaaGreatDoor
open Go.RowKit
open WM RM
set_option linter.unusedVariables false
set_option linter.unusedSimpArgs false

theorem fr_slice {w : World} {base n size : Nat} {e : TypeId} {v : Value} {xs : List Value} (h : w.ownsRow base e size v n xs) : ∃ p c, v = .slice p n c := by
  rcases h.2 with ⟨h1, h2⟩ | ⟨g, cap, cur, h1, _⟩
  · exact ⟨none, 0, by rw [h1, h2]⟩
  · exact ⟨_, _, h1⟩
/-- The values of the first forms. -/
def wos (fs : List Fm) (x : List Int) (k : Nat) : List Int := (fs.take k).map (worth · x)
theorem wos_len {fs : List Fm} {x : List Int} {k : Nat} (h : k ≤ fs.length) : (wos fs x k).length = k := by unfold wos; rw [List.length_map, List.length_take]; omega
theorem wos_snoc {fs : List Fm} {x : List Int} {k : Nat} (h : k < fs.length) : wos fs x (k + 1) = wos fs x k ++ [worth fs[k] x] := by
  unfold wos; rw [List.take_succ_eq_append_getElem h, List.map_append]; rfl
theorem wos_all (fs : List Fm) (x : List Int) : wos fs x fs.length = fs.map (worth · x) := by unfold wos; rw [List.take_length]
/-- Where the loop over a shape's args stands. -/
structure InM (wo : World) (c : UInt8) (fs : List Fm) (x : List Int) (k : Nat) (va : Value) (wi : World) : Prop where
  below : Below wo.heap.size wo wi
  blk : wi.heap[wo.heap.size]? = some (.cells #[.int .u8 c.toNat, va] 27 (0, 0))
  own : wi.ownsRow (wo.heap.size + 1) 3 1 va k (valsL (wos fs x k))
  hi : k ≤ fs.length
  good : ∀ j, (h : j < fs.length) → j < k → argB (worth fs[j] x) = true
theorem inM_start (wo : World) (c : UInt8) (fs : List Fm) (x : List Int) : InM wo c fs x 0 (.slice none 0 0) (wo.alloc (.cells #[.int .u8 c.toNat, .slice none 0 0] 27)) :=
  ⟨(Below.refl _ _).alloc (Nat.le_refl _) _, heap_alloc_new _ _, by simpa [wos, valsL] using World.ownsRow_nil (wo.alloc (.cells #[.int .u8 c.toNat, .slice none 0 0] 27)) (wo.heap.size + 1) 3 1, Nat.zero_le _, fun j _ h => by omega⟩
theorem InM.later {wo wi w2 : World} {c : UInt8} {fs : List Fm} {x : List Int} {k : Nat} {va : Value} (h : InM wo c fs x k va wi) (hb : Below wi.heap.size wi w2) : InM wo c fs x k va w2 :=
  ⟨h.below.trans (hb.mono h.below.size), (hb.block _ (lt_of_block h.blk)).trans h.blk, l_own_later h.own hb, h.hi, h.good⟩
theorem inM_blk {wo wi w3 : World} {c : UInt8} {fs : List Fm} {x : List Int} {k : Nat} {va : Value} {tmp : Obj} (h : InM wo c fs x k va wi) (hg : (wi.alloc tmp).grownBy w3 va.ownBlock) : w3.heap[wo.heap.size]? = some (.cells #[.int .u8 c.toNat, va] 27 (0, 0)) := by
  have hlt2 := lt_of_block h.blk
  rw [hg.block wo.heap.size (by simp; omega) (fun e => by have := (owns_lt h.own _ e.symm).1; omega)]
  exact heap_alloc_old h.blk _
theorem inM_step {wo wi w3 : World} {c : UInt8} {fs : List Fm} {x : List Int} {k : Nat} {va v2 : Value} {tmp : Obj} (h : InM wo c fs x k va wi) (hk : k < fs.length) (ho : w3.ownsRow (wo.heap.size + 1) 3 1 v2 (k + 1) (valsL (wos fs x k) ++ [.int .i64 (worth fs[k] x)])) (hg : (wi.alloc tmp).grownBy w3 va.ownBlock)
    (hb : argB (worth fs[k] x) = true) : InM wo c fs x (k + 1) v2 (w3.setCell ⟨wo.heap.size, 1, none⟩ v2) := by
  have z := h.below.size
  have hv := owns_lt h.own
  have hb3 := inM_blk h hg
  have ho2 : w3.ownsRow (wo.heap.size + 1) 3 1 v2 (k + 1) (valsL (wos fs x (k + 1))) := by
    rw [wos_snoc hk, valsL_app]; exact ho
  refine ⟨((h.below.alloc z tmp).grown hg (by simp; omega) (fun j e => by have := (hv j e).1; omega)).setCell (Nat.le_refl _) _, ?_, ?_, hk, fun j hj h2 => ?_⟩
  · have := Lib.heap_setCell_same (i := 1) hb3 v2
    simpa using this
  · refine ownsRow_setCell_other ho2 ?_ _
    intro e
    have := (owns_lt ho2 _ e).1
    simp at this; omega
  · rcases Nat.lt_or_eq_of_le (Nat.le_of_lt_succ h2) with h3 | h3
    · exact h.good j hj h3
    · subst h3; exact hb
/-- Where the loop over the shapes stands. -/
structure OutM (w0 : World) (out : List Sh) (x : List Int) (k : Nat) (v : Value) (wr : World) : Prop where
  below : Below w0.heap.size w0 wr
  own : ∃ vs, ModFr wr w0.heap.size v ((out.take k).map (mkM · x)) vs
  hi : k ≤ out.length
  good : ∀ j, (h : j < out.length) → j < k → mkB out[j] x = true
theorem outM_start (w0 : World) (out : List Sh) (x : List Int) : OutM w0 out x 0 (.slice none 0 0) w0 :=
  ⟨Below.refl _ _, ⟨[], by simpa using modFr_nil w0 w0.heap.size⟩, Nat.zero_le _, fun j _ h => by omega⟩
/-- How Made ends. -/
def MdEnd (r : Rw) (m : Md) (w : World) (e : Ending) (w' : World) : Prop :=
  Below w.heap.size w w' ∧ ((made r m = none ∧ e = .returned (.tuple #[.slice none 0 0, .bool false])) ∨ ∃ v vs, made r m = some (r.out.map (mkM · m.a)) ∧ e = .returned (.tuple #[v, .bool true]) ∧ ModFr w' w.heap.size v (r.out.map (mkM · m.a)) vs)
theorem made_bad {r : Rw} {m : Md} {i k : Nat} (hi : i < r.out.length) (hk : k < r.out[i].a.length) (h : argB (worth r.out[i].a[k] m.a) = false) : made r m = none := by
  have h1 : mkB r.out[i] m.a = false := by
    unfold mkB
    rw [List.all_eq_false]
    exact ⟨_, List.getElem_mem hk, by rw [h]; simp⟩
  have h2 : r.out.all (mkB · m.a) = false := by
    rw [List.all_eq_false]
    exact ⟨_, List.getElem_mem hi, by rw [h1]; simp⟩
  unfold made; rw [if_neg (by rw [h2]; decide)]
theorem made_ok {r : Rw} {m : Md} (h : ∀ i, (hi : i < r.out.length) → mkB r.out[i] m.a = true) : made r m = some (r.out.map (mkM · m.a)) := by
  have h2 : r.out.all (mkB · m.a) = true := by
    rw [List.all_eq_true]
    intro s hs
    obtain ⟨j, hj, rfl⟩ := List.mem_iff_getElem.1 hs
    exact h j hj
  unfold made; rw [if_pos h2]
theorem mkB_ok {s : Sh} {x : List Int} (h : ∀ j, (hj : j < s.a.length) → argB (worth s.a[j] x) = true) : mkB s x = true := by
  unfold mkB
  rw [List.all_eq_true]
  intro f hf
  obtain ⟨j, hj, rfl⟩ := List.mem_iff_getElem.1 hf
  exact h j hj
theorem argB_lo {x : Int} (h : x < -1000000000) : argB x = false := by simp [argB]; omega
theorem argB_hi {x : Int} (h : 1000000000 < x) : argB x = false := by simp [argB]; omega
theorem argB_ok {x : Int} (h1 : ¬ x < -1000000000) (h2 : ¬ 1000000000 < x) : argB x = true := by simp [argB]; omega
end Go.Proofs.YtlmofdmbcddddaaGreatDoor
namespace Go.Proofs.YtlmofdmbcddddaaGreatDoor
open Go.RowKit
open WM RM
set_option linter.unusedVariables false
set_option linter.unusedSimpArgs false

/-- Is a shape, a rule too great? -/
def shG (s : Sh) : Bool := decide (10 < s.a.length) || s.a.any fun g => decide (10 < g.cs.length)
def rwG (r : Rw) : Bool := decide (10 < r.gs.length) || decide (30 < r.out.length) || r.gs.any (fun g => decide (10 < g.cs.length)) || r.out.any shG
theorem greatR_eq (l : List Rw) : greatR l = (decide (50 < l.length) || l.any rwG) := rfl
theorem greatR_len {l : List Rw} (h : 50 < l.length) : greatR l = true := by rw [greatR_eq]; simp [h]
theorem greatR_at {l : List Rw} {i : Nat} (hi : i < l.length) (h : rwG l[i] = true) : greatR l = true := by
  rw [greatR_eq, show l.any rwG = true from List.any_eq_true.2 ⟨_, List.getElem_mem hi, h⟩]; simp
theorem greatR_not {l : List Rw} (h1 : ¬ 50 < l.length) (h : ∀ i, (hi : i < l.length) → rwG l[i] = false) : greatR l = false := by
  have : l.any rwG = false := by
    rw [List.any_eq_false]
    intro x hx
    obtain ⟨j, hj, rfl⟩ := List.mem_iff_getElem.1 hx
    rw [h j hj]; decide
  rw [greatR_eq, this]; simpa using h1
theorem rwG_1 {r : Rw} (h : 10 < r.gs.length) : rwG r = true := by simp [rwG, h]
theorem rwG_2 {r : Rw} (h : 30 < r.out.length) : rwG r = true := by simp [rwG, h]
theorem rwG_3 {r : Rw} {k : Nat} (hk : k < r.gs.length) (h : 10 < r.gs[k].cs.length) : rwG r = true := by
  have : r.gs.any (fun g => decide (10 < g.cs.length)) = true := List.any_eq_true.2 ⟨_, List.getElem_mem hk, by simpa using h⟩
  unfold rwG; rw [this]; simp
theorem rwG_4 {r : Rw} {k : Nat} (hk : k < r.out.length) (h : shG r.out[k] = true) : rwG r = true := by
  have : r.out.any shG = true := List.any_eq_true.2 ⟨_, List.getElem_mem hk, h⟩
  unfold rwG; rw [this]; simp
theorem shG_1 {s : Sh} (h : 10 < s.a.length) : shG s = true := by simp [shG, h]
theorem shG_2 {s : Sh} {k : Nat} (hk : k < s.a.length) (h : 10 < s.a[k].cs.length) : shG s = true := by
  have : s.a.any (fun g => decide (10 < g.cs.length)) = true := List.any_eq_true.2 ⟨_, List.getElem_mem hk, by simpa using h⟩
  unfold shG; rw [this]; simp
theorem shG_no {s : Sh} (h1 : ¬ 10 < s.a.length) (h : ∀ k, (hk : k < s.a.length) → ¬ 10 < s.a[k].cs.length) : shG s = false := by
  have : s.a.any (fun g => decide (10 < g.cs.length)) = false := by
    rw [List.any_eq_false]
    intro x hx
    obtain ⟨j, hj, rfl⟩ := List.mem_iff_getElem.1 hx
    simpa using h j hj
  unfold shG; rw [this]; simpa using h1
theorem rwG_no {r : Rw} (h1 : ¬ 10 < r.gs.length) (h2 : ¬ 30 < r.out.length) (h3 : ∀ k, (hk : k < r.gs.length) → ¬ 10 < r.gs[k].cs.length) (h4 : ∀ k, (hk : k < r.out.length) → shG r.out[k] = false) : rwG r = false := by
  have a : r.gs.any (fun g => decide (10 < g.cs.length)) = false := by
    rw [List.any_eq_false]
    intro x hx
    obtain ⟨j, hj, rfl⟩ := List.mem_iff_getElem.1 hx
    simpa using h3 j hj
  have b : r.out.any shG = false := by
    rw [List.any_eq_false]
    intro x hx
    obtain ⟨j, hj, rfl⟩ := List.mem_iff_getElem.1 hx
    rw [h4 j hj]; decide
  unfold rwG; rw [a, b]; simp; omega
theorem upto_step {α : Prop} {n k : Nat} {P : Nat → Prop} (h : ∀ j, j < n → j < k → P j) (hk : P k) : ∀ j, j < n → j < k + 1 → P j := by
  intro j hj h2
  rcases Nat.lt_or_eq_of_le (Nat.le_of_lt_succ h2) with h3 | h3
  · exact h j hj h3
  · subst h3; exact hk
set_option maxRecDepth 100000 in
set_option maxHeartbeats 6400000 in
theorem refgreat_any (v : Value) (l : List Rw) (hmax : l.length ≤ 9223372036854775807) (w : World) (hv : Rws w v l) :
    Calls Tryz.prog 9 #[v] w fun e w' => e = .returned (.bool (greatR l)) ∧ w = w' := by
  obtain ⟨p, cap, rfl⟩ := hv.slice
  have HV := Lib.hid hv
  clear hv
  by_cases h50 : 50 < l.length
  · have HF := Lib.hid (greatR_len h50)
    have c1 : (50 : Int) < (l.length : Int) := by omega
    go_enter Tryz.func9, Tryz.ntmps9
    go_wp2_with fail
    go_ret
    exact ⟨ret_bool HF.out.symm, rfl⟩
  · have c1 : ¬ (50 : Int) < (l.length : Int) := by omega
    go_enter Tryz.func9, Tryz.ntmps9
    go_wp2_with fail
    go_loop [3] (fun i => ∃ k : Nat, k ≤ l.length ∧ i = .int .i64 k ∧ ∀ j, (hj : j < l.length) → j < k → rwG l[j] = false) (fun i => l.length - (intOf i).toNat)
    case atStart => exact ⟨0, Nat.zero_le _, rfl, fun j _ h => by omega⟩
    case round =>
      obtain ⟨i, hi, rfl, hok⟩ := hrel
      have HK := Lib.hid hok
      clear hok
      by_cases hlt : i < l.length
      · obtain ⟨b, off, cap', g, gc, o, oc, hp, lb, hat⟩ := HV.out.at hlt
        obtain rfl : p = some ⟨b, off, none⟩ := by cases hp; rfl
        have e4 := hat.c4
        have e6 := hat.c6
        have HGs := Lib.hid hat.gs
        have HOs := Lib.hid hat.out
        have k1 : (i : Int) < (l.length : Int) := by omega
        have HAt := Lib.hid (fun h => greatR_at hlt h)
        have HNx : Hid (rwG l[i] = false → ∀ j, (hj : j < l.length) → j < i + 1 → rwG l[j] = false) := Lib.hid (fun hn j hj h => by
          rcases Nat.lt_or_eq_of_le (Nat.le_of_lt_succ h) with h3 | h3
          · exact HK.out j hj h3
          · subst h3; exact hn)
        clear hp hat
        generalize l[i] = r at e4 e6 HGs HOs HAt HNx
        by_cases hg : 10 < r.gs.length
        · have HF := Lib.hid (HAt.out (rwG_1 hg))
          have c2 : (10 : Int) < (r.gs.length : Int) := by omega
          go_wp2_with fail
          go_ret
          exact ⟨ret_bool HF.out.symm, rfl⟩
        by_cases ho : 30 < r.out.length
        · have HF := Lib.hid (HAt.out (rwG_2 ho))
          have c2 : ¬ (10 : Int) < (r.gs.length : Int) := by omega
          have c3 : (30 : Int) < (r.out.length : Int) := by omega
          go_wp2_with fail
          go_ret
          exact ⟨ret_bool HF.out.symm, rfl⟩
        have c2 : ¬ (10 : Int) < (r.gs.length : Int) := by omega
        have c3 : ¬ (30 : Int) < (r.out.length : Int) := by omega
        go_wp2_with fail
        go_loop [4] (fun i' => ∃ k : Nat, k ≤ r.gs.length ∧ i' = .int .i64 k ∧ ∀ j, (hj : j < r.gs.length) → j < k → ¬ 10 < r.gs[j].cs.length) (fun i' => r.gs.length - (intOf i').toNat)
        case atStart => exact ⟨0, Nat.zero_le _, rfl, fun j _ h => by omega⟩
        case round =>
          obtain ⟨k, hk, rfl, hok⟩ := hrel
          have HGK := Lib.hid hok
          clear hok
          by_cases hkl : k < r.gs.length
          · obtain ⟨b2, off2, cap2, pf, cf, hp2, f0, f1, -, lb2⟩ := HGs.out.at hkl
            obtain rfl : g = some ⟨b2, off2, none⟩ := by cases hp2; rfl
            have k2 : (k : Int) < (r.gs.length : Int) := by omega
            clear hp2
            by_cases h10 : 10 < r.gs[k].cs.length
            · have HF := Lib.hid (HAt.out (rwG_3 hkl h10))
              have c4 : (10 : Int) < (r.gs[k].cs.length : Int) := by omega
              generalize r.gs[k].cs.length = n at f1 c4
              go_wp2_with fail
              go_ret
              exact ⟨ret_bool HF.out.symm, rfl⟩
            · have c4 : ¬ (10 : Int) < (r.gs[k].cs.length : Int) := by omega
              have HN : Hid (∀ j, (hj : j < r.gs.length) → j < k + 1 → ¬ 10 < r.gs[j].cs.length) := Lib.hid (fun j hj h => by
                rcases Nat.lt_or_eq_of_le (Nat.le_of_lt_succ h) with h3 | h3
                · exact HGK.out j hj h3
                · subst h3; exact h10)
              clear h10
              generalize r.gs[k].cs.length = n at f1 c4
              go_wp2_with fail
              go_round
              case rel => exact ⟨k + 1, by omega, by go_num, HN.out⟩
              case measure => simp [intOf]; omega
          · obtain rfl : k = r.gs.length := by omega
            have k2 : ¬ (r.gs.length : Int) < (r.gs.length : Int) := by omega
            go_wp2_with fail
            go_loop [5] (fun i' => ∃ k : Nat, k ≤ r.out.length ∧ i' = .int .i64 k ∧ ∀ j, (hj : j < r.out.length) → j < k → shG r.out[j] = false) (fun i' => r.out.length - (intOf i').toNat)
            case atStart => exact ⟨0, Nat.zero_le _, rfl, fun j _ h => by omega⟩
            case round =>
              obtain ⟨k, hk2, rfl, hok⟩ := hrel
              have HOK := Lib.hid hok
              clear hok
              by_cases hkl : k < r.out.length
              · obtain ⟨b2, off2, cap2, pf, cf, hp2, f0, f1, hin, lb2⟩ := HOs.out.at hkl
                obtain rfl : o = some ⟨b2, off2, none⟩ := by cases hp2; rfl
                have k3 : (k : Int) < (r.out.length : Int) := by omega
                have HFs := Lib.hid hin
                have HA2 := Lib.hid (fun h => HAt.out (rwG_4 hkl h))
                have HN2 : Hid (shG r.out[k] = false → ∀ j, (hj : j < r.out.length) → j < k + 1 → shG r.out[j] = false) := Lib.hid (fun hn j hj h => by
                  rcases Nat.lt_or_eq_of_le (Nat.le_of_lt_succ h) with h3 | h3
                  · exact HOK.out j hj h3
                  · subst h3; exact hn)
                clear hp2 hin
                generalize r.out[k] = s at f0 f1 HFs HA2 HN2
                by_cases h10 : 10 < s.a.length
                · have HF := Lib.hid (HA2.out (shG_1 h10))
                  have c4 : (10 : Int) < (s.a.length : Int) := by omega
                  go_wp2_with fail
                  go_ret
                  exact ⟨ret_bool HF.out.symm, rfl⟩
                · have c4 : ¬ (10 : Int) < (s.a.length : Int) := by omega
                  go_wp2_with fail
                  go_loop [6] (fun i' => ∃ n : Nat, n ≤ s.a.length ∧ i' = .int .i64 n ∧ ∀ j, (hj : j < s.a.length) → j < n → ¬ 10 < s.a[j].cs.length) (fun i' => s.a.length - (intOf i').toNat)
                  case atStart => exact ⟨0, Nat.zero_le _, rfl, fun j _ h => by omega⟩
                  case round =>
                    obtain ⟨n, hn, rfl, hok⟩ := hrel
                    have HSK := Lib.hid hok
                    clear hok
                    by_cases hnl : n < s.a.length
                    · obtain ⟨b3, off3, cap3, pg, cg, hp3, g0, g1, -, lb3⟩ := HFs.out.at hnl
                      obtain rfl : pf = some ⟨b3, off3, none⟩ := by cases hp3; rfl
                      have k4 : (n : Int) < (s.a.length : Int) := by omega
                      clear hp3
                      by_cases hx : 10 < s.a[n].cs.length
                      · have HF := Lib.hid (HA2.out (shG_2 hnl hx))
                        have c5 : (10 : Int) < (s.a[n].cs.length : Int) := by omega
                        generalize s.a[n].cs.length = z at g1 c5
                        go_wp2_with fail
                        go_ret
                        exact ⟨ret_bool HF.out.symm, rfl⟩
                      · have c5 : ¬ (10 : Int) < (s.a[n].cs.length : Int) := by omega
                        have HN : Hid (∀ j, (hj : j < s.a.length) → j < n + 1 → ¬ 10 < s.a[j].cs.length) := Lib.hid (fun j hj h => by
                          rcases Nat.lt_or_eq_of_le (Nat.le_of_lt_succ h) with h3 | h3
                          · exact HSK.out j hj h3
                          · subst h3; exact hx)
                        clear hx
                        generalize s.a[n].cs.length = z at g1 c5
                        go_wp2_with fail
                        go_round
                        case rel => exact ⟨n + 1, by omega, by go_num, HN.out⟩
                        case measure => simp [intOf]; omega
                    · obtain rfl : n = s.a.length := by omega
                      have k4 : ¬ (s.a.length : Int) < (s.a.length : Int) := by omega
                      have HN := Lib.hid (HN2.out (shG_no h10 (fun j hj => HSK.out j hj hj)))
                      go_wp2_with fail
                      go_round
                      case rel => exact ⟨k + 1, by omega, by go_num, HN.out⟩
                      case measure => simp [intOf]; omega
              · obtain rfl : k = r.out.length := by omega
                have k3 : ¬ (r.out.length : Int) < (r.out.length : Int) := by omega
                have HN := Lib.hid (HNx.out (rwG_no hg ho (fun j hj => HGK.out j hj hj) (fun j hj => HOK.out j hj hj)))
                go_wp2_with fail
                go_round
                case rel => exact ⟨i + 1, by omega, by go_num, HN.out⟩
                case measure => simp [intOf]; omega
      · obtain rfl : i = l.length := by omega
        have HF := Lib.hid (greatR_not h50 (fun i hi => HK.out i hi hi))
        go_wp2_with fail
        go_ret
        exact ⟨ret_bool HF.out.symm, rfl⟩
/-- Rules that are not great are small. -/
theorem greatR_sm {l : List Rw} (h : greatR l = false) : l.length ≤ 50 ∧ ∀ r ∈ l, RwSm r := by
  rw [greatR_eq, Bool.or_eq_false_iff] at h
  refine ⟨by simpa using h.1, fun r hr => ?_⟩
  have h2 := List.any_eq_false.1 h.2 r hr
  have h3 : rwG r = false := by simpa using h2
  unfold rwG at h3
  simp only [Bool.or_eq_false_iff, decide_eq_false_iff_not] at h3
  obtain ⟨⟨⟨a, b⟩, c⟩, d⟩ := h3
  refine ⟨by omega, by omega, fun f hf => ?_, fun s hs => ?_⟩
  · have := List.any_eq_false.1 c f hf
    simpa using this
  · have := List.any_eq_false.1 d s hs
    have h4 : shG s = false := by simpa using this
    unfold shG at h4
    simp only [Bool.or_eq_false_iff, decide_eq_false_iff_not] at h4
    refine ⟨by omega, fun f hf => ?_⟩
    have := List.any_eq_false.1 h4.2 f hf
    simpa using this
end Go.Proofs.YtlmofdmbcddddaaGreatDoor
