/-
  Values of the rule language as trees: parts, depth, what is valid, what is great: plain mathematics.
-/
import Derived.Test.YtakjgjhjndiggaaGreatDoorRatMath
import Derived.RowKit
namespace Go.Proofs.YtakjgjhjndiggaaGreatDoor
namespace VM
set_option linter.unusedVariables false
set_option linter.unusedSimpArgs false
open Go.RowKit (wrap64)

/-- A value's own fields, but for its list. -/
structure Nd where
  k : Int
  n : Int
  d : Int
  t : Bool
  s : ByteArray
deriving DecidableEq
inductive V where
  | mk (a : Nd) (l : List V)
def V.nd : V → Nd
  | .mk a _ => a
def V.list : V → List V
  | .mk _ l => l
@[simp] theorem V.nd_mk (a : Nd) (l : List V) : (V.mk a l).nd = a := rfl
@[simp] theorem V.list_mk (a : Nd) (l : List V) : (V.mk a l).list = l := rfl
theorem V.eta (v : V) : V.mk v.nd v.list = v := by cases v; rfl
theorem V.ind {P : V → Prop} (h : ∀ a l, (∀ x ∈ l, P x) → P (.mk a l)) (v : V) : P v :=
  V.rec (motive_1 := P) (motive_2 := fun l => ∀ x ∈ l, P x) h (by simp) (fun x l hx hl => by
    intro y hy; rw [List.mem_cons] at hy; rcases hy with rfl | hy
    · exact hx
    · exact hl y hy) v

/-! ### Parts, depth, height -/
theorem wrap_sum (a b : Int) : wrap64 (wrap64 a + wrap64 b) = wrap64 (a + b) := by
  unfold wrap64
  have h1 := Int.emod_add_mul_ediv (a + 9223372036854775808) 18446744073709551616
  have h2 := Int.emod_add_mul_ediv (b + 9223372036854775808) 18446744073709551616
  generalize (a + 9223372036854775808) / 18446744073709551616 = x at h1
  generalize (b + 9223372036854775808) / 18446744073709551616 = y at h2
  generalize (a + 9223372036854775808) % 18446744073709551616 = u at *
  generalize (b + 9223372036854775808) % 18446744073709551616 = v at *
  have e : a + b + 9223372036854775808 = (u - 9223372036854775808 + (v - 9223372036854775808) + 9223372036854775808) + 18446744073709551616 * (x + y) := by omega
  rw [e, Int.add_mul_emod_self_left]
theorem wrap_one : wrap64 1 = 1 := rfl
mutual
def parts : V → Nat
  | .mk a l => 1 + if a.k = 4 then partsL l else 0
def partsL : List V → Nat
  | [] => 0
  | x :: l => parts x + partsL l
end
mutual
def deep : V → Nat
  | .mk a l => 1 + if a.k = 4 then deepL l else 0
def deepL : List V → Nat
  | [] => 0
  | x :: l => max (deep x) (deepL l)
end
/- The height through all lists, whatever the kind. -/
mutual
def hgt : V → Nat
  | .mk _ l => 1 + hgtL l
def hgtL : List V → Nat
  | [] => 0
  | x :: l => max (hgt x) (hgtL l)
end
theorem parts_eq (v : V) : parts v = 1 + if v.nd.k = 4 then partsL v.list else 0 := by cases v; rfl
theorem deep_eq (v : V) : deep v = 1 + if v.nd.k = 4 then deepL v.list else 0 := by cases v; rfl
theorem hgt_eq (v : V) : hgt v = 1 + hgtL v.list := by cases v; simp [hgt]
theorem partsL_app (l m : List V) : partsL (l ++ m) = partsL l + partsL m := by
  induction l with
  | nil => simp [partsL]
  | cons x l ih => simp [partsL, ih]; omega
theorem deepL_app (l m : List V) : deepL (l ++ m) = max (deepL l) (deepL m) := by
  induction l with
  | nil => simp [deepL]
  | cons x l ih => simp only [List.cons_append, deepL, ih]; omega
theorem hgtL_app (l m : List V) : hgtL (l ++ m) = max (hgtL l) (hgtL m) := by
  induction l with
  | nil => simp [hgtL]
  | cons x l ih => simp only [List.cons_append, hgtL, ih]; omega
theorem partsL_snoc {l : List V} {k : Nat} (h : k < l.length) : partsL (l.take (k + 1)) = partsL (l.take k) + parts l[k] := by
  rw [List.take_succ_eq_append_getElem h, partsL_app]; simp [partsL]
theorem deepL_snoc {l : List V} {k : Nat} (h : k < l.length) : deepL (l.take (k + 1)) = max (deepL (l.take k)) (deep l[k]) := by
  rw [List.take_succ_eq_append_getElem h, deepL_app]; simp [deepL]
theorem hgtL_mem {x : V} {l : List V} (h : x ∈ l) : hgt x ≤ hgtL l := by
  induction l with
  | nil => simp at h
  | cons y l ih =>
    rw [List.mem_cons] at h
    rcases h with rfl | h
    · simp [hgtL]; omega
    · have := ih h; simp [hgtL]; omega
theorem hgtL_le {n : Nat} {l : List V} (h : ∀ x ∈ l, hgt x ≤ n) : hgtL l ≤ n := by
  induction l with
  | nil => simp [hgtL]
  | cons y l ih =>
    have h1 := h y (by simp)
    have := ih (fun x hx => h x (List.mem_cons_of_mem y hx)); simp [hgtL]; omega
theorem deepL_mem {x : V} {l : List V} (h : x ∈ l) : deep x ≤ deepL l := by
  induction l with
  | nil => simp at h
  | cons y l ih =>
    rw [List.mem_cons] at h
    rcases h with rfl | h
    · simp [deepL]; omega
    · have := ih h; simp [deepL]; omega
theorem deepL_le {n : Nat} {l : List V} (h : ∀ x ∈ l, deep x ≤ n) : deepL l ≤ n := by
  induction l with
  | nil => simp [deepL]
  | cons y l ih =>
    have h1 := h y (by simp)
    have := ih (fun x hx => h x (List.mem_cons_of_mem y hx)); simp [deepL]; omega
theorem parts_pos (v : V) : 1 ≤ parts v := by rw [parts_eq]; omega
theorem deep_pos (v : V) : 1 ≤ deep v := by rw [deep_eq]; omega
theorem deep_le_hgt (v : V) : deep v ≤ hgt v := by
  induction v using V.ind with
  | h a l ih =>
    rw [deep_eq, hgt_eq]
    have : deepL l ≤ hgtL l := deepL_le fun x hx => Nat.le_trans (ih x hx) (hgtL_mem hx)
    show 1 + (if a.k = 4 then deepL l else 0) ≤ 1 + hgtL l
    split <;> omega
theorem hgt_mem {v x : V} (h : x ∈ v.list) : hgt x < hgt v := by
  have := hgtL_mem h; rw [hgt_eq v]; omega

/-! ### Well-formed values: numbers in range, strings and lists no longer than m -/
structure Nd.Wf (m : Nat) (a : Nd) : Prop where
  k0 : 0 ≤ a.k
  k1 : a.k ≤ 255
  n0 : -9223372036854775808 ≤ a.n
  n1 : a.n ≤ 9223372036854775807
  d0 : -9223372036854775808 ≤ a.d
  d1 : a.d ≤ 9223372036854775807
  s : a.s.size ≤ m
inductive Wf (m : Nat) : V → Prop where
  | mk (a : Nd) (l : List V) (ha : a.Wf m) (hl : l.length ≤ m) (h : ∀ x ∈ l, Wf m x) : Wf m (.mk a l)
theorem Wf.nd {m : Nat} {v : V} (h : Wf m v) : v.nd.Wf m := by cases h; assumption
theorem Wf.len {m : Nat} {v : V} (h : Wf m v) : v.list.length ≤ m := by cases h; assumption
theorem Wf.mem {m : Nat} {v x : V} (h : Wf m v) (hx : x ∈ v.list) : Wf m x := by cases h with | mk a l ha hl h => exact h x hx
theorem Wf.get {m : Nat} {v : V} (h : Wf m v) {k : Nat} (hk : k < v.list.length) : Wf m v.list[k] := h.mem (List.getElem_mem hk)
theorem Nd.Wf.mono {m n : Nat} {a : Nd} (h : a.Wf m) (hs : a.s.size ≤ n) : a.Wf n := ⟨h.k0, h.k1, h.n0, h.n1, h.d0, h.d1, hs⟩
/-- Values that the walks speak of. -/
structure Small (v : V) : Prop where
  wf : Wf 20000 v
  h : hgt v ≤ 20000
theorem Small.mem {v x : V} (h : Small v) (hx : x ∈ v.list) : Small x := ⟨h.wf.mem hx, by have := hgt_mem hx; have := h.h; omega⟩
theorem Small.get {v : V} (h : Small v) {k : Nat} (hk : k < v.list.length) : Small v.list[k] := h.mem (List.getElem_mem hk)

/-! ### What is great -/
def greatB : Nat → V → Bool
  | 0, _ => true
  | n + 1, v => decide (200 < v.nd.s.size) || (decide (150 < v.list.length) || v.list.any (greatB n))
theorem greatB_no {n : Nat} : ∀ {v : V} {m : Nat}, greatB n v = false → Wf m v → Wf 200 v ∧ hgt v ≤ n ∧ 1 ≤ n := by
  induction n with
  | zero => intro v m h; simp [greatB] at h
  | succ n ih =>
    intro v m h hw
    simp only [greatB, Bool.or_eq_false_iff, decide_eq_false_iff_not, List.any_eq_false] at h
    obtain ⟨h1, h2, h3⟩ := h
    have h4 : ∀ x ∈ v.list, Wf 200 x ∧ hgt x ≤ n ∧ 1 ≤ n := fun x hx => ih (Bool.eq_false_iff.2 (h3 x hx)) (hw.mem hx)
    refine ⟨?_, ?_, by omega⟩
    · rw [← V.eta v]
      exact .mk _ _ (hw.nd.mono (by omega)) (by omega) fun x hx => (h4 x hx).1
    · rw [hgt_eq]
      have := hgtL_le (l := v.list) (n := n) fun x hx => (h4 x hx).2.1
      omega
/-- Great: too deep, too long, or too many parts as the reference counts them. -/
def grtB (v : V) : Bool := greatB 10 v || decide (150 < wrap64 (parts v))
theorem Wf.mono {m n : Nat} (h : m ≤ n) {v : V} (hw : Wf m v) : Wf n v := by
  induction hw with
  | mk a l ha hl hx ih => exact .mk a l (ha.mono (Nat.le_trans ha.s h)) (Nat.le_trans hl h) ih
theorem small_of_great {v : V} {m : Nat} (h : grtB v = false) (hw : Wf m v) : Wf 200 v ∧ hgt v ≤ 10 := by
  simp only [grtB, Bool.or_eq_false_iff] at h
  exact ⟨(greatB_no h.1 hw).1, (greatB_no h.1 hw).2.1⟩
theorem Small.of {v : V} (hw : Wf 200 v) (hh : hgt v ≤ 10) : Small v := ⟨hw.mono (by omega), by omega⟩
theorem partsL_le {c : Nat} {l : List V} (h : ∀ x ∈ l, parts x ≤ c) : partsL l ≤ l.length * c := by
  induction l with
  | nil => simp [partsL]
  | cons x l ih =>
    have := ih fun y hy => h y (List.mem_cons_of_mem x hy)
    have := h x (by simp)
    simp only [partsL, List.length_cons, Nat.add_mul]; omega
theorem parts_le (n : Nat) : ∀ (v : V), Wf 1000 v → deep v ≤ n → parts v ≤ 1001 ^ n := by
  induction n with
  | zero => intro v _ h; have := deep_pos v; omega
  | succ n ih =>
    intro v hw h
    rw [parts_eq]
    have hp : 1 ≤ 1001 ^ n := Nat.one_le_pow _ _ (by decide)
    by_cases hk : v.nd.k = 4
    · rw [if_pos hk]
      rw [deep_eq, if_pos hk] at h
      have h1 : partsL v.list ≤ v.list.length * 1001 ^ n := partsL_le fun x hx => ih x (hw.mem hx) (by have := deepL_mem hx; omega)
      have h2 : v.list.length * 1001 ^ n ≤ 1000 * 1001 ^ n := Nat.mul_le_mul_right _ hw.len
      rw [Nat.pow_succ]; omega
    · rw [if_neg hk, Nat.pow_succ]; omega
theorem parts_small {v : V} (hw : Wf 1000 v) (h : deep v ≤ 6) : (parts v : Int) ≤ 9223372036854775807 := by
  have := parts_le 6 v hw h
  have : (1001 : Nat) ^ 6 ≤ 9223372036854775807 := by decide
  omega

/-! ### What is valid -/
def prC (c : UInt8) : Bool := decide (32 ≤ c.toNat) && decide (c.toNat ≤ 126)
def prB (s : ByteArray) : Bool := decide (s.size ≤ 60) && s.data.toList.all prC
/-- A part is as it should be, but for its elements; n: how many it has. -/
def sndB (a : Nd) (n : Nat) : Bool :=
  if a.k = 1 then RM.vld a.n a.d && (!a.t && (decide (a.s.size = 0) && decide (n = 0)))
  else if a.k = 2 then decide (a.n = 0 ∧ a.d = 0) && (decide (a.s.size = 0) && decide (n = 0))
  else if a.k = 3 then decide (a.n = 0 ∧ a.d = 0) && (!a.t && (prB a.s && decide (n = 0)))
  else if a.k = 4 then decide (a.n = 0 ∧ a.d = 0) && (!a.t && decide (a.s.size = 0))
  else false
mutual
def fineB : V → Bool
  | .mk a l => sndB a l.length && (decide (a.k ≠ 4) || fineL l)
def fineL : List V → Bool
  | [] => true
  | x :: l => fineB x && fineL l
end
theorem fineB_eq (v : V) : fineB v = (sndB v.nd v.list.length && (decide (v.nd.k ≠ 4) || fineL v.list)) := by cases v; rfl
theorem fineL_iff {l : List V} : fineL l = true ↔ ∀ x ∈ l, fineB x = true := by
  induction l with
  | nil => simp [fineL]
  | cons x l ih => simp [fineL, ih]
theorem fineL_all (l : List V) : fineL l = l.all fineB := by
  rw [Bool.eq_iff_iff, fineL_iff]; simp
def vchk (v : V) : Int := if 100 < parts v ∨ 6 < deep v then 4 else if fineB v = true then 0 else 8
theorem vchk_vals (v : V) : vchk v = 0 ∨ vchk v = 4 ∨ vchk v = 8 := by unfold vchk; split; simp; split <;> simp
theorem vchk_zero {v : V} : vchk v = 0 ↔ parts v ≤ 100 ∧ deep v ≤ 6 ∧ fineB v = true := by
  unfold vchk
  constructor
  · intro h
    split at h
    · simp at h
    · split at h
      · rename_i h1 h2; exact ⟨by omega, by omega, h2⟩
      · simp at h
  · rintro ⟨h1, h2, h3⟩
    rw [if_neg (by omega), if_pos h3]
/-- The reference's own test of size is the plain one, where no list is long. -/
theorem many_wrap {v : V} (hw : deep v ≤ 6 → (parts v : Int) ≤ 9223372036854775807) : (100 < wrap64 (parts v) ∨ 6 < deep v) ↔ (100 < parts v ∨ 6 < deep v) := by
  by_cases h : 6 < deep v
  · simp [h]
  · have := hw (by omega)
    rw [show wrap64 (parts v) = parts v by unfold wrap64; omega]
    omega

/-! ### All parts, from the whole on, each with its depth -/
mutual
def pre : Nat → V → List (V × Nat)
  | n, .mk a l => (.mk a l, n) :: if a.k = 4 then preL (n + 1) l else []
def preL : Nat → List V → List (V × Nat)
  | _, [] => []
  | n, x :: l => pre n x ++ preL n l
end
theorem pre_eq (n : Nat) (v : V) : pre n v = (v, n) :: if v.nd.k = 4 then preL (n + 1) v.list else [] := by cases v; rfl
theorem preL_app (n : Nat) (l m : List V) : preL n (l ++ m) = preL n l ++ preL n m := by
  induction l with
  | nil => simp [preL]
  | cons x l ih => simp [preL, ih]
theorem preL_snoc {n : Nat} {l : List V} {k : Nat} (h : k < l.length) : preL n (l.take (k + 1)) = preL n (l.take k) ++ pre n l[k] := by
  rw [List.take_succ_eq_append_getElem h, preL_app]; simp [preL]
theorem preL_mem {n : Nat} {l : List V} {q : V × Nat} : q ∈ preL n l ↔ ∃ x ∈ l, q ∈ pre n x := by
  induction l with
  | nil => simp [preL]
  | cons x l ih => simp [preL, ih]
theorem preL_length (n : Nat) (l : List V) (h : ∀ x ∈ l, (pre n x).length = parts x) : (preL n l).length = partsL l := by
  induction l with
  | nil => simp [preL, partsL]
  | cons x l ih => simp [preL, partsL, h x (by simp), ih fun y hy => h y (List.mem_cons_of_mem x hy)]
theorem pre_length (v : V) : ∀ n, (pre n v).length = parts v := by
  induction v using V.ind with
  | h a l ih =>
    intro n
    rw [pre_eq, parts_eq]
    by_cases hk : a.k = 4
    · simp only [V.nd_mk, hk, if_true, V.list_mk, List.length_cons]
      rw [preL_length (n + 1) l fun x hx => ih x hx _]; omega
    · simp [hk]
theorem pre_deep (v : V) : ∀ n m, (∀ q ∈ pre n v, q.2 ≤ m) ↔ n + deep v ≤ m + 1 := by
  induction v using V.ind with
  | h a l ih =>
    intro n m
    rw [pre_eq, deep_eq]
    by_cases hk : a.k = 4
    · simp only [V.nd_mk, hk, if_true, V.list_mk, List.mem_cons, forall_eq_or_imp]
      constructor
      · rintro ⟨h1, h2⟩
        have : deepL l ≤ m - n := deepL_le fun x hx => by
          have := (ih x hx (n + 1) m).1 fun q hq => h2 q (preL_mem.2 ⟨x, hx, hq⟩)
          omega
        omega
      · intro h
        refine ⟨by omega, fun q hq => ?_⟩
        obtain ⟨x, hx, hq⟩ := preL_mem.1 hq
        exact (ih x hx (n + 1) m).2 (by have := deepL_mem hx; omega) q hq
    · simp [hk]
theorem pre_fine (v : V) : ∀ n, (∀ q ∈ pre n v, sndB q.1.nd q.1.list.length = true) ↔ fineB v = true := by
  induction v using V.ind with
  | h a l ih =>
    intro n
    rw [pre_eq, fineB_eq]
    by_cases hk : a.k = 4
    · simp only [V.nd_mk, hk, if_true, V.list_mk, List.mem_cons, forall_eq_or_imp, Bool.and_eq_true, ne_eq, not_true, decide_false, Bool.false_or]
      refine and_congr Iff.rfl ?_
      rw [fineL_iff]
      constructor
      · intro h x hx
        exact (ih x hx (n + 1)).1 fun q hq => h q (preL_mem.2 ⟨x, hx, hq⟩)
      · intro h q hq
        obtain ⟨x, hx, hq⟩ := preL_mem.1 hq
        exact (ih x hx (n + 1)).2 (h x hx) q hq
    · simp [hk]
/-- Check's answer, told by what has come of the parts. -/
theorem vchk_many {v : V} {l : List (V × Nat)} (h : l <+: pre 1 v) (h2 : 100 < l.length ∨ ∃ q ∈ l, 6 < q.2) : vchk v = 4 := by
  unfold vchk
  rw [if_pos]
  rcases h2 with h2 | ⟨q, hq, h2⟩
  · left; rw [← pre_length v 1]; exact Nat.lt_of_lt_of_le h2 h.length_le
  · right
    refine Nat.not_le.1 fun hd => ?_
    have := (pre_deep v 1 6).2 (by omega) q (h.subset hq)
    omega
theorem vchk_all {v : V} (h1 : (pre 1 v).length ≤ 100) (h2 : ∀ q ∈ pre 1 v, q.2 ≤ 6) : vchk v = if (pre 1 v).all (fun q => sndB q.1.nd q.1.list.length) = true then 0 else 8 := by
  unfold vchk
  rw [pre_length] at h1
  have := (pre_deep v 1 6).1 h2
  rw [if_neg (by omega)]
  have : (pre 1 v).all (fun q => sndB q.1.nd q.1.list.length) = fineB v := by
    rw [Bool.eq_iff_iff, ← pre_fine v 1, List.all_eq_true]
  rw [this]

/-! ### The same -/
mutual
def sameB : V → V → Bool
  | .mk a l, .mk b m => decide (a = b) && sameL l m
def sameL : List V → List V → Bool
  | [], [] => true
  | x :: l, y :: m => sameB x y && sameL l m
  | [], _ :: _ => false
  | _ :: _, [] => false
end
theorem sameL_iff_of {l : List V} (h : ∀ x ∈ l, ∀ y, sameB x y = true ↔ x = y) : ∀ m, sameL l m = true ↔ l = m := by
  induction l with
  | nil => intro m; cases m <;> simp [sameL]
  | cons x l ih =>
    intro m
    cases m with
    | nil => simp [sameL]
    | cons y m =>
      simp only [sameL, Bool.and_eq_true, List.cons.injEq]
      rw [h x (by simp) y, ih (fun z hz => h z (List.mem_cons_of_mem x hz)) m]
theorem sameB_iff (v : V) : ∀ u, sameB v u = true ↔ v = u := by
  induction v using V.ind with
  | h a l ih =>
    intro u
    cases u with
    | mk b m => simp only [sameB, Bool.and_eq_true, decide_eq_true_eq, V.mk.injEq]; rw [sameL_iff_of ih m]
theorem sameL_iff (l m : List V) : sameL l m = true ↔ l = m := sameL_iff_of (fun x _ y => sameB_iff x y) m
instance : DecidableEq V := fun a b => decidable_of_iff (sameB a b = true) (sameB_iff a b)
end VM
end Go.Proofs.YtakjgjhjndiggaaGreatDoor
