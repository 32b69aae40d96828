/-
  Texts of the proof, merged: ZConMath, ZRewPrM, ZRewMem, ZRewRefA, ZRewRefB, ZRewRefC, ZRewRefD, ZRewRefE.
-/
import Derived.Test.YtcoljbcjnggagaaGreatDoorZContextBackProofM5
import Derived.Test.YtcoljbcjnggagaaGreatDoorZContextBackProofM2
namespace Go.Proofs.YtcoljbcjnggagaaGreatDoor
open WM RM
set_option linter.unusedVariables false
set_option linter.unusedSimpArgs false
namespace CM

abbrev md (u : List Md) (k : Nat) : Md := u.getD k ⟨0, []⟩
theorem md_get {u : List Md} {k : Nat} (h : k < u.length) : md u k = u[k] := by simp [md, List.getD, h]
def hasB (s : Bs) (c : UInt8) : Bool := s.any (· == c)
def plnB (c : UInt8) : Bool := letB c && !(braB c)
theorem pln_no {c : UInt8} (h : plnB c = true) : c ≠ 91 ∧ c ≠ 93 := by
  unfold plnB braB at h
  constructor <;> (rintro rfl; simp at h)
/-- The names of what is ignored, up to a place. -/
def ignU (s : Bs) (k : Nat) : Bool := (List.range k).all fun i => plnB (s.getD i 0) && !(hasB (s.take i) (s.getD i 0))
theorem ignU_zero (s : Bs) : ignU s 0 = true := rfl
theorem ignU_succ (s : Bs) (k : Nat) : ignU s (k + 1) = (ignU s k && (plnB (s.getD k 0) && !(hasB (s.take k) (s.getD k 0)))) := by simp [ignU, List.range_succ]
theorem ignU_mono {s : Bs} {j k : Nat} (h : j ≤ k) (hk : ignU s k = true) : ignU s j = true := by
  unfold ignU at *
  rw [List.all_eq_true] at *
  intro i hi
  exact hk i (by rw [List.mem_range] at *; omega)
def ignB (s : Bs) : Bool := decide (s.length ≤ 20) && ignU s s.length
theorem ign_pln {s : Bs} (h : ignU s s.length = true) {c : UInt8} (hc : hasB s c = true) : plnB c = true := by
  unfold hasB at hc
  rw [List.any_eq_true] at hc
  obtain ⟨x, hx, he⟩ := hc
  obtain ⟨i, hi, rfl⟩ := List.mem_iff_getElem.1 hx
  have h1 := ignU_mono (j := i + 1) (by omega) h
  rw [ignU_succ] at h1
  simp only [Bool.and_eq_true] at h1
  have h2 := h1.2.1
  rw [show s.getD i 0 = s[i] by simp [List.getD, hi]] at h2
  rw [← beq_iff_eq.1 he]; exact h2
/-- Going to the left from a place, out of so many branches that are passed. -/
def bfF (g : Bs) (u : List Md) : Nat → Int → Int
  | 0, _ => -1
  | k + 1, c =>
    if (md u k).c = 93 then bfF g u k (c + 1)
    else if (md u k).c = 91 then bfF g u k (if 0 < c then c - 1 else c)
    else if c = 0 ∧ hasB g (md u k).c = false then (k : Int)
    else bfF g u k c
def bef (g : Bs) (u : List Md) (i : Nat) : Int := bfF g u i 0
/-- Going to the right. -/
def bhF (g : Bs) : List Md → Nat → Int → Int
  | [], _, _ => -1
  | m :: l, k, o =>
    if m.c = 91 then bhF g l (k + 1) (o + 1)
    else if m.c = 93 then (if o = 0 then -1 else bhF g l (k + 1) (o - 1))
    else if o = 0 ∧ hasB g m.c = false then (k : Int)
    else bhF g l (k + 1) o
def bhd (g : Bs) (u : List Md) (k : Nat) (o : Int) : Int := bhF g (u.drop k) k o
def beh (g : Bs) (u : List Md) (i : Nat) : Int := bhd g u (i + 1) 0
section
variable {g : Bs} {u : List Md} {k : Nat} {c : Int}
theorem bf_zero : bfF g u 0 c = -1 := rfl
theorem bf_close (h : (md u k).c = 93) : bfF g u (k + 1) c = bfF g u k (c + 1) := by rw [bfF, if_pos h]
theorem bf_open (h : (md u k).c = 91) (hc : 0 < c) : bfF g u (k + 1) c = bfF g u k (c - 1) := by
  rw [bfF, if_neg (by rw [h]; decide), if_pos h, if_pos hc]
theorem bf_open0 (h : (md u k).c = 91) : bfF g u (k + 1) 0 = bfF g u k 0 := by
  rw [bfF, if_neg (by rw [h]; decide), if_pos h, if_neg (by omega)]
theorem bf_stop (h1 : (md u k).c ≠ 93) (h2 : (md u k).c ≠ 91) (h : hasB g (md u k).c = false) : bfF g u (k + 1) 0 = k := by
  rw [bfF, if_neg h1, if_neg h2, if_pos ⟨rfl, h⟩]
theorem bf_pass (h1 : (md u k).c ≠ 93) (h2 : (md u k).c ≠ 91) (h : c ≠ 0 ∨ hasB g (md u k).c = true) : bfF g u (k + 1) c = bfF g u k c := by
  rw [bfF, if_neg h1, if_neg h2, if_neg]
  rintro ⟨a, b⟩
  rcases h with h | h
  · exact h a
  · rw [h] at b; simp at b
theorem bh_out (h : u.length ≤ k) : bhd g u k c = -1 := by unfold bhd; rw [List.drop_of_length_le h]; rfl
theorem bh_cons (h : k < u.length) : bhd g u k c = bhF g (u[k] :: u.drop (k + 1)) k c := by unfold bhd; rw [List.drop_eq_getElem_cons h]
theorem bh_open (hk : k < u.length) (h : (md u k).c = 91) : bhd g u k c = bhd g u (k + 1) (c + 1) := by
  rw [md_get hk] at h
  rw [bh_cons hk, bhF, if_pos h]; rfl
theorem bh_end (hk : k < u.length) (h : (md u k).c = 93) : bhd g u k 0 = -1 := by
  rw [md_get hk] at h
  rw [bh_cons hk, bhF, if_neg (by rw [h]; decide), if_pos h, if_pos rfl]
theorem bh_close (hk : k < u.length) (h : (md u k).c = 93) (hc : c ≠ 0) : bhd g u k c = bhd g u (k + 1) (c - 1) := by
  rw [md_get hk] at h
  rw [bh_cons hk, bhF, if_neg (by rw [h]; decide), if_pos h, if_neg hc]; rfl
theorem bh_stop (hk : k < u.length) (h1 : (md u k).c ≠ 93) (h2 : (md u k).c ≠ 91) (h : hasB g (md u k).c = false) : bhd g u k 0 = k := by
  rw [md_get hk] at h h1 h2
  rw [bh_cons hk, bhF, if_neg h2, if_neg h1, if_pos ⟨rfl, h⟩]
theorem bh_pass (hk : k < u.length) (h1 : (md u k).c ≠ 93) (h2 : (md u k).c ≠ 91) (h : c ≠ 0 ∨ hasB g (md u k).c = true) : bhd g u k c = bhd g u (k + 1) c := by
  rw [md_get hk] at h h1 h2
  rw [bh_cons hk, bhF, if_neg h2, if_neg h1, if_neg]
  · rfl
  · rintro ⟨a, b⟩
    rcases h with h | h
    · exact h a
    · rw [h] at b; simp at b
end
/-- The brackets that are open in front of a place, the last one first. -/
def stk (u : List Md) : Nat → List Nat
  | 0 => []
  | k + 1 => if (md u k).c = 91 then k :: stk u k else if (md u k).c = 93 then (stk u k).tail else stk u k
section
variable {u : List Md} {k : Nat}
theorem stk_open (h : (md u k).c = 91) : stk u (k + 1) = k :: stk u k := by rw [stk, if_pos h]
theorem stk_close (h : (md u k).c = 93) : stk u (k + 1) = (stk u k).tail := by rw [stk, if_neg (by rw [h]; decide), if_pos h]
theorem stk_else (h1 : (md u k).c ≠ 93) (h2 : (md u k).c ≠ 91) : stk u (k + 1) = stk u k := by rw [stk, if_neg h2, if_neg h1]
theorem stk_lt (u : List Md) : ∀ k, ∀ j ∈ stk u k, j < k ∧ (md u j).c = 91
  | 0, j, h => by simp [stk] at h
  | k + 1, j, h => by
    by_cases h1 : (md u k).c = 91
    · rw [stk_open h1, List.mem_cons] at h
      rcases h with rfl | h
      · exact ⟨by omega, h1⟩
      · have := stk_lt u k j h; exact ⟨by omega, this.2⟩
    · by_cases h2 : (md u k).c = 93
      · rw [stk_close h2] at h
        have := stk_lt u k j (List.mem_of_mem_tail h); exact ⟨by omega, this.2⟩
      · rw [stk_else h2 h1] at h
        have := stk_lt u k j h; exact ⟨by omega, this.2⟩
theorem stk_pw (u : List Md) : ∀ k, (stk u k).Pairwise (fun a b => b < a)
  | 0 => by simp [stk]
  | k + 1 => by
    by_cases h1 : (md u k).c = 91
    · rw [stk_open h1, List.pairwise_cons]
      exact ⟨fun a ha => (stk_lt u k a ha).1, stk_pw u k⟩
    · by_cases h2 : (md u k).c = 93
      · rw [stk_close h2]; exact (stk_pw u k).tail
      · rw [stk_else h2 h1]; exact stk_pw u k
theorem stk_len {u : List Md} (hu : okB u u.length = true) : ∀ k, k ≤ u.length → ((stk u k).length : Int) = dep (u.take k)
  | 0, _ => by simp [stk, dep_nil]
  | k + 1, h => by
    have hk : k < u.length := h
    have ih := stk_len hu k (by omega)
    have hd := dep_snoc hk
    have h0 := okB_iff.1 hu k hk
    by_cases h1 : (md u k).c = 91
    · rw [stk_open h1]
      rw [md_get hk] at h1
      rw [hd]; unfold dlt; rw [if_pos h1]; simp; omega
    · by_cases h2 : (md u k).c = 93
      · rw [stk_close h2]
        rw [md_get hk] at h1 h2
        have : dlt u[k] = -1 := by unfold dlt; rw [if_neg h1, if_pos h2]
        rw [List.length_tail]; omega
      · rw [stk_else h2 h1]
        rw [md_get hk] at h1 h2
        have : dlt u[k] = 0 := by unfold dlt; rw [if_neg h1, if_neg h2]
        omega
theorem stk_top {u : List Md} (hu : okB u u.length = true) {k : Nat} (hk : k < u.length) (h : (md u k).c = 93) : ∃ j rest, stk u k = j :: rest ∧ stk u (k + 1) = rest ∧ j < k ∧ (md u j).c = 91 := by
  have h1 := stk_len hu k (by omega)
  have h2 := stk_len hu (k + 1) (by omega)
  have hd := dep_snoc hk
  have h0 := okB_iff.1 hu k hk
  rw [md_get hk] at h
  have : dlt u[k] = -1 := by unfold dlt; rw [if_neg (by rw [h]; decide), if_pos h]
  cases hs : stk u k with
  | nil => rw [hs] at h1; simp at h1; omega
  | cons j rest =>
    have := stk_lt u k j (by rw [hs]; simp)
    exact ⟨j, rest, rfl, by rw [stk_close (by rw [md_get hk]; exact h), hs]; rfl, this.1, this.2⟩
theorem stk_end {u : List Md} (hu : okB u u.length = true) (h0 : dep u = 0) : stk u u.length = [] := by
  have := stk_len hu u.length (by omega)
  rw [List.take_length, h0] at this
  exact List.length_eq_zero_iff.1 (by omega)
theorem gone {u : List Md} {p j : Nat} {rest : List Nat} (h : stk u p = j :: rest) (hp : (md u p).c = 93) : ∀ d, j ∉ stk u (p + 1 + d)
  | 0 => by
    have hpw := stk_pw u p
    rw [h, List.pairwise_cons] at hpw
    rw [Nat.add_zero, stk_close hp, h]
    intro hj
    have := hpw.1 j hj
    omega
  | d + 1 => by
    have ih := gone h hp d
    have hj := (stk_lt u p j (by rw [h]; simp)).1
    rw [← Nat.add_assoc]
    by_cases h1 : (md u (p + 1 + d)).c = 91
    · rw [stk_open h1, List.mem_cons]
      rintro (e | e)
      · omega
      · exact ih e
    · by_cases h2 : (md u (p + 1 + d)).c = 93
      · rw [stk_close h2]; exact fun e => ih (List.mem_of_mem_tail e)
      · rw [stk_else h2 h1]; exact ih
theorem mate_in {u : List Md} {j : Nat} (he : stk u u.length = []) : ∀ d k, k + d = u.length → j ∈ stk u k → ∃ p rest, k ≤ p ∧ p < u.length ∧ (md u p).c = 93 ∧ stk u p = j :: rest
  | 0, k, hk, hj => by
    rw [show k = u.length by omega, he] at hj; simp at hj
  | d + 1, k, hk, hj => by
    by_cases h : j ∈ stk u (k + 1)
    · obtain ⟨p, rest, h1, h2⟩ := mate_in he d (k + 1) (by omega) h
      exact ⟨p, rest, by omega, h2⟩
    · by_cases h1 : (md u k).c = 91
      · rw [stk_open h1] at h; simp [hj] at h
      · by_cases h2 : (md u k).c = 93
        · rw [stk_close h2] at h
          cases hs : stk u k with
          | nil => rw [hs] at hj; simp at hj
          | cons a rest =>
            rw [hs] at h hj
            simp only [List.tail_cons] at h
            rw [List.mem_cons] at hj
            rcases hj with rfl | hj
            · exact ⟨k, rest, Nat.le_refl _, by omega, h2, hs⟩
            · exact absurd hj h
        · rw [stk_else h2 h1] at h; exact absurd hj h
theorem open_mate {u : List Md} (hu : okB u u.length = true) (h0 : dep u = 0) {j : Nat} (hj : j < u.length) (h : (md u j).c = 91) : ∃ p rest, j < p ∧ p < u.length ∧ (md u p).c = 93 ∧ stk u p = j :: rest := by
  obtain ⟨p, rest, h1, h2⟩ := mate_in (j := j) (stk_end hu h0) (u.length - (j + 1)) (j + 1) (by omega) (by rw [stk_open h]; simp)
  exact ⟨p, rest, by omega, h2⟩
end
/-- For each bracket, up to a place, the one that belongs to it. -/
def othL (u : List Md) : Nat → List Int
  | 0 => List.replicate u.length 0
  | k + 1 => if (md u k).c = 93 then ((othL u k).set k (((stk u k).headD 0 : Nat) : Int)).set ((stk u k).headD 0) (k : Int) else othL u k
theorem othL_length (u : List Md) : ∀ k, (othL u k).length = u.length
  | 0 => by simp [othL]
  | k + 1 => by
    rw [othL]; split
    · rw [List.length_set, List.length_set]; exact othL_length u k
    · exact othL_length u k
theorem othL_else {u : List Md} {k : Nat} (h : (md u k).c ≠ 93) : othL u (k + 1) = othL u k := by rw [othL, if_neg h]
theorem othL_close {u : List Md} {k j : Nat} {rest : List Nat} (h : (md u k).c = 93) (hs : stk u k = j :: rest) : othL u (k + 1) = ((othL u k).set k (j : Int)).set j (k : Int) := by
  rw [othL, if_pos h, hs]; rfl
theorem getD_set {l : List Int} {i j : Nat} {x : Int} (hi : i < l.length) : (l.set i x).getD j 0 = if i = j then x else l.getD j 0 := by
  simp only [List.getD_eq_getElem?_getD, List.getElem?_set]
  split
  · rename_i h; subst h; simp [hi]
  · rfl
theorem oth_ok {u : List Md} (hu : okB u u.length = true) : ∀ k, k ≤ u.length → ∀ p, p < k → (md u p).c = 93 → ∃ j rest, stk u p = j :: rest ∧ (othL u k).getD p 0 = (j : Int) ∧ (othL u k).getD j 0 = (p : Int)
  | 0, _, p, hp, _ => by omega
  | k + 1, hk, p, hp, hc => by
    by_cases h2 : (md u k).c = 93
    · obtain ⟨j, rest, hs, hs', hjk, hjo⟩ := stk_top hu (show k < u.length by omega) h2
      rw [othL_close h2 hs]
      have l1 : k < (othL u k).length := by rw [othL_length]; omega
      have l2 : j < ((othL u k).set k (j : Int)).length := by rw [List.length_set, othL_length]; omega
      rcases Nat.lt_or_eq_of_le (Nat.le_of_lt_succ hp) with h | h
      · obtain ⟨j', rest', g1, g2, g3⟩ := oth_ok hu k (by omega) p h hc
        have gj := stk_lt u p j' (by rw [g1]; simp)
        have hne : j ≠ j' := by
          intro e
          subst e
          have := gone g1 hc (k - (p + 1))
          rw [show p + 1 + (k - (p + 1)) = k by omega, hs] at this
          simp at this
        have hpj : j ≠ p := by intro e; subst e; rw [hc] at hjo; simp at hjo
        refine ⟨j', rest', g1, ?_, ?_⟩
        · rw [getD_set l2, if_neg hpj, getD_set l1, if_neg (by omega)]; exact g2
        · rw [getD_set l2, if_neg hne, getD_set l1, if_neg (by omega)]; exact g3
      · subst h
        refine ⟨j, rest, hs, ?_, ?_⟩
        · rw [getD_set l2, if_neg (by omega), getD_set l1, if_pos rfl]
        · rw [getD_set l2, if_pos rfl]
    · rw [othL_else h2]
      rcases Nat.lt_or_eq_of_le (Nat.le_of_lt_succ hp) with h | h
      · exact oth_ok hu k (by omega) p h hc
      · subst h; exact absurd hc h2
/-- To the left, over a branch. -/
theorem bf_stk {g : Bs} {u : List Md} : ∀ (k c : Nat) (s : Nat), (stk u k)[c]? = some s → bfF g u k ((c : Int) + 1) = bfF g u s 0
  | 0, c, s, h => by simp [stk] at h
  | k + 1, c, s, h => by
    by_cases h1 : (md u k).c = 91
    · rw [stk_open h1] at h
      rw [bf_open h1 (by omega)]
      cases c with
      | zero => simp at h; subst h; simp
      | succ c =>
        rw [List.getElem?_cons_succ] at h
        have := bf_stk (g := g) k c s h
        rw [← this]; congr 1; omega
    · by_cases h2 : (md u k).c = 93
      · rw [stk_close h2] at h
        rw [bf_close h2]
        have := bf_stk (g := g) k (c + 1) s (by rw [← h, List.getElem?_tail])
        rw [← this]; congr 1
      · rw [stk_else h2 h1] at h
        rw [bf_pass h2 h1 (.inl (by omega))]
        exact bf_stk k c s h
/-- To the right, over a branch. -/
theorem bh_stk {g : Bs} {u : List Md} {p j : Nat} {rest : List Nat} (hpu : p < u.length) (hp : (md u p).c = 93) (hs : stk u p = j :: rest) :
    ∀ d k, k + d = p → j < k → ∃ a : List Nat, stk u k = a ++ j :: rest ∧ bhd g u k ((a.length : Int) + 1) = bhd g u (p + 1) 0
  | 0, k, hk, hj => by
    obtain rfl : k = p := by omega
    refine ⟨[], hs, ?_⟩
    rw [bh_close hpu hp (by simp)]; rfl
  | d + 1, k, hk, hj => by
    obtain ⟨a, h1, h2⟩ := bh_stk (g := g) hpu hp hs d (k + 1) (by omega) (by omega)
    have hku : k < u.length := by omega
    by_cases c1 : (md u k).c = 91
    · rw [stk_open c1] at h1
      cases a with
      | nil => simp at h1; omega
      | cons x a =>
        rw [List.cons_append, List.cons.injEq] at h1
        refine ⟨a, h1.2, ?_⟩
        rw [bh_open hku c1, ← h2]
        congr 1 <;> simp
    · by_cases c2 : (md u k).c = 93
      · rw [stk_close c2] at h1
        cases hx : stk u k with
        | nil => rw [hx] at h1; simp at h1
        | cons x t =>
          rw [hx, List.tail_cons] at h1
          refine ⟨x :: a, by rw [h1]; rfl, ?_⟩
          rw [bh_close hku c2 (by simp; omega), ← h2]
          congr 1; simp
      · rw [stk_else c2 c1] at h1
        refine ⟨a, h1, ?_⟩
        rw [bh_pass hku c2 c1 (.inl (by omega))]; exact h2
theorem bh_mate {g : Bs} {u : List Md} {p j : Nat} {rest : List Nat} (hpu : p < u.length) (hp : (md u p).c = 93) (hs : stk u p = j :: rest) : bhd g u (j + 1) 1 = bhd g u (p + 1) 0 := by
  have hj := stk_lt u p j (by rw [hs]; simp)
  obtain ⟨a, h1, h2⟩ := bh_stk (g := g) hpu hp hs (p - (j + 1)) (j + 1) (by omega) (by omega)
  rw [stk_open hj.2] at h1
  cases a with
  | nil => simpa using h2
  | cons x a =>
    rw [List.cons_append, List.cons.injEq] at h1
    have := stk_lt u j j (by rw [h1.2]; simp)
    omega
/-- The neighbour at the left of a module behind a closed branch. -/
theorem bef_close {g : Bs} {u : List Md} (hu : okB u u.length = true) {k : Nat} (hk : k < u.length) (h : (md u k).c = 93) : ∃ j : Nat, j < k ∧ (othL u u.length).getD k 0 = (j : Int) ∧ bef g u (k + 1) = bef g u j := by
  obtain ⟨j, rest, h1, h2, h3⟩ := oth_ok hu u.length (Nat.le_refl _) k hk h
  refine ⟨j, (stk_lt u k j (by rw [h1]; simp)).1, h2, ?_⟩
  unfold bef
  rw [bf_close h]
  have := bf_stk (g := g) (u := u) k 0 j (by rw [h1]; rfl)
  simpa using this
theorem beh_open {g : Bs} {u : List Md} (hu : okB u u.length = true) (h0 : dep u = 0) {k : Nat} (hk : k < u.length) (h : (md u k).c = 91) : ∃ p : Nat, k < p ∧ p < u.length ∧ (othL u u.length).getD k 0 = (p : Int) ∧ bhd g u k 0 = beh g u p := by
  obtain ⟨p, rest, h1, h2, h3, h4⟩ := open_mate hu h0 hk h
  obtain ⟨j, rest', g1, g2, g3⟩ := oth_ok hu u.length (Nat.le_refl _) p h2 h3
  rw [h4, List.cons.injEq] at g1
  refine ⟨p, h1, h2, by rw [g1.1]; exact g3, ?_⟩
  rw [bh_open hk h, Int.zero_add]
  exact bh_mate h2 h3 h4
/-! The theorem of neighbours. -/
theorem bf_rng {g : Bs} {u : List Md} : ∀ (k : Nat) (c : Int), bfF g u k c = -1 ∨ ∃ a : Nat, bfF g u k c = (a : Int) ∧ a < k ∧ (md u a).c ≠ 91 ∧ (md u a).c ≠ 93 ∧ hasB g (md u a).c = false
  | 0, c => .inl rfl
  | k + 1, c => by
    have lift : ∀ c', (bfF g u k c' = -1 ∨ ∃ a : Nat, bfF g u k c' = (a : Int) ∧ a < k ∧ (md u a).c ≠ 91 ∧ (md u a).c ≠ 93 ∧ hasB g (md u a).c = false) → (bfF g u k c' = -1 ∨ ∃ a : Nat, bfF g u k c' = (a : Int) ∧ a < k + 1 ∧ (md u a).c ≠ 91 ∧ (md u a).c ≠ 93 ∧ hasB g (md u a).c = false) := by
      rintro c' (h | ⟨a, h1, h2, h3⟩)
      · exact .inl h
      · exact .inr ⟨a, h1, by omega, h3⟩
    rw [bfF]
    split
    · exact lift _ (bf_rng k _)
    · split
      · exact lift _ (bf_rng k _)
      · split
        · rename_i h1 h2 h3
          exact .inr ⟨k, rfl, by omega, h2, h1, h3.2⟩
        · exact lift _ (bf_rng k _)
theorem bh_rng {g : Bs} {u : List Md} : ∀ (d k : Nat) (c : Int), k + d = u.length → bhd g u k c = -1 ∨ ∃ a : Nat, bhd g u k c = (a : Int) ∧ k ≤ a ∧ a < u.length ∧ (md u a).c ≠ 91 ∧ (md u a).c ≠ 93 ∧ hasB g (md u a).c = false
  | 0, k, c, h => .inl (bh_out (by omega))
  | d + 1, k, c, h => by
    have hk : k < u.length := by omega
    have lift : ∀ c', (bhd g u (k + 1) c' = -1 ∨ ∃ a : Nat, bhd g u (k + 1) c' = (a : Int) ∧ k ≤ a ∧ a < u.length ∧ (md u a).c ≠ 91 ∧ (md u a).c ≠ 93 ∧ hasB g (md u a).c = false) := by
      intro c'
      rcases bh_rng (g := g) (u := u) d (k + 1) c' (by omega) with h | ⟨a, h1, h2, h3⟩
      · exact .inl h
      · exact .inr ⟨a, h1, by omega, h3⟩
    by_cases c1 : (md u k).c = 91
    · rw [bh_open hk c1]; exact lift _
    · by_cases c2 : (md u k).c = 93
      · by_cases c0 : c = 0
        · subst c0; rw [bh_end hk c2]; exact .inl rfl
        · rw [bh_close hk c2 c0]; exact lift _
      · by_cases c3 : c = 0 ∧ hasB g (md u k).c = false
        · obtain ⟨rfl, c3⟩ := c3
          rw [bh_stop hk c2 c1 c3]; exact .inr ⟨k, rfl, by omega, hk, c1, c2, c3⟩
        · rw [bh_pass hk c2 c1]
          · exact lift _
          · by_cases c4 : c = 0
            · right
              cases hh : hasB g (md u k).c
              · exact absurd ⟨c4, hh⟩ c3
              · rfl
            · exact .inl c4
/-- What stands to the right has this place at its left. -/
theorem bh_back {g : Bs} {u : List Md} {b : Nat} : ∀ (d k : Nat) (o : Int), k + d = u.length → 0 ≤ o → bhd g u k o = (b : Int) → bfF g u b 0 = bfF g u k o
  | 0, k, o, h, ho, hb => by rw [bh_out (by omega)] at hb; omega
  | d + 1, k, o, h, ho, hb => by
    have hk : k < u.length := by omega
    by_cases c1 : (md u k).c = 91
    · rw [bh_open hk c1] at hb
      rw [bh_back d (k + 1) (o + 1) (by omega) (by omega) hb, bf_open c1 (by omega)]
      congr 1; omega
    · by_cases c2 : (md u k).c = 93
      · by_cases c0 : o = 0
        · subst c0; rw [bh_end hk c2] at hb; omega
        · rw [bh_close hk c2 c0] at hb
          rw [bh_back d (k + 1) (o - 1) (by omega) (by omega) hb, bf_close c2]
          congr 1; omega
      · by_cases c3 : o = 0 ∧ hasB g (md u k).c = false
        · obtain ⟨rfl, c3⟩ := c3
          rw [bh_stop hk c2 c1 c3] at hb
          have : k = b := by omega
          rw [this]
        · have c4 : o ≠ 0 ∨ hasB g (md u k).c = true := by
            by_cases c4 : o = 0
            · right
              cases hh : hasB g (md u k).c
              · exact absurd ⟨c4, hh⟩ c3
              · rfl
            · exact .inl c4
          rw [bh_pass hk c2 c1 c4] at hb
          rw [bh_back d (k + 1) o (by omega) ho hb, bf_pass c2 c1 c4]
theorem beh_bef {g : Bs} {u : List Md} {i b : Nat} (hi : i < u.length) (h1 : (md u i).c ≠ 93) (h2 : (md u i).c ≠ 91) (h3 : hasB g (md u i).c = false) (hb : beh g u i = (b : Int)) : bef g u b = i := by
  unfold bef
  rw [bh_back (u.length - (i + 1)) (i + 1) 0 (by omega) (Int.le_refl _) hb]
  exact bf_stop h1 h2 h3
end CM
end Go.Proofs.YtcoljbcjnggagaaGreatDoor
namespace Go.Proofs.YtcoljbcjnggagaaGreatDoor
open WM
set_option linter.unusedVariables false
set_option linter.unusedSimpArgs false
namespace RM

def zerM (c : UInt8) (n : Nat) : Md := ⟨c, List.replicate n 0⟩
/-- The module that the package lays for a shape. -/
def blM (s : Sh) : Md := zerM s.c (min s.a.length 5)
theorem rng_zer (n : Nat) : rngB (List.replicate n 0) = true := by
  rw [rngB_iff]; intro x hx
  have := List.eq_of_mem_replicate hx
  omega
theorem fine_zer (c : UInt8) (n : Nat) : fineB (zerM c n) = (letB c && decide (n ≤ 4) && !(braB c && decide (0 < n))) := by
  simp [fineB, zerM, rng_zer]
theorem fine_bl (s : Sh) : fineB (blM s) = fineB (shM s) := by
  have e : shM s = zerM s.c s.a.length := rfl
  rw [e, blM, fine_zer, fine_zer]
  have h1 : decide (min s.a.length 5 ≤ 4) = decide (s.a.length ≤ 4) := by rw [decide_eq_decide]; omega
  have h2 : decide (0 < min s.a.length 5) = decide (0 < s.a.length) := by rw [decide_eq_decide]; omega
  rw [h1, h2]
theorem dlt_c {a b : Md} (h : a.c = b.c) : dlt a = dlt b := by unfold dlt; rw [h]
theorem dep_map {α : Type} (f g : α → Md) (h : ∀ x, (f x).c = (g x).c) : ∀ l : List α, dep (l.map f) = dep (l.map g)
  | [] => rfl
  | x :: l => by rw [List.map_cons, List.map_cons, dep_cons, dep_cons, dep_map f g h l, dlt_c (h x)]
theorem ok_map {α : Type} (f g : α → Md) (h : ∀ x, (f x).c = (g x).c) (l : List α) (k : Nat) : okB (l.map f) k = okB (l.map g) k := by
  rw [Bool.eq_iff_iff, okB_iff, okB_iff]
  have e : ∀ i, dep ((l.map f).take (i + 1)) = dep ((l.map g).take (i + 1)) := fun i => by rw [← List.map_take, ← List.map_take, dep_map f g h]
  constructor
  · intro h1 i hi; rw [← e i]; exact h1 i hi
  · intro h1 i hi; rw [e i]; exact h1 i hi
theorem chk_bl {out : List Sh} (hl : out.length ≤ 2000) : decide (chk (out.map blM) = 0) = (out.all (fun s => fineB (shM s)) && decide (chk (out.map shM) = 0)) := by
  have hc : ∀ s : Sh, (blM s).c = (shM s).c := fun _ => rfl
  rw [Bool.eq_iff_iff, decide_eq_true_iff, Bool.and_eq_true, decide_eq_true_iff, chk_zero, chk_zero]
  rw [List.length_map, List.length_map, ok_map blM shM hc, dep_map blM shM hc, List.all_map, List.all_map]
  have e : (fineB ∘ blM) = fun s => fineB (shM s) := by funext s; exact fine_bl s
  have e2 : (fineB ∘ shM) = fun s => fineB (shM s) := rfl
  rw [e, e2]
  constructor
  · rintro ⟨h1, h2, h3, h4⟩; exact ⟨h2, h1, h2, h3, h4⟩
  · rintro ⟨_, h1, h2, h3, h4⟩; exact ⟨h1, h2, h3, h4⟩
/-- valid's answer. -/
def validB (r : Rw) : Bool := letB r.c && !(braB r.c) && decide (0 ≤ r.ar) && decide (r.ar ≤ 4) && plainB r && r.gs.all (formB · r.ar) && decide (chk (r.out.map blM) = 0) && r.out.all (fun s => s.a.all (formB · r.ar))
theorem sh_all (out : List Sh) (n : Int) : out.all (shB · n) = (out.all (fun s => fineB (shM s)) && out.all (fun s => s.a.all (formB · n))) := by
  induction out with
  | nil => rfl
  | cons s l ih =>
    rw [List.all_cons, List.all_cons, List.all_cons, ih]
    unfold shB
    cases fineB (shM s) <;> cases s.a.all (formB · n) <;> simp
theorem validB_eq {r : Rw} (hl : r.out.length ≤ 2000) : validB r = (ruleB r && plainB r) := by
  unfold validB ruleB
  rw [chk_bl hl, sh_all]
  cases letB r.c <;> cases braB r.c <;> cases decide (0 ≤ r.ar) <;> cases decide (r.ar ≤ 4) <;> cases plainB r <;> cases r.gs.all (formB · r.ar) <;> cases r.out.all (fun s => fineB (shM s)) <;> cases r.out.all (fun s => s.a.all (formB · r.ar)) <;> cases decide (chk (r.out.map shM) = 0) <;> rfl
theorem dep_one (m : Md) : dep [m] = dlt m := by rw [dep_cons, dep_nil]; omega
theorem ok_one (m : Md) : okB [m] 1 = decide (0 ≤ dlt m) := by rw [okB_succ, okB_zero, Bool.true_and]; rw [show ([m] : List Md).take (0 + 1) = [m] from rfl, dep_one]
/-- A module alone is a word where it is no bracket. -/
theorem chk_let (c : UInt8) : decide (chk [⟨c, []⟩] = 0) = (letB c && !(braB c)) := by
  rw [Bool.eq_iff_iff, decide_eq_true_iff, chk_zero]
  have hf : ([⟨c, []⟩] : List Md).all fineB = letB c := by simp [fineB, rngB]
  rw [hf, dep_one, show ([⟨c, []⟩] : List Md).length = 1 from rfl, ok_one]
  have hd : (0 ≤ dlt ⟨c, []⟩ ∧ dlt ⟨c, []⟩ = 0) ↔ braB c = false := by
    unfold dlt braB
    by_cases h1 : c = 91
    · subst h1; decide
    · by_cases h2 : c = 93
      · subst h2; decide
      · simp [h1, h2]
  rw [Bool.and_eq_true, Bool.not_eq_true', decide_eq_true_iff]
  constructor
  · rintro ⟨_, h2, h3, h4⟩; exact ⟨h2, hd.1 ⟨h3, h4⟩⟩
  · rintro ⟨h1, h2⟩
    obtain ⟨h3, h4⟩ := hd.2 h2
    exact ⟨by omega, h1, h3, h4⟩
/-- A module alone is told bad exactly if it is no valid module. -/
theorem chk_one (m : Md) : (chk [m] == 8) = !(fineB m) := by
  cases h : fineB m with
  | false =>
    rw [chk_bad (by simp) (by simp [h])]; rfl
  | true =>
    have h1 : ([m] : List Md).all fineB = true := by simp [h]
    cases h2 : (okB [m] ([m] : List Md).length && decide (dep [m] = 0)) with
    | false => rw [chk_open (by simp) h1 h2]; rfl
    | true =>
      have : chk [m] = 0 := by unfold chk; rw [if_neg (by simp), if_neg (by simp [h]), if_pos h2]
      rw [this]; rfl
/-- Check's answer, as the package finds it. -/
theorem rchk_valid {l : List Rw} (h : manyB l = false) : rchk l = if l.all validB = true then 0 else 8 := by
  have e : l.all validB = l.all (fun r => ruleB r && plainB r) := by
    unfold manyB at h
    simp only [Bool.or_eq_false_iff] at h
    have h2 := List.any_eq_false.1 h.2
    apply Bool.eq_iff_iff.2
    rw [List.all_eq_true, List.all_eq_true]
    have key : ∀ r ∈ l, validB r = (ruleB r && plainB r) := fun r hr => validB_eq (by
      have := h2 r hr
      simp only [Bool.or_eq_true, decide_eq_true_eq, not_or, Nat.not_lt] at this
      omega)
    constructor
    · intro h3 r hr; rw [← key r hr]; exact h3 r hr
    · intro h3 r hr; rw [key r hr]; exact h3 r hr
  unfold rchk
  rw [if_neg (by rw [h]; decide), e]
/-- What the modules become, one by one: none where an arg is out of range. -/
def shO (s : Sh) (x : List Int) : Option Md := if mkB s x = true then some (mkM s x) else none
def sucO (l : List Rw) (m : Md) : List (Option Md) := if h : 0 ≤ first l m then (match l[(first l m).toNat]? with | some r => r.out.map (shO · m.a) | none => []) else [some m]
def seqO (l : List Rw) (w : List Md) : List (Option Md) := w.flatMap (sucO l)
def allO : List (Option Md) → Option (List Md)
  | [] => some []
  | none :: _ => none
  | some m :: l => (allO l).map (m :: ·)
theorem allO_app : ∀ a b : List (Option Md), allO (a ++ b) = (match allO a, allO b with | some x, some y => some (x ++ y) | _, _ => none)
  | [], b => by cases h : allO b <;> simp [allO, h]
  | none :: a, b => by simp [allO]
  | some m :: a, b => by
    simp only [List.cons_append, allO]
    rw [allO_app a b]
    cases allO a <;> cases allO b <;> simp
theorem allO_some (d : List Md) : allO (d.map some) = some d := by
  induction d with
  | nil => rfl
  | cons m d ih => simp [allO, ih]
theorem allO_none {a : List (Option Md)} (h : none ∈ a) : allO a = none := by
  induction a with
  | nil => simp at h
  | cons o a ih =>
    cases o with
    | none => rfl
    | some m =>
      simp only [List.mem_cons, reduceCtorEq, false_or] at h
      simp [allO, ih h]
theorem allO_map (out : List Sh) (x : List Int) : allO (out.map (shO · x)) = if out.all (mkB · x) = true then some (out.map (mkM · x)) else none := by
  induction out with
  | nil => rfl
  | cons s out ih =>
    rw [List.map_cons, List.all_cons, List.map_cons]
    cases h : mkB s x with
    | false =>
      rw [show shO s x = none by unfold shO; rw [if_neg (by rw [h]; decide)]]
      simp [allO]
    | true =>
      rw [show shO s x = some (mkM s x) by unfold shO; rw [if_pos h]]
      rw [allO, ih, Bool.true_and]
      split <;> rfl
theorem allO_suc (l : List Rw) (m : Md) (hb : first l m < l.length) : allO (sucO l m) = succM l m := by
  unfold sucO succM
  by_cases h : 0 ≤ first l m
  · rw [dif_pos h, dif_pos h]
    have hk : (first l m).toNat < l.length := by omega
    rw [List.getElem?_eq_getElem hk]
    exact allO_map _ _
  · rw [dif_neg h, dif_neg h]; rfl
theorem first_lt (l : List Rw) (m : Md) : first l m < l.length := by
  rcases firstF_rng l m 0 with h | h <;> unfold first <;> omega
/-- A word's successor, by its sequence. -/
theorem allO_seq (l : List Rw) : ∀ w : List Md, allO (seqO l w) = stepL l w
  | [] => rfl
  | m :: w => by
    have e : seqO l (m :: w) = sucO l m ++ seqO l w := rfl
    rw [e, allO_app, allO_suc l m (first_lt l m), allO_seq l w]
    rfl
theorem seqO_snoc {l : List Rw} {w : List Md} {k : Nat} (hk : k < w.length) : seqO l (w.take (k + 1)) = seqO l (w.take k) ++ sucO l w[k] := by
  unfold seqO
  rw [List.take_succ_eq_append_getElem hk, List.flatMap_append, List.flatMap_cons, List.flatMap_nil, List.append_nil]
theorem seqO_pre (l : List Rw) (w : List Md) (k : Nat) : seqO l (w.take k) <+: seqO l w := by
  refine ⟨seqO l (w.drop k), ?_⟩
  unfold seqO
  rw [← List.flatMap_append, List.take_append_drop]
theorem sucO_self {l : List Rw} {m : Md} (h : first l m < 0) : sucO l m = [some m] := by unfold sucO; rw [dif_neg (by omega)]
theorem sucO_made {l : List Rw} {m : Md} {k : Nat} (h : first l m = (k : Int)) (hk : k < l.length) : sucO l m = l[k].out.map (shO · m.a) := by
  unfold sucO
  rw [dif_pos (by omega)]
  have : (first l m).toNat = k := by omega
  rw [this, List.getElem?_eq_getElem hk]
theorem sucO_len {l : List Rw} (h : ∀ r ∈ l, r.out.length ≤ 20) (m : Md) : (sucO l m).length ≤ 20 := by
  unfold sucO
  split
  · split
    · rename_i r hr
      rw [List.length_map]; exact h r (List.mem_of_getElem? hr)
    · simp
  · simp
theorem seqO_len {l : List Rw} (h : ∀ r ∈ l, r.out.length ≤ 20) (w : List Md) : (seqO l w).length ≤ 20 * w.length := by
  induction w with
  | nil => simp [seqO]
  | cons m w ih =>
    have e : seqO l (m :: w) = sucO l m ++ seqO l w := rfl
    have := sucO_len h m
    rw [e, List.length_append, List.length_cons]; omega
end RM
end Go.Proofs.YtcoljbcjnggagaaGreatDoor
namespace Go.Proofs.YtcoljbcjnggagaaGreatDoor
open Go.RowKit
open WM RM
set_option linter.unusedVariables false
set_option linter.unusedSimpArgs false

inductive Fms (w : World) : Value → List Fm → Prop
  | none (p : Option Addr) (cap : Nat) : Fms w (.slice p 0 cap) []
  | some (b off cap : Nat) (l : List Fm) (hpos : 0 < l.length) (hb : b < w.heap.size)
      (h : ∀ i, (h : i < l.length) → w.cell? ⟨b, off + i * 2, Option.none⟩ = Option.some (.int .i64 l[i].k) ∧
        ∃ v, w.cell? ⟨b, off + i * 2 + 1, Option.none⟩ = Option.some v ∧ Ints w v l[i].cs) :
      Fms w (.slice (Option.some ⟨b, off, Option.none⟩) l.length cap) l
theorem Fms.later {w w1 : World} {v : Value} {l : List Fm} (h : Fms w v l) (hb : Below w.heap.size w w1) : Fms w1 v l := by
  cases h with
  | none p cap => exact .none p cap
  | some b off cap _ hpos hlt hx =>
    refine .some b off cap l hpos (Nat.lt_of_lt_of_le hlt hb.size) fun i hi => ?_
    obtain ⟨h1, v, h2, h3⟩ := hx i hi
    exact ⟨(hb.cell (p := ⟨b, off + i * 2, Option.none⟩) hlt).trans h1, v, (hb.cell (p := ⟨b, off + i * 2 + 1, Option.none⟩) hlt).trans h2, h3.later hb⟩
theorem Fms.slice {w : World} {v : Value} {l : List Fm} (h : Fms w v l) : ∃ p cap, v = .slice p l.length cap := by
  cases h with
  | none p cap => exact ⟨p, cap, rfl⟩
  | some b off cap _ _ _ _ => exact ⟨_, cap, rfl⟩
theorem Fms.at {w : World} {v : Value} {l : List Fm} (h : Fms w v l) {k : Nat} (hk : k < l.length) :
    ∃ b off cap p c, v = .slice (Option.some ⟨b, off, Option.none⟩) l.length cap ∧ w.cell? ⟨b, off + k * 2, Option.none⟩ = Option.some (.int .i64 l[k].k) ∧
      w.cell? ⟨b, off + k * 2 + 1, Option.none⟩ = Option.some (.slice p l[k].cs.length c) ∧ Ints w (.slice p l[k].cs.length c) l[k].cs ∧ b < w.heap.size := by
  cases h with
  | none p cap => simp at hk
  | some b off cap _ _ hb hx =>
    obtain ⟨h1, v, h2, h3⟩ := hx k hk
    obtain ⟨p, c, rfl⟩ := h3.slice
    exact ⟨b, off, cap, p, c, rfl, h1, h2, h3, hb⟩
inductive Shs (w : World) : Value → List Sh → Prop
  | none (p : Option Addr) (cap : Nat) : Shs w (.slice p 0 cap) []
  | some (b off cap : Nat) (l : List Sh) (hpos : 0 < l.length) (hb : b < w.heap.size)
      (h : ∀ i, (h : i < l.length) → w.cell? ⟨b, off + i * 2, Option.none⟩ = Option.some (.int .u8 l[i].c.toNat) ∧
        ∃ v, w.cell? ⟨b, off + i * 2 + 1, Option.none⟩ = Option.some v ∧ Fms w v l[i].a) :
      Shs w (.slice (Option.some ⟨b, off, Option.none⟩) l.length cap) l
theorem Shs.later {w w1 : World} {v : Value} {l : List Sh} (h : Shs w v l) (hb : Below w.heap.size w w1) : Shs w1 v l := by
  cases h with
  | none p cap => exact .none p cap
  | some b off cap _ hpos hlt hx =>
    refine .some b off cap l hpos (Nat.lt_of_lt_of_le hlt hb.size) fun i hi => ?_
    obtain ⟨h1, v, h2, h3⟩ := hx i hi
    exact ⟨(hb.cell (p := ⟨b, off + i * 2, Option.none⟩) hlt).trans h1, v, (hb.cell (p := ⟨b, off + i * 2 + 1, Option.none⟩) hlt).trans h2, h3.later hb⟩
theorem Shs.slice {w : World} {v : Value} {l : List Sh} (h : Shs w v l) : ∃ p cap, v = .slice p l.length cap := by
  cases h with
  | none p cap => exact ⟨p, cap, rfl⟩
  | some b off cap _ _ _ _ => exact ⟨_, cap, rfl⟩
theorem Shs.at {w : World} {v : Value} {l : List Sh} (h : Shs w v l) {k : Nat} (hk : k < l.length) :
    ∃ b off cap p c, v = .slice (Option.some ⟨b, off, Option.none⟩) l.length cap ∧ w.cell? ⟨b, off + k * 2, Option.none⟩ = Option.some (.int .u8 l[k].c.toNat) ∧
      w.cell? ⟨b, off + k * 2 + 1, Option.none⟩ = Option.some (.slice p l[k].a.length c) ∧ Fms w (.slice p l[k].a.length c) l[k].a ∧ b < w.heap.size := by
  cases h with
  | none p cap => simp at hk
  | some b off cap _ _ hb hx =>
    obtain ⟨h1, v, h2, h3⟩ := hx k hk
    obtain ⟨p, c, rfl⟩ := h3.slice
    exact ⟨b, off, cap, p, c, rfl, h1, h2, h3, hb⟩
inductive Rws (w : World) : Value → List Rw → Prop
  | none (p : Option Addr) (cap : Nat) : Rws w (.slice p 0 cap) []
  | some (b off cap : Nat) (l : List Rw) (hpos : 0 < l.length) (hb : b < w.heap.size)
      (h : ∀ i, (h : i < l.length) → w.cell? ⟨b, off + i * 7, Option.none⟩ = Option.some (.int .u8 l[i].c.toNat) ∧ w.cell? ⟨b, off + i * 7 + 1, Option.none⟩ = Option.some (.int .i64 l[i].ar) ∧
        w.cell? ⟨b, off + i * 7 + 2, Option.none⟩ = Option.some (.int .u8 l[i].l.toNat) ∧ w.cell? ⟨b, off + i * 7 + 3, Option.none⟩ = Option.some (.int .u8 l[i].r.toNat) ∧
        w.cell? ⟨b, off + i * 7 + 5, Option.none⟩ = Option.some (.int .i64 l[i].wt) ∧
        (∃ v, w.cell? ⟨b, off + i * 7 + 4, Option.none⟩ = Option.some v ∧ Fms w v l[i].gs) ∧ (∃ v, w.cell? ⟨b, off + i * 7 + 6, Option.none⟩ = Option.some v ∧ Shs w v l[i].out)) :
      Rws w (.slice (Option.some ⟨b, off, Option.none⟩) l.length cap) l
theorem Rws.later {w w1 : World} {v : Value} {l : List Rw} (h : Rws w v l) (hb : Below w.heap.size w w1) : Rws w1 v l := by
  cases h with
  | none p cap => exact .none p cap
  | some b off cap _ hpos hlt hx =>
    refine .some b off cap l hpos (Nat.lt_of_lt_of_le hlt hb.size) fun i hi => ?_
    obtain ⟨h1, h2, h3, h4, h5, ⟨v, h6, h7⟩, ⟨u, h8, h9⟩⟩ := hx i hi
    have c : ∀ o, w1.cell? ⟨b, o, Option.none⟩ = w.cell? ⟨b, o, Option.none⟩ := fun o => hb.cell (p := ⟨b, o, Option.none⟩) hlt
    exact ⟨(c _).trans h1, (c _).trans h2, (c _).trans h3, (c _).trans h4, (c _).trans h5, ⟨v, (c _).trans h6, h7.later hb⟩, ⟨u, (c _).trans h8, h9.later hb⟩⟩
theorem Rws.slice {w : World} {v : Value} {l : List Rw} (h : Rws w v l) : ∃ p cap, v = .slice p l.length cap := by
  cases h with
  | none p cap => exact ⟨p, cap, rfl⟩
  | some b off cap _ _ _ _ => exact ⟨_, cap, rfl⟩
/-- A rule's cells, at a place. -/
structure RwAt (w : World) (b o : Nat) (r : Rw) (gv ov : Value) : Prop where
  c0 : w.cell? ⟨b, o, Option.none⟩ = Option.some (.int .u8 r.c.toNat)
  c1 : w.cell? ⟨b, o + 1, Option.none⟩ = Option.some (.int .i64 r.ar)
  c2 : w.cell? ⟨b, o + 2, Option.none⟩ = Option.some (.int .u8 r.l.toNat)
  c3 : w.cell? ⟨b, o + 3, Option.none⟩ = Option.some (.int .u8 r.r.toNat)
  c4 : w.cell? ⟨b, o + 4, Option.none⟩ = Option.some gv
  c5 : w.cell? ⟨b, o + 5, Option.none⟩ = Option.some (.int .i64 r.wt)
  c6 : w.cell? ⟨b, o + 6, Option.none⟩ = Option.some ov
  gs : Fms w gv r.gs
  out : Shs w ov r.out
theorem Rws.at {w : World} {v : Value} {l : List Rw} (h : Rws w v l) {k : Nat} (hk : k < l.length) :
    ∃ b off cap p c q d, v = .slice (Option.some ⟨b, off, Option.none⟩) l.length cap ∧ b < w.heap.size ∧ RwAt w b (off + k * 7) l[k] (.slice p l[k].gs.length c) (.slice q l[k].out.length d) := by
  cases h with
  | none p cap => simp at hk
  | some b off cap _ _ hb hx =>
    obtain ⟨h1, h2, h3, h4, h5, ⟨v, h6, h7⟩, ⟨u, h8, h9⟩⟩ := hx k hk
    obtain ⟨p, c, rfl⟩ := h7.slice
    obtain ⟨q, d, rfl⟩ := h9.slice
    exact ⟨b, off, cap, p, c, q, d, rfl, hb, h1, h2, h3, h4, h6, h5, h8, h7, h9⟩
end Go.Proofs.YtcoljbcjnggagaaGreatDoor
namespace Go.Proofs.YtcoljbcjnggagaaGreatDoor
open Go.RowKit
open WM RM
set_option linter.unusedVariables false
set_option linter.unusedSimpArgs false

theorem form_k {f : Fm} {n : Int} (h : coefB f.k = false) : formB f n = false := by simp [formB, h]
theorem form_len {f : Fm} {n : Int} (h : (f.cs.length : Int) ≠ n) : formB f n = false := by simp [formB, h]
theorem form_bad {f : Fm} {n : Int} {i : Nat} (hi : i < f.cs.length) (h : coefB f.cs[i] = false) : formB f n = false := by
  have : f.cs.all coefB = false := by
    rw [List.all_eq_false]
    exact ⟨_, List.getElem_mem hi, by rw [h]; simp⟩
  simp [formB, this]
theorem form_ok {f : Fm} {n : Int} (h1 : coefB f.k = true) (h2 : (f.cs.length : Int) = n) (h : ∀ i, (hi : i < f.cs.length) → coefB f.cs[i] = true) : formB f n = true := by
  have : f.cs.all coefB = true := by
    rw [List.all_eq_true]
    intro x hx
    obtain ⟨j, hj, rfl⟩ := List.mem_iff_getElem.1 hx
    exact h j hj
  simp [formB, h1, h2, this]
theorem form_iff {f : Fm} {n : Int} (h : formB f n = true) : coefB f.k = true ∧ (f.cs.length : Int) = n ∧ f.cs.all coefB = true := by
  unfold formB at h
  simp only [Bool.and_eq_true, decide_eq_true_eq] at h
  exact ⟨h.1.1, h.1.2, h.2⟩
theorem coef_lo {x : Int} (h : x < -1000000) : coefB x = false := by simp [coefB]; omega
theorem coef_hi {x : Int} (h : 1000000 < x) : coefB x = false := by simp [coefB]; omega
set_option maxRecDepth 100000 in
set_option maxHeartbeats 1600000 in
theorem refform_any (f : Fm) (v : Value) (n : Int) (hm : f.cs.length ≤ 9223372036854775807) (w : World) (hv : Ints w v f.cs) :
    Calls Tryz.prog 93 #[.agg #[.int .i64 f.k, v], .int .i64 n] w fun e w' => e = .returned (.bool (formB f n)) ∧ Below w.heap.size w w' := by
  obtain ⟨p, cap, rfl⟩ := hv.slice
  obtain ⟨W0, hW0⟩ : ∃ W, W = w.alloc (.cells #[.int .i64 f.k, .slice p f.cs.length cap] 111) := ⟨_, rfl⟩
  have N0 : W0.heap[w.heap.size]? = some (.cells #[.int .i64 f.k, .slice p f.cs.length cap] 111 (0, 0)) := by rw [hW0]; exact heap_alloc_new _ _
  have B0 : Below w.heap.size w W0 := by rw [hW0]; exact (Below.refl _ _).alloc (Nat.le_refl _) _
  have HB := Lib.hid B0
  have HV0 := Lib.hid (hv.later B0)
  have q0 := cell_two0 N0
  have q1 := cell_two1 N0
  have l1 := lt_of_block N0
  clear N0 B0 hv
  by_cases h1 : f.k < -1000000
  · have HF := Lib.hid (form_k (n := n) (coef_lo h1))
    go_enter Tryz.func93, Tryz.ntmps93
    go_wp2_with fail
    rw [← hW0]
    clear hW0
    go_wp2_with fail
    go_ret
    exact ⟨ret_bool HF.out.symm, HB.out⟩
  by_cases h2 : 1000000 < f.k
  · have HF := Lib.hid (form_k (n := n) (coef_hi h2))
    go_enter Tryz.func93, Tryz.ntmps93
    go_wp2_with fail
    rw [← hW0]
    clear hW0
    go_wp2_with fail
    go_ret
    exact ⟨ret_bool HF.out.symm, HB.out⟩
  by_cases h3 : (f.cs.length : Int) = n
  · have HK : Hid (coefB f.k = true) := Lib.hid (coefB_iff.2 ⟨by omega, by omega⟩)
    subst h3
    go_enter Tryz.func93, Tryz.ntmps93
    go_wp2_with fail
    rw [← hW0]
    clear hW0
    go_wp2_with fail
    go_loop [5] (fun i => ∃ k : Nat, k ≤ f.cs.length ∧ i = .int .i64 k ∧ ∀ j, (h : j < f.cs.length) → j < k → coefB f.cs[j] = true) (fun i => f.cs.length - (intOf i).toNat)
    case atStart => exact ⟨0, Nat.zero_le _, rfl, fun j _ h => by omega⟩
    case round =>
      obtain ⟨k, hk, rfl, hok⟩ := hrel
      have HO := Lib.hid hok
      clear hok
      by_cases hlt : k < f.cs.length
      · obtain ⟨b, off, cap', hp, e1, lb⟩ := HV0.out.at hlt
        obtain rfl : p = some ⟨b, off, none⟩ := by cases hp; rfl
        have k1 : (k : Int) < (f.cs.length : Int) := by omega
        clear hp
        by_cases h4 : f.cs[k] < -1000000
        · have HF := Lib.hid (form_bad (n := (f.cs.length : Int)) hlt (coef_lo h4))
          obtain ⟨x, hx⟩ : ∃ x, f.cs[k] = x := ⟨_, rfl⟩
          rw [hx] at h4 e1
          clear hx
          go_wp2_with fail
          go_ret
          exact ⟨ret_bool HF.out.symm, HB.out⟩
        · by_cases h5 : 1000000 < f.cs[k]
          · have HF := Lib.hid (form_bad (n := (f.cs.length : Int)) hlt (coef_hi h5))
            obtain ⟨x, hx⟩ : ∃ x, f.cs[k] = x := ⟨_, rfl⟩
            rw [hx] at h4 h5 e1
            clear hx
            go_wp2_with fail
            go_ret
            exact ⟨ret_bool HF.out.symm, HB.out⟩
          · have HG : Hid (∀ j, (h : j < f.cs.length) → j < k + 1 → coefB f.cs[j] = true) := Lib.hid (fun j h hj => by
              rcases Nat.lt_or_eq_of_le (Nat.le_of_lt_succ hj) with h6 | h6
              · exact HO.out j h h6
              · subst h6; exact coefB_iff.2 ⟨by omega, by omega⟩)
            obtain ⟨x, hx⟩ : ∃ x, f.cs[k] = x := ⟨_, rfl⟩
            rw [hx] at h4 h5 e1
            clear hx
            go_wp2_with fail
            go_round
            case rel => exact ⟨k + 1, by omega, by go_num, HG.out⟩
            case measure => simp [intOf]; omega
      · obtain rfl : k = f.cs.length := by omega
        have HF := Lib.hid (form_ok HK.out rfl (fun i hi => HO.out i hi hi))
        go_wp2_with fail
        go_ret
        exact ⟨ret_bool HF.out.symm, HB.out⟩
  · have HF := Lib.hid (form_len h3)
    go_enter Tryz.func93, Tryz.ntmps93
    go_wp2_with fail
    rw [← hW0]
    clear hW0
    go_wp2_with fail
    go_ret
    exact ⟨ret_bool HF.out.symm, HB.out⟩
end Go.Proofs.YtcoljbcjnggagaaGreatDoor
namespace Go.Proofs.YtcoljbcjnggagaaGreatDoor
open Go.RowKit
open WM RM
set_option linter.unusedVariables false
set_option linter.unusedSimpArgs false

theorem fit_name {r : Rw} {m : Md} (h : r.c ≠ m.c) : fitB r m = false := by simp [fitB, h]
theorem fit_len {r : Rw} {m : Md} (h : r.ar ≠ (m.a.length : Int)) : fitB r m = false := by simp [fitB, h]
theorem fit_neg {r : Rw} {m : Md} {i : Nat} (hi : i < r.gs.length) (h : worth r.gs[i] m.a < 0) : fitB r m = false := by
  have : (r.gs.all fun g => decide (0 ≤ worth g m.a)) = false := by
    rw [List.all_eq_false]
    exact ⟨_, List.getElem_mem hi, by simp; omega⟩
  simp [fitB, this]
theorem fit_ok {r : Rw} {m : Md} (h1 : r.c = m.c) (h2 : r.ar = (m.a.length : Int)) (h : ∀ i, (hi : i < r.gs.length) → 0 ≤ worth r.gs[i] m.a) : fitB r m = true := by
  have : (r.gs.all fun g => decide (0 ≤ worth g m.a)) = true := by
    rw [List.all_eq_true]
    intro x hx
    obtain ⟨j, hj, rfl⟩ := List.mem_iff_getElem.1 hx
    simpa using h j hj
  simp [fitB, h1, h2, this]
theorem fine_args4 {m : Md} (h : fineB m = true) : m.a.length ≤ 4 ∧ ∀ x ∈ m.a, -1000000000 ≤ x ∧ x ≤ 1000000000 := by
  unfold fineB at h
  simp only [Bool.and_eq_true, decide_eq_true_eq] at h
  exact ⟨h.1.1.2, rngB_iff.1 h.2⟩
/-- A rule as a value. -/
def rwV (r : Rw) (gv ov : Value) : Value := .agg #[.int .u8 r.c.toNat, .int .i64 r.ar, .int .u8 r.l.toNat, .int .u8 r.r.toNat, gv, .int .i64 r.wt, ov]
end Go.Proofs.YtcoljbcjnggagaaGreatDoor
namespace Go.Proofs.YtcoljbcjnggagaaGreatDoor
open Go.RowKit
open WM RM
set_option linter.unusedVariables false
set_option linter.unusedSimpArgs false

theorem va_bad {f : Fm} {x : List Int} (h : 4 < x.length ∨ formB f (x.length : Int) = false ∨ fineB ⟨70, x⟩ = false) : vaC f x = 8 ∧ vaV f x = 0 := by
  have e : vaC f x = 8 := by unfold vaC; rw [if_pos h]
  exact ⟨e, by unfold vaV; rw [e]; rfl⟩
theorem va_good {f : Fm} {x : List Int} (h1 : ¬ 4 < x.length) (h2 : formB f (x.length : Int) = true) (h3 : fineB ⟨70, x⟩ = true) :
    (¬ (-1000000000 ≤ worth f x ∧ worth f x ≤ 1000000000) → vaC f x = 16 ∧ vaV f x = 0) ∧ ((-1000000000 ≤ worth f x ∧ worth f x ≤ 1000000000) → vaC f x = 0 ∧ vaV f x = worth f x) := by
  have e : vaC f x = if -1000000000 ≤ worth f x ∧ worth f x ≤ 1000000000 then 0 else 16 := by
    unfold vaC; rw [if_neg (by rw [h2, h3]; simp [h1])]
  constructor
  · intro h
    rw [if_neg h] at e
    exact ⟨e, by unfold vaV; rw [e]; rfl⟩
  · intro h
    rw [if_pos h] at e
    exact ⟨e, by unfold vaV; rw [e]; rfl⟩
theorem rret_two {a b c d : Int} (h1 : a = c) (h2 : b = d) : Ending.returned (.tuple #[.int .i64 a, .int .i64 b]) = .returned (.tuple #[.int .i64 c, .int .i64 d]) := by rw [h1, h2]
/-! ### Many -/
theorem many_len {l : List Rw} (h : 40 < l.length) : manyB l = true := by simp [manyB, h]
theorem many_at {l : List Rw} {k : Nat} (hk : k < l.length) (h : 4 < l[k].gs.length ∨ 20 < l[k].out.length) : manyB l = true := by
  have : (l.any fun r => decide (4 < r.gs.length) || decide (20 < r.out.length)) = true := by
    rw [List.any_eq_true]
    exact ⟨_, List.getElem_mem hk, by simpa using h⟩
  unfold manyB
  rw [this]; simp
theorem many_not {l : List Rw} (h1 : ¬ 40 < l.length) (h : ∀ k, (hk : k < l.length) → ¬ 4 < l[k].gs.length ∧ ¬ 20 < l[k].out.length) : manyB l = false := by
  have : (l.any fun r => decide (4 < r.gs.length) || decide (20 < r.out.length)) = false := by
    rw [List.any_eq_false]
    intro x hx
    obtain ⟨j, hj, rfl⟩ := List.mem_iff_getElem.1 hx
    have := h j hj
    simp; omega
  unfold manyB
  rw [this]; simpa using h1
theorem many_no {l : List Rw} (h : manyB l = false) : l.length ≤ 40 ∧ ∀ r ∈ l, r.gs.length ≤ 4 ∧ r.out.length ≤ 20 := by
  unfold manyB at h
  rw [Bool.or_eq_false_iff] at h
  refine ⟨by simpa using h.1, fun r hr => ?_⟩
  have := List.any_eq_false.1 h.2 r hr
  simpa using this
set_option maxRecDepth 100000 in
set_option maxHeartbeats 1600000 in
theorem refmany_any (v : Value) (l : List Rw) (hmax : l.length ≤ 9223372036854775807) (w : World) (hv : Rws w v l) :
    Calls Tryz.prog 71 #[v] w fun e w' => e = .returned (.bool (manyB l)) ∧ w = w' := by
  obtain ⟨p, cap, rfl⟩ := hv.slice
  have HV := Lib.hid hv
  clear hv
  by_cases h40 : 40 < l.length
  · have HF := Lib.hid (many_len h40)
    have c1 : (40 : Int) < (l.length : Int) := by omega
    go_enter Tryz.func71, Tryz.ntmps71
    go_wp2_with fail
    go_ret
    exact ⟨ret_bool HF.out.symm, rfl⟩
  · have c1 : ¬ (40 : Int) < (l.length : Int) := by omega
    go_enter Tryz.func71, Tryz.ntmps71
    go_wp2_with fail
    go_loop [3] (fun i => ∃ k : Nat, k ≤ l.length ∧ i = .int .i64 k ∧ ∀ j, (hj : j < l.length) → j < k → ¬ 4 < l[j].gs.length ∧ ¬ 20 < l[j].out.length) (fun i => l.length - (intOf i).toNat)
    case atStart => exact ⟨0, Nat.zero_le _, rfl, fun j _ h => by omega⟩
    case round =>
      obtain ⟨k, hk, rfl, hok⟩ := hrel
      have HK := Lib.hid hok
      clear hok
      by_cases hlt : k < l.length
      · obtain ⟨b, off, cap', g, gc, o, oc, hp, lb, hat⟩ := HV.out.at hlt
        obtain rfl : p = some ⟨b, off, none⟩ := by cases hp; rfl
        have e4 := hat.c4
        have e6 := hat.c6
        have k1 : (k : Int) < (l.length : Int) := by omega
        clear hp hat
        by_cases h4 : 4 < l[k].gs.length
        · have HF := Lib.hid (many_at hlt (.inl h4))
          have c4 : (4 : Int) < (l[k].gs.length : Int) := by omega
          obtain ⟨n, hn⟩ : ∃ n, l[k].gs.length = n := ⟨_, rfl⟩
          rw [hn] at e4 c4
          clear hn h4
          go_wp2_with fail
          go_ret
          exact ⟨ret_bool HF.out.symm, rfl⟩
        · have c4 : ¬ (4 : Int) < (l[k].gs.length : Int) := by omega
          by_cases h20 : 20 < l[k].out.length
          · have HF := Lib.hid (many_at hlt (.inr h20))
            have c5 : (20 : Int) < (l[k].out.length : Int) := by omega
            obtain ⟨n, hn⟩ : ∃ n, l[k].gs.length = n := ⟨_, rfl⟩
            rw [hn] at e4 c4
            obtain ⟨m, hm⟩ : ∃ m, l[k].out.length = m := ⟨_, rfl⟩
            rw [hm] at e6 c5
            clear hn hm h4 h20
            go_wp2_with fail
            go_ret
            exact ⟨ret_bool HF.out.symm, rfl⟩
          · have c5 : ¬ (20 : Int) < (l[k].out.length : Int) := by omega
            have HG : Hid (∀ j, (hj : j < l.length) → j < k + 1 → ¬ 4 < l[j].gs.length ∧ ¬ 20 < l[j].out.length) := Lib.hid (fun j hj h => by
              rcases Nat.lt_or_eq_of_le (Nat.le_of_lt_succ h) with h1 | h1
              · exact HK.out j hj h1
              · subst h1; exact ⟨h4, h20⟩)
            obtain ⟨n, hn⟩ : ∃ n, l[k].gs.length = n := ⟨_, rfl⟩
            rw [hn] at e4 c4
            obtain ⟨m, hm⟩ : ∃ m, l[k].out.length = m := ⟨_, rfl⟩
            rw [hm] at e6 c5
            clear hn hm h4 h20
            go_wp2_with fail
            go_round
            case rel => exact ⟨k + 1, by omega, by go_num, HG.out⟩
            case measure => simp [intOf]; omega
      · obtain rfl : k = l.length := by omega
        have HF := Lib.hid (many_not h40 (fun i hi => HK.out i hi hi))
        go_wp2_with fail
        go_ret
        exact ⟨ret_bool HF.out.symm, rfl⟩
end Go.Proofs.YtcoljbcjnggagaaGreatDoor
namespace Go.Proofs.YtcoljbcjnggagaaGreatDoor
open Go.RowKit
open WM RM
set_option linter.unusedVariables false
set_option linter.unusedSimpArgs false

/-- How the search stands. -/
def FAt (l : List Rw) (m : Md) (k : Nat) : Prop := first l m = firstF (l.drop k) m (k : Int)
theorem fAt_start (l : List Rw) (m : Md) : FAt l m 0 := rfl
theorem fAt_yes {l : List Rw} {m : Md} {k : Nat} (hk : k < l.length) (h : FAt l m k) (hf : fitB l[k] m = true) : first l m = (k : Int) := by
  unfold FAt at h; rw [h, firstF_drop hk, if_pos hf]
theorem fAt_no {l : List Rw} {m : Md} {k : Nat} (hk : k < l.length) (h : FAt l m k) (hf : fitB l[k] m = false) : FAt l m (k + 1) := by
  unfold FAt at h ⊢; rw [h, firstF_drop hk, if_neg (by rw [hf]; decide)]
theorem fAt_end {l : List Rw} {m : Md} (h : FAt l m l.length) : first l m = -1 := by
  unfold FAt at h; rw [h, firstF_end (Nat.le_refl _)]
end Go.Proofs.YtcoljbcjnggagaaGreatDoor
namespace Go.Proofs.YtcoljbcjnggagaaGreatDoor
open Go.RowKit
open WM RM
set_option linter.unusedVariables false
set_option linter.unusedSimpArgs false

/-- Rules that are no greater than the statements look at. -/
def RwSm (r : Rw) : Prop := r.gs.length ≤ 10 ∧ r.out.length ≤ 30 ∧ (∀ f ∈ r.gs, f.cs.length ≤ 10) ∧ ∀ s ∈ r.out, s.a.length ≤ 10 ∧ ∀ f ∈ s.a, f.cs.length ≤ 10
/-- What rules' Fine is to hand back. -/
def FineR : Prop := ∀ (r : Rw) (gv ov : Value) (w : World), RwSm r → Fms w gv r.gs → Shs w ov r.out →
  Calls Tryz.prog 72 #[rwV r gv ov] w fun e w' => e = .returned (.bool (ruleB r)) ∧ Below w.heap.size w w'
theorem rchk_many {l : List Rw} (h : manyB l = true) : rchk l = 4 := by unfold rchk; rw [if_pos h]
theorem rchk_bad {l : List Rw} (h : manyB l = false) {k : Nat} (hk : k < l.length) (h2 : ruleB l[k] = false ∨ plainB l[k] = false) : rchk l = 8 := by
  have : (l.all fun r => ruleB r && plainB r) = false := by
    rw [List.all_eq_false]
    refine ⟨_, List.getElem_mem hk, ?_⟩
    rcases h2 with h | h <;> simp [h]
  unfold rchk; rw [if_neg (by rw [h]; decide), if_neg (by rw [this]; decide)]
theorem rchk_ok {l : List Rw} (h : manyB l = false) (h2 : ∀ k, (hk : k < l.length) → ruleB l[k] = true ∧ plainB l[k] = true) : rchk l = 0 := by
  have : (l.all fun r => ruleB r && plainB r) = true := by
    rw [List.all_eq_true]
    intro x hx
    obtain ⟨j, hj, rfl⟩ := List.mem_iff_getElem.1 hx
    obtain ⟨h3, h4⟩ := h2 j hj
    simp [h3, h4]
  unfold rchk; rw [if_neg (by rw [h]; decide), if_pos this]
theorem rchk_zero {l : List Rw} (h : rchk l = 0) : manyB l = false ∧ ∀ r ∈ l, ruleB r = true ∧ plainB r = true := by
  unfold rchk at h
  split at h
  · omega
  · rename_i h1
    split at h
    · rename_i h2
      refine ⟨by simpa using h1, fun r hr => ?_⟩
      have := List.all_eq_true.1 h2 r hr
      simpa using this
    · omega
theorem rule_guards {r : Rw} (h : ruleB r = true) : r.gs.all (formB · r.ar) = true := by
  unfold ruleB at h
  simp only [Bool.and_eq_true] at h
  exact h.1.1.2
theorem plain_l {r : Rw} (h : r.l ≠ 0) : plainB r = false := by simp [plainB, h]
theorem plain_r {r : Rw} (h : r.r ≠ 0) : plainB r = false := by simp [plainB, h]
theorem plain_w {r : Rw} (h : r.wt ≠ 0) : plainB r = false := by simp [plainB, h]
theorem plain_ok {r : Rw} (h1 : r.l = 0) (h2 : r.r = 0) (h3 : r.wt = 0) : plainB r = true := by simp [plainB, h1, h2, h3]
theorem u8_nz {c : UInt8} (h : c ≠ 0) : ((c.toNat : Int) != 0) = true := by
  rw [bne_iff_ne]; intro e
  exact h (UInt8.toNat_inj.1 (by show c.toNat = 0; omega))
/-! ### Find -/
theorem fin_rules {l : List Rw} {m : Md} (h : rchk l ≠ 0) : finC l m = rchk l ∧ finV l m = 0 := by
  have e : finC l m = rchk l := by unfold finC; rw [if_pos h]
  exact ⟨e, by unfold finV; rw [e, if_neg h]⟩
theorem fin_bad {l : List Rw} {m : Md} (h : rchk l = 0) (h2 : fineB m = false) : finC l m = 8 ∧ finV l m = 0 := by
  have e : finC l m = 8 := by unfold finC; rw [if_neg (by simp [h]), if_neg (by rw [h2]; decide)]
  exact ⟨e, by unfold finV; rw [e, if_neg (by decide)]⟩
theorem fin_ok {l : List Rw} {m : Md} (h : rchk l = 0) (h2 : fineB m = true) : finC l m = 0 ∧ finV l m = first l m := by
  have e : finC l m = 0 := by unfold finC; rw [if_neg (by simp [h]), if_pos h2]
  exact ⟨e, by unfold finV; rw [if_pos e]⟩
end Go.Proofs.YtcoljbcjnggagaaGreatDoor
