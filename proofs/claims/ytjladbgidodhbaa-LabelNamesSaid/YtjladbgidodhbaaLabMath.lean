/-
  Names, steps and paths as lists of bytes: plain mathematics.
-/
import Derived.Lib.ItoaNum
import Derived.Lib.IndexMore
import Derived.Lib.LastIndexLaws
import Derived.Lib.Bytealg
namespace Go.Proofs.Ytjladbgidodhbaa
namespace LM
set_option linter.unusedVariables false
set_option linter.unusedSimpArgs false

abbrev Bs := List UInt8

/-! ### Cutting at slashes, and putting together -/
def splitA : Bs → Bs → List Bs
  | cur, [] => [cur]
  | cur, c :: l => if c = 47 then cur :: splitA [] l else splitA (cur ++ [c]) l
def cutL (p : Bs) : List Bs := if p = [] then [] else splitA [] p
def tailL : List Bs → Bs
  | [] => []
  | x :: xs => 47 :: (x ++ tailL xs)
def pathL : List Bs → Bs
  | [] => []
  | x :: xs => x ++ tailL xs

theorem splitA_ne (cur l : Bs) : splitA cur l ≠ [] := by
  induction l generalizing cur with
  | nil => simp [splitA]
  | cons c l ih => unfold splitA; split <;> simp [ih]
theorem tailL_eq {xs : List Bs} (h : xs ≠ []) : tailL xs = 47 :: pathL xs := by
  cases xs with
  | nil => exact absurd rfl h
  | cons x xs => rfl
theorem pathL_splitA (cur l : Bs) : pathL (splitA cur l) = cur ++ l := by
  induction l generalizing cur with
  | nil => simp [splitA, pathL, tailL]
  | cons c l ih =>
    unfold splitA
    split
    · rename_i h
      subst h
      simp only [pathL]
      rw [tailL_eq (splitA_ne _ _), ih]; simp
    · rw [ih]; simp
theorem cutL_nil : cutL [] = [] := rfl
theorem cutL_ne {p : Bs} (h : p ≠ []) : cutL p = splitA [] p := by rw [cutL, if_neg h]
theorem pathL_cutL (p : Bs) : pathL (cutL p) = p := by
  unfold cutL
  split
  · rename_i h; subst h; rfl
  · rw [pathL_splitA]; rfl
theorem cutL_inj {p q : Bs} (h : cutL p = cutL q) : p = q := by rw [← pathL_cutL p, h, pathL_cutL]
theorem cutL_eq_nil {p : Bs} : cutL p = [] ↔ p = [] := by
  constructor
  · intro h; exact cutL_inj (by rw [h]; rfl)
  · intro h; subst h; rfl
theorem splitA_app (cur x l : Bs) (h : (47 : UInt8) ∉ x) : splitA cur (x ++ l) = splitA (cur ++ x) l := by
  induction x generalizing cur with
  | nil => simp
  | cons c x ih =>
    have h1 : c ≠ 47 := fun e => h (by simp [e])
    have h2 : (47 : UInt8) ∉ x := fun e => h (by simp [e])
    simp only [List.cons_append, splitA, if_neg h1]
    rw [ih _ h2]; simp
theorem splitA_slash (cur l : Bs) : splitA cur (47 :: l) = cur :: splitA [] l := by simp [splitA]
theorem splitA_no (cur x : Bs) (h : (47 : UInt8) ∉ x) : splitA cur x = [cur ++ x] := by
  have := splitA_app cur x [] h
  simpa [splitA] using this
theorem splitA_at (cur a b : Bs) : splitA cur (a ++ 47 :: b) = splitA cur a ++ splitA [] b := by
  induction a generalizing cur with
  | nil => simp [splitA]
  | cons c a ih =>
    simp only [List.cons_append, splitA]
    split
    · rw [ih]; rfl
    · rw [ih]
theorem splitA_tailL (cur : Bs) (xs : List Bs) (h : ∀ x ∈ xs, (47 : UInt8) ∉ x) : splitA cur (tailL xs) = cur :: xs := by
  induction xs generalizing cur with
  | nil => simp [tailL, splitA]
  | cons x xs ih =>
    have h1 := h x (by simp)
    have h2 := fun y hy => h y (List.mem_cons_of_mem x hy)
    simp only [tailL, splitA_slash]
    rw [splitA_app _ _ _ h1, ih _ h2]; rfl
theorem cutL_pathL {xs : List Bs} (h : ∀ x ∈ xs, (47 : UInt8) ∉ x ∧ x ≠ []) : cutL (pathL xs) = xs := by
  cases xs with
  | nil => rfl
  | cons x xs =>
    have h1 := h x (by simp)
    have hne : pathL (x :: xs) ≠ [] := by simp [pathL, h1.2]
    rw [cutL_ne hne]
    simp only [pathL]
    rw [splitA_app _ _ _ h1.1, splitA_tailL _ _ (fun y hy => (h y (List.mem_cons_of_mem x hy)).1)]; rfl
theorem splitA_length (cur l : Bs) : (splitA cur l).length = l.count 47 + 1 := by
  induction l generalizing cur with
  | nil => simp [splitA]
  | cons c l ih =>
    unfold splitA
    split
    · rename_i h; subst h; simp [ih]
    · rename_i h; rw [ih, List.count_cons_of_ne h]
theorem cutL_length (p : Bs) : (cutL p).length = if p = [] then 0 else p.count 47 + 1 := by
  unfold cutL; split
  · rfl
  · rw [splitA_length]
theorem splitA_mem {cur l x : Bs} (hc : (47 : UInt8) ∉ cur) (h : x ∈ splitA cur l) : (47 : UInt8) ∉ x := by
  induction l generalizing cur with
  | nil => simp [splitA] at h; subst h; exact hc
  | cons c l ih =>
    unfold splitA at h
    split at h
    · rw [List.mem_cons] at h
      rcases h with h | h
      · subst h; exact hc
      · exact ih (by simp) h
    · rename_i hne
      exact ih (by intro hh; rw [List.mem_append, List.mem_singleton] at hh; rcases hh with hh | hh; exact hc hh; exact hne hh.symm) h
theorem cutL_mem {p x : Bs} (h : x ∈ cutL p) : (47 : UInt8) ∉ x := by
  unfold cutL at h; split at h
  · simp at h
  · exact splitA_mem (by simp) h
theorem pathL_snoc (xs : List Bs) (x : Bs) : pathL (xs ++ [x]) = if xs = [] then x else pathL xs ++ 47 :: x := by
  cases xs with
  | nil => simp [pathL, tailL]
  | cons y ys =>
    have : ∀ zs : List Bs, tailL (zs ++ [x]) = tailL zs ++ 47 :: x := by
      intro zs
      induction zs with
      | nil => simp [tailL]
      | cons z zs ih => simp [tailL, ih]
    simp [pathL, this]
theorem tailL_app (xs ys : List Bs) : tailL (xs ++ ys) = tailL xs ++ tailL ys := by
  induction xs with
  | nil => rfl
  | cons x xs ih => simp [tailL, ih]
theorem pathL_app (xs ys : List Bs) (h : xs ≠ []) : pathL (xs ++ ys) = pathL xs ++ tailL ys := by
  cases xs with
  | nil => exact absurd rfl h
  | cons x xs => simp [pathL, tailL_app]

/-! ### The first and the last slash -/
theorem first_slash {l : Bs} (h : (47 : UInt8) ∈ l) : ∃ a b, l = a ++ 47 :: b ∧ (47 : UInt8) ∉ a := by
  induction l with
  | nil => simp at h
  | cons c l ih =>
    by_cases hc : c = 47
    · exact ⟨[], l, by simp [hc], by simp⟩
    · have : (47 : UInt8) ∈ l := by
        rw [List.mem_cons] at h
        rcases h with h | h
        · exact absurd h.symm hc
        · exact h
      obtain ⟨a, b, e, hn⟩ := ih this
      exact ⟨c :: a, b, by simp [e], by intro hh; rw [List.mem_cons] at hh; rcases hh with hh | hh; exact hc hh.symm; exact hn hh⟩
theorem last_slash {l : Bs} (h : (47 : UInt8) ∈ l) : ∃ a b, l = a ++ 47 :: b ∧ (47 : UInt8) ∉ b := by
  obtain ⟨a, b, e, hn⟩ := first_slash (l := l.reverse) (by simpa using h)
  refine ⟨b.reverse, a.reverse, ?_, by simpa using hn⟩
  have := congrArg List.reverse e
  simpa using this
theorem index_none : ∀ (l : List UInt8), (c : UInt8) → c ∉ l → Lib.index l [c] = -1
  | [], _, _ => rfl
  | b :: l, c, h => by
    have h1 : b ≠ c := fun e => h (by simp [e])
    have h2 : c ≠ b := fun e => h1 e.symm
    have h3 := index_none l c (fun e => h (by simp [e]))
    simp [Lib.index, List.isPrefixOf, h2, h3]
theorem index_at : ∀ (l m : List UInt8) (c : UInt8), c ∉ l → Lib.index (l ++ c :: m) [c] = l.length
  | [], m, c, _ => by simp [Lib.index, List.isPrefixOf]
  | b :: l, m, c, h => by
    have h1 : b ≠ c := fun e => h (by simp [e])
    have h2 : c ≠ b := fun e => h1 e.symm
    have h3 := index_at l m c (fun e => h (by simp [e]))
    have h4 : ((l.length : Int) == -1) = false := by rw [beq_eq_false_iff_ne]; omega
    simp [Lib.index, List.isPrefixOf, h2, h3]
theorem cut_none {l : List UInt8} {c : UInt8} (h : c ∉ l) : Lib.cut l [c] = (l, [], false) := by
  simp [Lib.cut, index_none l c h]
theorem cut_at {l : List UInt8} {c : UInt8} (m : List UInt8) (h : c ∉ l) : Lib.cut (l ++ c :: m) [c] = (l, m, true) := by
  have h0 : (0 : Int) ≤ (l.length : Int) := by omega
  simp only [Lib.cut, index_at l m c h, if_pos h0, Int.toNat_natCast, List.length_singleton]
  rw [List.take_left', List.drop_append]
  · simp
  · rfl
/-- One cut more of a text's pieces. -/
theorem splitA_cut (l : Bs) : splitA [] l = if (Lib.cut l [47]).2.2 = true then (Lib.cut l [47]).1 :: splitA [] (Lib.cut l [47]).2.1 else [(Lib.cut l [47]).1] := by
  by_cases h : (47 : UInt8) ∈ l
  · obtain ⟨a, b, rfl, hn⟩ := first_slash h
    rw [cut_at b hn, if_pos rfl, splitA_at, splitA_no _ _ hn]; rfl
  · rw [cut_none h, if_neg (by simp), splitA_no _ _ h]; rfl
theorem cut_shorter (l : Bs) (h : (Lib.cut l [47]).2.2 = true) : (Lib.cut l [47]).2.1.length < l.length := by
  by_cases hm : (47 : UInt8) ∈ l
  · obtain ⟨a, b, rfl, hn⟩ := first_slash hm
    rw [cut_at b hn]; simp; omega
  · rw [cut_none hm] at h; simp at h
theorem cut_le (l : Bs) (c : UInt8) : (Lib.cut l [c]).1.length ≤ l.length ∧ (Lib.cut l [c]).2.1.length ≤ l.length := by
  unfold Lib.cut; split
  · simp; omega
  · simp
theorem lastOcc_none (l : Bs) (h : (47 : UInt8) ∉ l) : ∀ k, k ≤ l.length → Lib.lastOcc l [47] k = -1
  | 0, _ => rfl
  | k + 1, hk => by
    rw [Lib.lastOcc_miss, lastOcc_none l h k (by omega)]
    unfold Lib.occAt
    rw [List.drop_eq_getElem_cons (by omega)]
    have : (47 : UInt8) ≠ l[k] := fun e => h (by rw [e]; exact List.getElem_mem _)
    simp [List.isPrefixOf, this]
theorem lastIndex_none {l : Bs} (h : (47 : UInt8) ∉ l) : Lib.lastIndex l [47] = -1 := by
  unfold Lib.lastIndex
  split
  · rename_i hl
    simp only [List.length_singleton] at hl ⊢
    exact lastOcc_none l h _ (by omega)
  · rfl
theorem lastIndex_at {a b : Bs} (h : (47 : UInt8) ∉ b) : Lib.lastIndex (a ++ 47 :: b) [47] = a.length := by
  unfold Lib.lastIndex
  rw [if_pos (by simp; omega)]
  have hoc : Lib.occAt (a ++ 47 :: b) [47] a.length = true := by
    unfold Lib.occAt; simp [List.isPrefixOf]
  have hn : ∀ j, a.length < j → Lib.occAt (a ++ 47 :: b) [47] j = false := by
    intro j hj
    unfold Lib.occAt
    obtain ⟨i, rfl⟩ : ∃ i, j = a.length + 1 + i := ⟨j - (a.length + 1), by omega⟩
    have e : (a ++ 47 :: b).drop (a.length + 1 + i) = b.drop i := by
      have : a ++ 47 :: b = (a ++ [47]) ++ b := by simp
      rw [this, List.drop_append]
      have h1 : (a ++ [47]).drop (a.length + 1 + i) = [] := List.drop_of_length_le (by simp)
      rw [h1]; simp
    rw [e]
    cases hd : b.drop i with
    | nil => rfl
    | cons x xs =>
      have : x ∈ b := by
        have : x ∈ b.drop i := by rw [hd]; simp
        exact List.mem_of_mem_drop this
      have : (47 : UInt8) ≠ x := fun e => h (by rw [e]; exact this)
      simp [List.isPrefixOf, this]
  rcases Lib.lastOcc_spec (a ++ 47 :: b) [47] ((a ++ 47 :: b).length - [(47 : UInt8)].length + 1) with ⟨_, hh⟩ | ⟨i, hi, e, hc, hh⟩
  · have := hh a.length (by simp; omega)
    rw [hoc] at this; simp at this
  · rw [e]
    rcases Nat.lt_trichotomy i a.length with hlt | heq | hgt
    · have := hh a.length hlt (by simp; omega)
      rw [hoc] at this; simp at this
    · rw [heq]
    · rw [hn i hgt] at hc; simp at hc

/-! ### What two lists of steps share -/
def sharedL : List Bs → List Bs → Nat
  | a :: as, b :: bs => if a = b then sharedL as bs + 1 else 0
  | _, _ => 0
theorem sharedL_le : ∀ (a b : List Bs), sharedL a b ≤ a.length ∧ sharedL a b ≤ b.length
  | [], _ => by simp [sharedL]
  | _ :: _, [] => by simp [sharedL]
  | x :: a, y :: b => by
    have := sharedL_le a b
    unfold sharedL; split <;> simp <;> omega
theorem sharedL_take : ∀ (a b : List Bs), a.take (sharedL a b) = b.take (sharedL a b)
  | [], _ => by simp [sharedL]
  | _ :: _, [] => by simp [sharedL]
  | x :: a, y :: b => by
    unfold sharedL
    split
    · rename_i h; subst h; simp [sharedL_take a b]
    · rfl
theorem sharedL_comm : ∀ (a b : List Bs), sharedL a b = sharedL b a
  | [], [] => rfl
  | [], _ :: _ => rfl
  | _ :: _, [] => rfl
  | x :: a, y :: b => by
    unfold sharedL
    by_cases h : x = y
    · rw [if_pos h, if_pos h.symm, sharedL_comm a b]
    · rw [if_neg h, if_neg (fun e => h e.symm)]
theorem prefix_shared : ∀ (x a b : List Bs), x <+: a.take (sharedL a b) ↔ x <+: a ∧ x <+: b
  | [], a, b => by simp
  | z :: x, [], b => by simp [sharedL]
  | z :: x, y :: a, [] => by simp [sharedL]
  | z :: x, y :: a, w :: b => by
    unfold sharedL
    split
    · rename_i h
      subst h
      simp only [List.take_succ_cons, List.cons_prefix_cons, prefix_shared x a b]
      constructor
      · rintro ⟨h1, h2, h3⟩; exact ⟨⟨h1, h2⟩, h1, h3⟩
      · rintro ⟨⟨h1, h2⟩, _, h3⟩; exact ⟨h1, h2, h3⟩
    · rename_i h
      simp only [List.take_zero, List.cons_prefix_cons, List.prefix_nil]
      constructor
      · intro hh; simp at hh
      · rintro ⟨⟨h1, _⟩, h2, _⟩; exact absurd (h1.symm.trans h2) h
theorem sharedL_all (a b : List Bs) : sharedL a b = b.length ↔ b <+: a := by
  constructor
  · intro h
    have := sharedL_take a b
    rw [h, List.take_length] at this
    rw [← this]; exact List.take_prefix _ _
  · intro h
    have h1 := (prefix_shared b a b).2 ⟨h, List.prefix_rfl⟩
    have h2 := h1.length_le
    rw [List.length_take] at h2
    have := (sharedL_le a b).2
    omega
def undB (p q : Bs) : Bool := decide (sharedL (cutL p) (cutL q) = (cutL q).length)
theorem undB_iff {p q : Bs} : undB p q = true ↔ cutL q <+: cutL p := by
  unfold undB; rw [decide_eq_true_iff, sharedL_all]
def comL (p q : Bs) : Bs := pathL ((cutL p).take (sharedL (cutL p) (cutL q)))
/-- The other way to say 'under'. -/
theorem und_text (p q : Bs) : undB p q = (decide (q = []) || decide (p = q) || Lib.hasPrefix p (q ++ [47])) := by
  rw [Bool.eq_iff_iff, undB_iff]
  simp only [Bool.or_eq_true, decide_eq_true_eq]
  constructor
  · intro h
    by_cases hq : q = []
    · exact .inl (.inl hq)
    · by_cases hp : p = []
      · subst hp
        rw [cutL_nil, List.prefix_nil, cutL_eq_nil] at h
        exact absurd h hq
      · obtain ⟨t, ht⟩ := h
        have h0 : cutL q ≠ [] := fun e => hq (cutL_eq_nil.1 e)
        have e := pathL_cutL p
        rw [← ht, pathL_app _ _ h0, pathL_cutL] at e
        cases t with
        | nil => left; right; simpa [tailL] using e.symm
        | cons x t =>
          right
          rw [Lib.hasPrefix, List.isPrefixOf_iff_prefix]
          exact ⟨x ++ tailL t, by rw [← e]; simp [tailL]⟩
  · rintro ((h | h) | h)
    · subst h; rw [cutL_nil]; exact List.nil_prefix
    · subst h; exact List.prefix_rfl
    · rw [Lib.hasPrefix, List.isPrefixOf_iff_prefix] at h
      obtain ⟨t, ht⟩ := h
      by_cases hq : q = []
      · subst hq; rw [cutL_nil]; exact List.nil_prefix
      · have hp : p ≠ [] := by rw [← ht]; simp
        rw [cutL_ne hq, cutL_ne hp, ← ht]
        have : q ++ [47] ++ t = q ++ 47 :: t := by simp
        rw [this, splitA_at]
        exact List.prefix_append _ _
end LM
end Go.Proofs.Ytjladbgidodhbaa
