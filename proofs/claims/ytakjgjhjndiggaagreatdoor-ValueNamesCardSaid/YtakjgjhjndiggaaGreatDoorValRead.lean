/-
  Reading the texts of values: plain mathematics.
-/
import Derived.Test.YtakjgjhjndiggaaGreatDoorValTextW
import Derived.Lib.IndexAny
namespace Go.Proofs.YtakjgjhjndiggaaGreatDoor
open Go.RowKit Go.Shelf
open VM
open RM (vld vld_iff)
set_option linter.unusedVariables false
set_option linter.unusedSimpArgs false

/-- What may stand behind a value's text. -/
def term (r : By) : Prop := r = [] ∨ ∃ c r', r = c :: r' ∧ (c = 44 ∨ c = 93)
def asc (s : By) : Prop := ∀ c ∈ s, c.toNat < 128
def okc (c : UInt8) : Prop := c ≠ 44 ∧ c ≠ 93

/-! ### Numbers -/
def numc (c : UInt8) : Prop := c = 45 ∨ c = 47 ∨ isDig c
theorem decd_ne (u : Nat) : Lib.decDigits u ≠ [] := by
  unfold Lib.decDigits
  split <;> simp
theorem itoa_ne (n : Int) : Lib.itoa n ≠ [] := by
  unfold Lib.itoa
  split
  · simp
  · exact decd_ne _
theorem itoa_chars (n : Int) : ∀ c ∈ Lib.itoa n, numc c := by
  intro c hc
  unfold Lib.itoa at hc
  split at hc
  · rw [List.mem_cons] at hc
    rcases hc with rfl | hc
    · exact .inl rfl
    · exact .inr (.inr (dec_digits _ c hc))
  · exact .inr (.inr (dec_digits _ c hc))
theorem textL_chars (n d : Int) : ∀ c ∈ textL n d, numc c := by
  intro c hc
  unfold textL at hc
  split at hc
  · exact itoa_chars n c hc
  · rw [List.mem_append, List.mem_cons] at hc
    rcases hc with hc | rfl | hc
    · exact itoa_chars n c hc
    · exact .inr (.inl rfl)
    · exact itoa_chars d c hc
theorem textL_ne (n d : Int) : textL n d ≠ [] := by
  unfold textL
  split
  · exact itoa_ne n
  · simp
theorem numc_ok {c : UInt8} (h : numc c) : okc c ∧ c ≠ 34 ∧ c ≠ 91 ∧ c ≠ 116 ∧ c ≠ 102 := by
  rcases h with rfl | rfl | ⟨h1, h2⟩
  · exact ⟨⟨by decide, by decide⟩, by decide, by decide, by decide, by decide⟩
  · exact ⟨⟨by decide, by decide⟩, by decide, by decide, by decide, by decide⟩
  · refine ⟨⟨?_, ?_⟩, ?_, ?_, ?_, ?_⟩ <;> (intro e; subst e; revert h1 h2; decide)

/-! ### The word up to a comma or a bracket -/
theorem idx_word : ∀ (t r : By), (∀ c ∈ t, okc c) → term r → Lib.indexAny (t ++ r) [44, 93] = if r = [] then -1 else (t.length : Int)
  | [], r, _, hr => by
    rcases hr with rfl | ⟨c, r', rfl, hc⟩
    · rfl
    · have : ([44, 93] : By).contains c = true := by rcases hc with rfl | rfl <;> decide
      simp only [List.nil_append, Lib.indexAny, this, if_true]
      simp
  | b :: t, r, ht, hr => by
    have hb : ([44, 93] : By).contains b = false := by
      have := ht b (by simp)
      simp only [List.contains_cons, List.contains_nil, Bool.or_false, Bool.or_eq_false_iff, beq_eq_false_iff_ne]
      exact this
    have ih := idx_word t r (fun c hc => ht c (List.mem_cons_of_mem b hc)) hr
    simp only [List.cons_append, Lib.indexAny, hb, ih]
    by_cases h : r = []
    · simp [h]
    · simp only [if_neg h, List.length_cons]
      have : ((t.length : Int) == -1) = false := by rw [beq_eq_false_iff_ne]; omega
      simp [this]

/-! ### Strings -/
theorem escL_ne_quote {b r : By} : escL b ++ 34 :: r ≠ [] := by simp
/-- A quoted text's rest: no escape is open; one is open. -/
inductive QRest (r : By) : Bool → By → By → Prop where
  | plain (b : By) : QRest r false b (escL b ++ 34 :: r)
  | open_ (c : UInt8) (b : By) (h : c = 34 ∨ c = 92) : QRest r true (c :: b) (c :: (escL b ++ 34 :: r))
theorem QRest.split {r b s : By} (h : QRest r false b s) : (b = [] ∧ s = 34 :: r) ∨ (∃ c b', b = c :: b' ∧ (c = 34 ∨ c = 92) ∧ ∃ s', s = 92 :: s' ∧ QRest r true b s') ∨ (∃ c b', b = c :: b' ∧ ¬ (c = 34 ∨ c = 92) ∧ ∃ s', s = c :: s' ∧ QRest r false b' s') := by
  cases h with
  | plain =>
    cases b with
    | nil => left; exact ⟨rfl, rfl⟩
    | cons c b' =>
      by_cases hc : c = 34 ∨ c = 92
      · right; left
        refine ⟨c, b', rfl, hc, c :: (escL b' ++ 34 :: r), ?_, .open_ c b' hc⟩
        simp [escL, hc]
      · right; right
        refine ⟨c, b', rfl, hc, escL b' ++ 34 :: r, ?_, .plain b'⟩
        simp [escL, hc]
theorem QRest.opened {r b s : By} (h : QRest r true b s) : ∃ c b', b = c :: b' ∧ (c = 34 ∨ c = 92) ∧ ∃ s', s = c :: s' ∧ QRest r false b' s' := by
  cases h with
  | open_ c b' hc => exact ⟨c, b', rfl, hc, _, rfl, .plain b'⟩

/-! ### Bodies of lists -/
theorem tlL_term (l : List V) (r : By) : term (tlL l ++ r) := by
  cases l with
  | nil => exact .inr ⟨93, r, by simp [tlL_nil], .inr rfl⟩
  | cons x l => exact .inr ⟨44, 32 :: (txt x ++ tlL l) ++ r, by simp [tlL_cons], .inl rfl⟩
theorem tlL_bod {x : V} {l : List V} : tlL (x :: l) = 44 :: 32 :: bod (x :: l) := by rw [tlL_cons, bod_cons]
/-- What stands ahead of the element that is read next. -/
def preT (l : List V) : By := if l = [] then [] else jnL l ++ [44, 32]
theorem preT_last (l : List V) (x : V) (rest : By) : preT l ++ (txt x ++ 93 :: rest) = bod (l ++ [x]) ++ rest := by
  unfold preT
  rw [bod_join, jnL_snoc]
  split <;> simp
theorem preT_next (l : List V) (x : V) (cur : By) : preT l ++ (txt x ++ 44 :: 32 :: cur) = preT (l ++ [x]) ++ cur := by
  have h : preT (l ++ [x]) = jnL (l ++ [x]) ++ [44, 32] := by unfold preT; rw [if_neg (by simp)]
  rw [h, jnL_snoc]
  unfold preT
  split <;> simp
/-- The value of a string; of a list. -/
def strV (b : By) : V := .mk ⟨3, 0, 0, false, bA b⟩ []
def lstV (l : List V) : V := .mk ⟨4, 0, 0, false, ⟨#[]⟩⟩ l
def truV (b : Bool) : V := .mk ⟨2, 0, 0, b, ⟨#[]⟩⟩ []
def numV' (n d : Int) : V := .mk ⟨1, n, d, false, ⟨#[]⟩⟩ []
def zerV : V := .mk ⟨0, 0, 0, false, ⟨#[]⟩⟩ []
theorem txt_strV (b : By) : txt (strV b) = quoL b := by unfold strV; rw [txt_3 rfl]; simp
theorem txt_lstV (l : List V) : txt (lstV l) = 91 :: bod l := by unfold lstV; rw [txt_4 rfl]
theorem txt_truV (b : Bool) : txt (truV b) = truL b := by unfold truV; rw [txt_2 rfl]
theorem txt_numV (n d : Int) : txt (numV' n d) = textL n d := by unfold numV'; rw [txt_1 rfl]
theorem bempty {s : ByteArray} (h : s.size = 0) : s = ⟨#[]⟩ := by
  apply ByteArray.ext; exact Array.eq_empty_of_size_eq_zero h
/-- A fine value is one of these. -/
theorem fine_cases {v : V} (h : fineB v = true) : (∃ n d, vld n d = true ∧ v = numV' n d) ∨ (∃ b, v = truV b) ∨ (∃ b, prB (bA b) = true ∧ v = strV b) ∨ ∃ l, (∀ x ∈ l, fineB x = true) ∧ v = lstV l := by
  cases v with
  | mk a l =>
    obtain ⟨k, n, d, t, s⟩ := a
    rcases fine_kind h with hk | hk | hk | hk
    · left
      simp only at hk; subst hk
      refine ⟨n, d, fine_num h rfl, ?_⟩
      rw [fine_leaf (by simp)] at h
      simp only [sndB, if_true, Bool.and_eq_true, decide_eq_true_eq, Bool.not_eq_true'] at h
      obtain ⟨_, ht, hs, hl⟩ := h
      rw [bempty hs, ht, List.length_eq_zero_iff.1 hl]; rfl
    · right; left
      simp only at hk; subst hk
      refine ⟨t, ?_⟩
      rw [fine_leaf (by simp)] at h
      simp only [sndB, Bool.and_eq_true, decide_eq_true_eq] at h
      simp at h
      obtain ⟨⟨hn, hd⟩, hs, hl⟩ := h
      rw [hs, hn, hd, hl]; rfl
    · right; right; left
      simp only at hk; subst hk
      refine ⟨lA s, by rw [bA_lA]; exact fine_pr h rfl, ?_⟩
      rw [fine_str rfl] at h
      simp only [Bool.and_eq_true, decide_eq_true_eq, Bool.not_eq_true'] at h
      obtain ⟨⟨hn, hd⟩, ht, _, hl⟩ := h
      rw [hn, hd, ht, List.length_eq_zero_iff.1 hl]
      unfold strV; rw [bA_lA]
    · right; right; right
      simp only at hk; subst hk
      refine ⟨l, fun x hx => fine_mem h rfl hx, ?_⟩
      rw [fine_list rfl] at h
      simp only [Bool.and_eq_true, decide_eq_true_eq, Bool.not_eq_true'] at h
      obtain ⟨⟨⟨hn, hd⟩, ht, hs⟩, _⟩ := h
      rw [hn, hd, ht, bempty hs]; rfl
theorem fine_lstV {l : List V} : fineB (lstV l) = true ↔ ∀ x ∈ l, fineB x = true := by
  unfold lstV; rw [fine_list rfl]; simp; intro _; rfl
theorem fine_numV {n d : Int} : fineB (numV' n d) = vld n d := by
  unfold numV'; rw [fine_leaf (by simp)]; simp [sndB]; intro _; rfl
theorem fine_truV (b : Bool) : fineB (truV b) = true := by
  unfold truV; rw [fine_leaf (by simp)]; simp [sndB]; rfl
theorem fine_strV (b : By) : fineB (strV b) = prB (bA b) := by
  unfold strV; rw [fine_str rfl]; simp
end Go.Proofs.YtakjgjhjndiggaaGreatDoor
