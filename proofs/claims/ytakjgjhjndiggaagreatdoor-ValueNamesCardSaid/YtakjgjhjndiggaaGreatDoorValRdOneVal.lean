/-
  What read hands back of one value, given what readList does. What read hands back of one value, given what readList does: the walk.
-/
import Derived.Test.YtakjgjhjndiggaaGreatDoorValRdStr
namespace Go.Proofs.YtakjgjhjndiggaaGreatDoor
open Go.RowKit Go.Shelf
open VM
open RM (vld vld_iff)
set_option linter.unusedVariables false
set_option linter.unusedSimpArgs false

/-- What read hands back. -/
def PRd (s : By) (v : V) (rest : By) (ok : Bool) : Prop :=
  (ok = true → (fineB v = true → s = txt v ++ rest) ∧ Wf 20000 v ∧ hgt v + rest.length ≤ s.length ∧ parts v + rest.length ≤ s.length) ∧
  (∀ u r, asc s → fineB u = true → s = txt u ++ r → term r → ok = true ∧ v = u ∧ rest = r)
/-- What readList hands back, of the bytes behind the bracket. -/
def PLs (s : By) (v : V) (rest : By) (ok : Bool) : Prop :=
  (ok = true → ∃ l, v = lstV l ∧ ((∀ x ∈ l, fineB x = true) → s = bod l ++ rest) ∧ (∀ x ∈ l, Wf 20000 x) ∧ l.length ≤ 20000 ∧ hgtL l + rest.length + 1 ≤ s.length ∧ partsL l + rest.length + 1 ≤ s.length) ∧
  (∀ l r, asc s → (∀ x ∈ l, fineB x = true) → s = bod l ++ r → ok = true ∧ v = lstV l ∧ rest = r)
theorem head_num {n d : Int} {c : UInt8} {s r : By} (h : c :: s = textL n d ++ r) : numc c := by
  cases ht : textL n d with
  | nil => exact absurd ht (textL_ne n d)
  | cons x t =>
    rw [ht] at h
    injection h with h _
    subst h
    exact textL_chars n d c (by rw [ht]; simp)
theorem tru_head {b : Bool} {c : UInt8} {s r : By} (h : c :: s = truL b ++ r) : c = 116 ∨ c = 102 := by
  cases b <;> simp [truL] at h
  · right; exact h.1
  · left; exact h.1
theorem nd_wf {a : Nd} (h0 : 0 ≤ a.k) (h1 : a.k ≤ 4) (h2 : -9223372036854775808 ≤ a.n) (h3 : a.n ≤ 9223372036854775807) (h4 : -9223372036854775808 ≤ a.d) (h5 : a.d ≤ 9223372036854775807) (h6 : a.s.size ≤ 20000) : a.Wf 20000 := ⟨h0, by omega, h2, h3, h4, h5, h6⟩
theorem wf_strV {b : By} (h : b.length ≤ 20000) : Wf 20000 (strV b) := .mk _ _ (nd_wf (by first | (show (0 : Nat) ≤ 20000; omega) | simp) (by first | (show (0 : Nat) ≤ 20000; omega) | simp) (by first | (show (0 : Nat) ≤ 20000; omega) | simp) (by first | (show (0 : Nat) ≤ 20000; omega) | simp) (by first | (show (0 : Nat) ≤ 20000; omega) | simp) (by first | (show (0 : Nat) ≤ 20000; omega) | simp) (by show (bA b).size ≤ _; rw [bA_size]; exact h)) (by simp) (by simp)
theorem wf_truV (b : Bool) : Wf 20000 (truV b) := .mk _ _ (nd_wf (by first | (show (0 : Nat) ≤ 20000; omega) | simp) (by first | (show (0 : Nat) ≤ 20000; omega) | simp) (by first | (show (0 : Nat) ≤ 20000; omega) | simp) (by first | (show (0 : Nat) ≤ 20000; omega) | simp) (by first | (show (0 : Nat) ≤ 20000; omega) | simp) (by first | (show (0 : Nat) ≤ 20000; omega) | simp) (by first | (show (0 : Nat) ≤ 20000; omega) | simp)) (by simp) (by simp)
theorem wf_zerV : Wf 20000 zerV := .mk _ _ (nd_wf (by first | (show (0 : Nat) ≤ 20000; omega) | simp) (by first | (show (0 : Nat) ≤ 20000; omega) | simp) (by first | (show (0 : Nat) ≤ 20000; omega) | simp) (by first | (show (0 : Nat) ≤ 20000; omega) | simp) (by first | (show (0 : Nat) ≤ 20000; omega) | simp) (by first | (show (0 : Nat) ≤ 20000; omega) | simp) (by first | (show (0 : Nat) ≤ 20000; omega) | simp)) (by simp) (by simp)
theorem wf_numV {n d : Int} (h : vld n d = true) : Wf 20000 (numV' n d) := by
  obtain ⟨h1, h2, h3, h4, _⟩ := vld_iff.1 h
  exact .mk _ _ (nd_wf (by first | (show (0 : Nat) ≤ 20000; omega) | simp) (by first | (show (0 : Nat) ≤ 20000; omega) | simp) (by show _ ≤ n; omega) (by show n ≤ _; omega) (by show _ ≤ d; omega) (by show d ≤ _; omega) (by first | (show (0 : Nat) ≤ 20000; omega) | simp)) (by simp) (by simp)
theorem wf_lstV {l : List V} (h : ∀ x ∈ l, Wf 20000 x) (hl : l.length ≤ 20000) : Wf 20000 (lstV l) := .mk _ _ (nd_wf (by first | (show (0 : Nat) ≤ 20000; omega) | simp) (by first | (show (0 : Nat) ≤ 20000; omega) | simp) (by first | (show (0 : Nat) ≤ 20000; omega) | simp) (by first | (show (0 : Nat) ≤ 20000; omega) | simp) (by first | (show (0 : Nat) ≤ 20000; omega) | simp) (by first | (show (0 : Nat) ≤ 20000; omega) | simp) (by first | (show (0 : Nat) ≤ 20000; omega) | simp)) hl h
theorem sz_leaf {a : Nd} (hk : a.k ≠ 4) : parts (.mk a []) = 1 ∧ hgt (.mk a []) = 1 := by
  rw [parts_eq, hgt_eq]; simp [hk, hgtL]
theorem sz_lst (l : List V) : parts (lstV l) = 1 + partsL l ∧ hgt (lstV l) = 1 + hgtL l := by
  unfold lstV; rw [parts_eq, hgt_eq]; simp
/-- Of a quoted string. -/
theorem PRd.str {s : By} {v : V} {rest : By} {ok : Bool} (h : PStr s v rest ok) (hs : s.length ≤ 4000) : PRd (34 :: s) v rest ok := by
  refine ⟨fun e => ?_, fun u r ha hf hu hr => ?_⟩
  · obtain ⟨b, rfl, h1, h2, h3⟩ := h.1 e
    obtain ⟨p1, p2⟩ := sz_leaf (a := ⟨3, 0, 0, false, bA b⟩) (by simp)
    refine ⟨fun hf => ?_, wf_strV (by omega), ?_, ?_⟩
    · rw [fine_strV] at hf
      have := h1 hf
      rw [txt_strV, quoL, this]; simp
    · show hgt (.mk ⟨3, 0, 0, false, bA b⟩ []) + _ ≤ _
      rw [p2, List.length_cons]; omega
    · show parts (.mk ⟨3, 0, 0, false, bA b⟩ []) + _ ≤ _
      rw [p1, List.length_cons]; omega
  · rcases fine_cases hf with ⟨n, d, _, rfl⟩ | ⟨b, rfl⟩ | ⟨b, hb, rfl⟩ | ⟨l, _, rfl⟩
    · rw [txt_numV] at hu; exact absurd rfl (numc_ok (head_num hu)).2.1
    · rw [txt_truV] at hu; rcases tru_head hu with e | e <;> exact absurd e (by decide)
    · rw [txt_strV, quoL] at hu
      injection hu with _ hu
      exact h.2.2 b r (pr_ascii hb) (by rw [hu]; simp)
    · rw [txt_lstV] at hu; injection hu with e _; exact absurd e (by decide)
/-- Of a list. -/
theorem PRd.lst {s : By} {v : V} {rest : By} {ok : Bool} (h : PLs s v rest ok) : PRd (91 :: s) v rest ok := by
  refine ⟨fun e => ?_, fun u r ha hf hu hr => ?_⟩
  · obtain ⟨l, rfl, h1, h2, h3, h4, h5⟩ := h.1 e
    obtain ⟨p1, p2⟩ := sz_lst l
    refine ⟨fun hf => ?_, wf_lstV h2 h3, by rw [p2, List.length_cons]; omega, by rw [p1, List.length_cons]; omega⟩
    rw [txt_lstV, h1 (fine_lstV.1 hf)]; rfl
  · rcases fine_cases hf with ⟨n, d, _, rfl⟩ | ⟨b, rfl⟩ | ⟨b, hb, rfl⟩ | ⟨l, hl, rfl⟩
    · rw [txt_numV] at hu; exact absurd rfl (numc_ok (head_num hu)).2.2.1
    · rw [txt_truV] at hu; rcases tru_head hu with e | e <;> exact absurd e (by decide)
    · rw [txt_strV, quoL] at hu; injection hu with e _; exact absurd e (by decide)
    · rw [txt_lstV] at hu
      injection hu with _ hu
      exact h.2 l r (fun c hc => ha c (List.mem_cons_of_mem _ hc)) hl hu
/-- Of a word: its value. -/
def wordV (x : By) : V := if x = [116, 114, 117, 101] then truV true else if x = [102, 97, 108, 115, 101] then truV false else if parE (bA x) = 0 then numV' (parN (bA x)) (parD (bA x)) else zerV
def wordOk (x : By) : Bool := decide (x = [116, 114, 117, 101]) || (decide (x = [102, 97, 108, 115, 101]) || decide (parE (bA x) = 0))
theorem textB_bA (n d : Int) : textB n d = bA (textL n d) := rfl
theorem num_not_true (n d : Int) : textL n d ≠ [116, 114, 117, 101] ∧ textL n d ≠ [102, 97, 108, 115, 101] := by
  constructor
  · intro h; have := textL_chars n d 116 (by rw [h]; simp); exact absurd rfl (numc_ok this).2.2.2.1
  · intro h; have := textL_chars n d 102 (by rw [h]; simp); exact absurd rfl (numc_ok this).2.2.2.2
theorem PRd.word {s x rest : By} (hx : s = x ++ rest) (h1 : ∀ c t, s = c :: t → c ≠ 34 ∧ c ≠ 91) (hcut : ∀ t r, asc s → s = t ++ r → (∀ c ∈ t, okc c) → term r → x = t) : PRd s (wordV x) rest (wordOk x) := by
  refine ⟨fun e => ?_, fun u r ha hf hu hr => ?_⟩
  · have key : ∃ v, wordV x = v ∧ txt v = x ∧ Wf 20000 v ∧ hgt v = 1 ∧ parts v = 1 ∧ x ≠ [] := by
      unfold wordV
      by_cases h1 : x = [116, 114, 117, 101]
      · rw [if_pos h1]; subst h1
        exact ⟨_, rfl, txt_truV true, wf_truV true, (sz_leaf (by simp)).2, (sz_leaf (by simp)).1, by simp⟩
      · rw [if_neg h1]
        by_cases h2 : x = [102, 97, 108, 115, 101]
        · rw [if_pos h2]; subst h2
          exact ⟨_, rfl, txt_truV false, wf_truV false, (sz_leaf (by simp)).2, (sz_leaf (by simp)).1, by simp⟩
        · rw [if_neg h2]
          have h3 : parE (bA x) = 0 := by
            unfold wordOk at e
            simpa [h1, h2] using e
          rw [if_pos h3]
          obtain ⟨hv, ht⟩ := par_fine h3
          rw [textB_bA] at ht
          have ht := bA_inj ht
          refine ⟨_, rfl, by rw [txt_numV, ht], wf_numV hv, (sz_leaf (by simp)).2, (sz_leaf (by simp)).1, ?_⟩
          rw [← ht]; exact textL_ne _ _
    obtain ⟨v, e1, e2, e3, e4, e5, e6⟩ := key
    have hl : 1 ≤ x.length := List.length_pos_iff.2 e6
    rw [e1]
    refine ⟨fun _ => by rw [e2, hx], e3, ?_, ?_⟩
    · rw [e4, hx, List.length_append]; omega
    · rw [e5, hx, List.length_append]; omega
  · rcases fine_cases hf with ⟨n, d, hv, rfl⟩ | ⟨b, rfl⟩ | ⟨b, hb, rfl⟩ | ⟨l, hl, rfl⟩
    · rw [txt_numV] at hu
      have e := hcut _ r ha hu (fun c hc => (numc_ok (textL_chars n d c hc)).1) hr
      obtain ⟨p1, p2, p3⟩ := par_text hv
      obtain ⟨t1, t2⟩ := num_not_true n d
      rw [textB_bA] at p1 p2 p3
      subst e
      refine ⟨by simp [wordOk, p1], ?_, ?_⟩
      · unfold wordV; rw [if_neg t1, if_neg t2, if_pos p1, p2, p3]
      · rw [hx] at hu; exact List.append_cancel_left hu
    · rw [txt_truV] at hu
      have e := hcut _ r ha hu (fun c hc => by cases b <;> simp [truL] at hc <;> (rcases hc with rfl | rfl | rfl | rfl | rfl <;> exact ⟨by decide, by decide⟩) <;> (rcases hc with rfl | rfl | rfl | rfl <;> exact ⟨by decide, by decide⟩)) hr
      subst e
      refine ⟨by cases b <;> simp [wordOk, truL], by cases b <;> simp [wordV, truL], ?_⟩
      rw [hx] at hu; exact List.append_cancel_left hu
    · rw [txt_strV, quoL] at hu; exact absurd rfl (h1 _ _ hu).1
    · rw [txt_lstV] at hu; exact absurd rfl (h1 _ _ hu).2

/-- Of a result of package ratio. -/
def numR (n d e : Int) : V := if e = 0 then numV' n d else zerV
set_option maxHeartbeats 1000000 in
theorem vnumber_any (n d e : Int) (w : World) : Calls Tryz.prog 36 #[.agg #[.int .i64 n, .int .i64 d], .int .i64 e] w fun e' w' => e' = .returned (.tuple #[.agg #[.int .u8 (numR n d e).nd.k, .int .i64 (numR n d e).nd.n, .int .i64 (numR n d e).nd.d, .bool (numR n d e).nd.t, .string (numR n d e).nd.s, .slice none 0 0], .int .i64 e]) ∧ Below w.heap.size w w' := by
  by_cases h : e = 0
  · subst h
    have H6 : Six ((w.alloc (.cells #[.int .i64 n, .int .i64 d] 25)).alloc (.cells #[.int .u8 (numV' n d).nd.k, .int .i64 (numV' n d).nd.n, .int .i64 (numV' n d).nd.d, .bool (numV' n d).nd.t, .string (numV' n d).nd.s, .slice none 0 0] 28)) (w.heap.size + 1) (numV' n d).nd (.slice none 0 0) := by
      have := Six.new (w.alloc (.cells #[.int .i64 n, .int .i64 d] 25)) (numV' n d).nd (.slice none 0 0)
      rwa [World.size_alloc] at this
    have e0 := H6.row.c0
    have e1 := H6.row.c1
    have e2 := H6.row.c2
    have e3 := H6.row.c3
    have e4 := H6.row.c4
    have e5 := H6.row.c5
    simp only [Nat.zero_add] at e1 e2 e3 e4 e5
    clear H6
    go_enter Tryz.func36, Tryz.ntmps36
    go_wp2_with fail
    exact bodyPost_ret (v := .tuple #[.agg #[.int .u8 1, .int .i64 n, .int .i64 d, .bool false, .string ⟨#[]⟩, .slice none 0 0], .int .i64 0]) (by simp [results, Tryz.results36, go_sem, e0, e1, e2, e3, e4, e5]) rfl ⟨rfl, ((Below.refl _ _).alloc (Nat.le_refl _) _).alloc (by simp) _⟩
  · have h1 : (e == 0) = false := beq_eq_false_iff_ne.2 h
    have h2 : (e != 0) = true := by simp [bne, h1]
    have HN : Hid (numR n d e = zerV) := Lib.hid (by unfold numR; rw [if_neg h])
    have H6 : Six ((w.alloc (.cells #[.int .i64 n, .int .i64 d] 25)).alloc (.cells #[.int .u8 zerV.nd.k, .int .i64 zerV.nd.n, .int .i64 zerV.nd.d, .bool zerV.nd.t, .string zerV.nd.s, .slice none 0 0] 28)) (w.heap.size + 1) zerV.nd (.slice none 0 0) := by
      have := Six.new (w.alloc (.cells #[.int .i64 n, .int .i64 d] 25)) zerV.nd (.slice none 0 0)
      rwa [World.size_alloc] at this
    have e0 := H6.row.c0
    have e1 := H6.row.c1
    have e2 := H6.row.c2
    have e3 := H6.row.c3
    have e4 := H6.row.c4
    have e5 := H6.row.c5
    simp only [Nat.zero_add] at e1 e2 e3 e4 e5
    clear H6
    go_enter Tryz.func36, Tryz.ntmps36
    go_wp2_with fail
    exact bodyPost_ret (v := .tuple #[.agg #[.int .u8 0, .int .i64 0, .int .i64 0, .bool false, .string ⟨#[]⟩, .slice none 0 0], .int .i64 e]) (by simp [results, Tryz.results36, go_sem, e0, e1, e2, e3, e4, e5]) rfl ⟨by rw [HN.out]; rfl, ((Below.refl _ _).alloc (Nat.le_refl _) _).alloc (by simp) _⟩

theorem cut_yes {s : ByteArray} {p t : By} (h : lA s = p ++ t) (w : World) : Calls Tryz.prog 73 #[.string s, .string (bA p)] w fun e w' => e = .returned (.tuple #[.string (bA t), .bool true]) ∧ w' = w := by
  have K := Tryz.strings_CutPrefix s (bA p) w
  have e1 : Lib.hasPrefix s.data.toList (bA p).data.toList = true := by
    show List.isPrefixOf (lA (bA p)) (lA s) = true
    rw [lA_bA, h]; simp
  have e2 : Lib.trimPrefix s.data.toList (bA p).data.toList = t := by
    unfold Lib.trimPrefix
    rw [if_pos e1]
    show (lA s).drop (lA (bA p)).length = t
    rw [lA_bA, h]; simp
  rw [e1, e2] at K
  exact K
theorem cut_no {s : ByteArray} {p : By} (h : ∀ t, lA s ≠ p ++ t) (w : World) : Calls Tryz.prog 73 #[.string s, .string (bA p)] w fun e w' => e = .returned (.tuple #[.string s, .bool false]) ∧ w' = w := by
  have K := Tryz.strings_CutPrefix s (bA p) w
  have e1 : Lib.hasPrefix s.data.toList (bA p).data.toList = false := by
    show List.isPrefixOf (lA (bA p)) (lA s) = false
    rw [lA_bA, Bool.eq_false_iff]
    intro e
    obtain ⟨t, ht⟩ := List.isPrefixOf_iff_prefix.1 e
    exact h t ht.symm
  have e2 : (⟨(Lib.trimPrefix s.data.toList (bA p).data.toList).toArray⟩ : ByteArray) = s := by
    unfold Lib.trimPrefix
    rw [if_neg (by rw [e1]; simp)]
  rw [e1, e2] at K
  exact K
/-- What is stored into the result. -/
theorem rd_store {w W : World} {a0 : Nd} {s0 : Value} {v : V} {sl : Value} (S : Six W w.heap.size a0 s0) (hr : RepL (w.heap.size + 1 ≤ ·) W v.list sl) (hB : Below w.heap.size w W) :
    Six (sixSet W w.heap.size v.nd sl) w.heap.size v.nd sl ∧ RepL (w.heap.size ≤ ·) (sixSet W w.heap.size v.nd sl) v.list sl ∧ Below w.heap.size w (sixSet W w.heap.size v.nd sl) :=
  ⟨sixSet_six S _ _, hr.carry fun b hb hq => ⟨Nat.le_trans (Nat.le_succ _) hq, sixSet_heap _ _ (Nat.ne_of_gt hq)⟩, sixSet_below hB (Nat.le_refl _)⟩
end Go.Proofs.YtakjgjhjndiggaaGreatDoor
namespace Go.Proofs.YtakjgjhjndiggaaGreatDoor
open Go.RowKit Go.Shelf
open VM
open RM (vld vld_iff)
set_option linter.unusedVariables false
set_option linter.unusedSimpArgs false

/-- What strings.IndexAny hands back of a text and the two signs. -/
def IdxOk : Prop := ∀ (s : ByteArray) (w : World), s.size ≤ 4000 → Calls Tryz.prog 76 #[.string s, .string ⟨#[44, 93]⟩] w fun e w' => (∃ i : Int, e = .returned (.int .i64 i) ∧ -1 ≤ i ∧ i ≤ s.size ∧ (asc (lA s) → i = Lib.indexAny (lA s) [44, 93])) ∧ Below w.heap.size w w'
/-- Where the word ends. -/
def endN (s : ByteArray) (i : Int) : Nat := if i < 0 then s.size else i.toNat
theorem asc_split {a b : By} (h : asc (a ++ b)) : asc a ∧ asc b := ⟨fun c hc => h c (List.mem_append_left _ hc), fun c hc => h c (List.mem_append_right _ hc)⟩
theorem word_cut {s : ByteArray} {i : Int} (h : asc (lA s) → i = Lib.indexAny (lA s) [44, 93]) (hi : i ≤ s.size) : ∀ t r, asc (lA s) → lA s = t ++ r → (∀ c ∈ t, okc c) → term r → (lA s).take (endN s i) = t := by
  intro t r ha hs ht hr
  have hx := h ha
  rw [hs, idx_word t r ht hr] at hx
  have hl : (lA s).length = t.length + r.length := by rw [hs, List.length_append]
  rw [lA_len] at hl
  have e : endN s i = t.length := by
    unfold endN
    by_cases h1 : r = []
    · rw [if_pos h1] at hx; rw [if_pos (by omega), hl, h1]; simp
    · rw [if_neg h1] at hx; rw [if_neg (by omega), hx]; simp
  rw [e, hs]; simp
theorem take_ext (s : ByteArray) (k : Nat) : bA ((lA s).take k) = s.extract 0 k := by
  apply ByteArray.ext
  rw [ByteArray.data_extract]
  show ((lA s).take k).toArray = s.data.extract 0 k
  apply Array.ext'
  rw [Array.toList_extract]
  show s.data.toList.take k = (s.data.toList.drop 0).take (k - 0)
  simp

set_option maxHeartbeats 4000000 in
theorem read_pre (s : ByteArray) (hs : s.size ≤ 4000) (w : World) (hL : ∀ (t : By) (w1 : World), lA s = 91 :: t → Tab w1 → Len w1 → Calls Tryz.prog 75 #[.string (bA t)] w1 (RdEnd (PLs t) w1)) (ht : Tab w) (hl : Len w) (c : UInt8) (t : By) (hc : lA s = c :: t) (h91 : c = 34 ∨ c = 91) :
    Calls Tryz.prog 48 #[.string s] w (RdEnd (PRd (lA s)) w) := by
  have B0 : Hid (Below w.heap.size w (w.alloc (.cells #[.int .u8 0, .int .i64 0, .int .i64 0, .bool false, .string ⟨#[]⟩, .slice none 0 0] 28))) := Lib.hid ((Below.refl _ _).alloc (Nat.le_refl _) _)
  have S0 := Lib.hid (Six.new w ⟨0, 0, 0, false, ⟨#[]⟩⟩ (.slice none 0 0))
  have HT := Lib.hid (ht.later B0.out)
  have HLn := Lib.hid (hl.later B0.out)
  have hlen : t.length < 4000 := by have := lA_len s; rw [hc, List.length_cons] at this; omega
  clear ht hl
  rcases h91 with rfl | rfl
  · have KA := Lib.hid (fun w => cut_yes (s := s) (p := [34]) (t := t) (by rw [hc]; rfl) w)
    have KS := Lib.hid (fun w => readstr_any (bA t) (by rw [bA_size]; omega) w)
    rw [lA_bA] at KS
    have HP := Lib.hid (fun v rest ok (h : PStr t v rest ok) => PRd.str h (by omega))
    rw [← hc] at HP
    clear hL hc
    go_enter Tryz.func48, Tryz.ntmps48
    go_wp2_with fail
    refine (KA.out _).mono ?_
    rintro e w1 ⟨rfl, rfl⟩
    go_wp2_with fail
    refine (KS.out _).mono ?_
    rintro e w1 ⟨v, sl, rest, ok, rfl, hr1, hq, hb1⟩
    obtain ⟨p, cap, rfl⟩ := hr1.slice
    rw [World.size_alloc] at hr1
    have S1 := Lib.hid (S0.out.later hb1)
    have HE := Lib.hid (rd_store S1.out hr1 (B0.out.trans (hb1.mono B0.out.size)))
    have HQ := Lib.hid (HP.out _ _ _ hq)
    have l1 := S1.out.lt
    have q0 := S1.out.row.c0
    have q1 := S1.out.row.c1
    have q2 := S1.out.row.c2
    have q3 := S1.out.row.c3
    have q4 := S1.out.row.c4
    have q5 := S1.out.row.c5
    have f0 := S1.out.free 0
    have f1 := S1.out.free 1
    have f2 := S1.out.free 2
    have f3 := S1.out.free 3
    have f4 := S1.out.free 4
    have f5 := S1.out.free 5
    simp only [Nat.zero_add] at q1 q2 q3 q4 q5
    clear hr1 hq hb1
    go_wp2_with fail
    unfold sixSet at HE
    have e0 := HE.out.1.row.c0
    have e1 := HE.out.1.row.c1
    have e2 := HE.out.1.row.c2
    have e3 := HE.out.1.row.c3
    have e4 := HE.out.1.row.c4
    have e5 := HE.out.1.row.c5
    simp only [Nat.zero_add] at e1 e2 e3 e4 e5
    exact bodyPost_ret (v := .tuple #[.agg #[.int .u8 v.nd.k, .int .i64 v.nd.n, .int .i64 v.nd.d, .bool v.nd.t, .string v.nd.s, .slice p v.list.length cap], .string (bA rest), .bool ok]) (by simp [results, Tryz.results48, go_sem, q0, q1, q2, q3, q4, q5, l1, e0, e1, e2, e3, e4, e5] <;> rfl) rfl ⟨v, .slice p v.list.length cap, rest, ok, rfl, HE.out.2.1, HQ.out, HE.out.2.2⟩
  · have KA := Lib.hid (fun w => cut_no (s := s) (p := [34]) (by intro t' e; rw [hc] at e; injection e with e _; exact absurd e (by decide)) w)
    have KB := Lib.hid (fun w => cut_yes (s := s) (p := [91]) (t := t) (by rw [hc]; rfl) w)
    have KS := Lib.hid (fun w => hL t w hc)
    have HP := Lib.hid (fun v rest ok (h : PLs t v rest ok) => PRd.lst h)
    rw [← hc] at HP
    clear hL hc
    go_enter Tryz.func48, Tryz.ntmps48
    go_wp2_with fail
    refine (KA.out _).mono ?_
    rintro e w1 ⟨rfl, rfl⟩
    go_wp2_with fail
    refine (KB.out _).mono ?_
    rintro e w1 ⟨rfl, rfl⟩
    go_wp2_with fail
    refine (KS.out _ HT.out HLn.out).mono ?_
    rintro e w1 ⟨v, sl, rest, ok, rfl, hr1, hq, hb1⟩
    obtain ⟨p, cap, rfl⟩ := hr1.slice
    rw [World.size_alloc] at hr1
    have S1 := Lib.hid (S0.out.later hb1)
    have HE := Lib.hid (rd_store S1.out hr1 (B0.out.trans (hb1.mono B0.out.size)))
    have HQ := Lib.hid (HP.out _ _ _ hq)
    have l1 := S1.out.lt
    have q0 := S1.out.row.c0
    have q1 := S1.out.row.c1
    have q2 := S1.out.row.c2
    have q3 := S1.out.row.c3
    have q4 := S1.out.row.c4
    have q5 := S1.out.row.c5
    have f0 := S1.out.free 0
    have f1 := S1.out.free 1
    have f2 := S1.out.free 2
    have f3 := S1.out.free 3
    have f4 := S1.out.free 4
    have f5 := S1.out.free 5
    simp only [Nat.zero_add] at q1 q2 q3 q4 q5
    clear hr1 hq hb1
    go_wp2_with fail
    unfold sixSet at HE
    have e0 := HE.out.1.row.c0
    have e1 := HE.out.1.row.c1
    have e2 := HE.out.1.row.c2
    have e3 := HE.out.1.row.c3
    have e4 := HE.out.1.row.c4
    have e5 := HE.out.1.row.c5
    simp only [Nat.zero_add] at e1 e2 e3 e4 e5
    exact bodyPost_ret (v := .tuple #[.agg #[.int .u8 v.nd.k, .int .i64 v.nd.n, .int .i64 v.nd.d, .bool v.nd.t, .string v.nd.s, .slice p v.list.length cap], .string (bA rest), .bool ok]) (by simp [results, Tryz.results48, go_sem, q0, q1, q2, q3, q4, q5, l1, e0, e1, e2, e3, e4, e5] <;> rfl) rfl ⟨v, .slice p v.list.length cap, rest, ok, rfl, HE.out.2.1, HQ.out, HE.out.2.2⟩

set_option maxHeartbeats 4000000 in
theorem read_word (hidx : IdxOk) (s : ByteArray) (hs : s.size ≤ 4000) (w : World) (ht : Tab w) (hl : Len w) (h0 : ∀ c t, lA s = c :: t → c ≠ 34 ∧ c ≠ 91) :
    Calls Tryz.prog 48 #[.string s] w (RdEnd (PRd (lA s)) w) := by
  have B0 : Hid (Below w.heap.size w (w.alloc (.cells #[.int .u8 0, .int .i64 0, .int .i64 0, .bool false, .string ⟨#[]⟩, .slice none 0 0] 28))) := Lib.hid ((Below.refl _ _).alloc (Nat.le_refl _) _)
  have S0 := Lib.hid (Six.new w ⟨0, 0, 0, false, ⟨#[]⟩⟩ (.slice none 0 0))
  have HT := Lib.hid (ht.later B0.out)
  have HLn := Lib.hid (hl.later B0.out)
  have KA := Lib.hid (fun w => cut_no (s := s) (p := [34]) (by intro t' e; exact (h0 34 t' (by rw [e]; rfl)).1 rfl) w)
  have KB := Lib.hid (fun w => cut_no (s := s) (p := [91]) (by intro t' e; exact (h0 91 t' (by rw [e]; rfl)).2 rfl) w)
  have KI := Lib.hid (fun w => hidx s w hs)
  have H0 := Lib.hid h0
  clear ht hl hidx h0
  go_enter Tryz.func48, Tryz.ntmps48
  go_wp2_with fail
  refine (KA.out _).mono ?_
  rintro e w1 ⟨rfl, rfl⟩
  go_wp2_with fail
  refine (KB.out _).mono ?_
  rintro e w1 ⟨rfl, rfl⟩
  go_wp2_with fail
  refine (KI.out _).mono ?_
  rintro e w1 ⟨⟨i, rfl, hi1, hi2, hi3⟩, hb1⟩
  have S1 := Lib.hid (S0.out.later hb1)
  have HB1 := Lib.hid (B0.out.trans (hb1.mono B0.out.size))
  have HT1 := Lib.hid (HT.out.later hb1)
  have HL1 := Lib.hid (HLn.out.later hb1)
  have HW := Lib.hid (fun x (hx : x = (lA s).take (endN s i)) => PRd.word (s := lA s) (x := x) (rest := (lA s).drop (endN s i)) (by rw [hx, List.take_append_drop]) H0.out (fun t r h1 h2 h3 h4 => hx ▸ word_cut hi3 hi2 t r h1 h2 h3 h4))
  have HX := Lib.hid (take_ext s (endN s i))
  have HD := Lib.hid (drop_ext s (endN s i))
  have hen : endN s i ≤ s.size := by unfold endN; split <;> omega
  have l1 := S1.out.lt
  have q0 := S1.out.row.c0
  have q1 := S1.out.row.c1
  have q2 := S1.out.row.c2
  have q3 := S1.out.row.c3
  have q4 := S1.out.row.c4
  have q5 := S1.out.row.c5
  have f0 := S1.out.free 0
  have f1 := S1.out.free 1
  have f2 := S1.out.free 2
  have f3 := S1.out.free 3
  have f4 := S1.out.free 4
  have f5 := S1.out.free 5
  simp only [Nat.zero_add] at q1 q2 q3 q4 q5
  have hcase : (i < 0 ∧ (endN s i : Int) = s.size) ∨ (¬ i < 0 ∧ (endN s i : Int) = i) := by
    unfold endN
    by_cases h : i < 0
    · left; exact ⟨h, by rw [if_pos h]⟩
    · right; exact ⟨h, by rw [if_neg h]; omega⟩
  clear hb1 hi3 B0 S0
  obtain ⟨k, hk⟩ : ∃ k, k = endN s i := ⟨_, rfl⟩
  rw [← hk] at HW HX HD hen hcase
  clear hk
  rcases hcase with ⟨hc1, hc2⟩ | ⟨hc1, hc2⟩
  · obtain rfl : k = s.size := by omega
    have HXl : Hid (lA s = (lA s).take s.size) := Lib.hid (by rw [List.take_of_length_le (by rw [lA_len]; exact Nat.le_refl _)])
    have HWx := Lib.hid (HW.out (lA s) HXl.out)
    have HDr : Hid (bA ((lA s).drop s.size) = (⟨#[]⟩ : ByteArray)) := Lib.hid (by rw [List.drop_of_length_le (by rw [lA_len]; exact Nat.le_refl _)]; rfl)
    have htl : s.toList = lA s := ByteArray.toList_eq _
    have hxs : s.size ≤ 4000 := hs
    by_cases ht1 : lA s = [116, 114, 117, 101]
    · have g1 : (s.toList == [116, 114, 117, 101]) = true := by rw [htl, ht1]; rfl
      have HQ := Lib.hid HWx.out
      have HV : Hid (wordV (lA s) = truV true ∧ wordOk (lA s) = true) := Lib.hid (by unfold wordV wordOk; simp [ht1])
      rw [HV.out.1, HV.out.2] at HQ
      clear ht1 htl
      go_wp2_with fail
      go_region
      all_goals
        go_wp2_with fail
        have H6 := sixSet_six S1.out ⟨2, 0, 0, true, ⟨#[]⟩⟩ (.slice none 0 0)
        have HBw : Below w.heap.size w (sixSet w1 w.heap.size ⟨2, 0, 0, true, ⟨#[]⟩⟩ (.slice none 0 0)).drew := (sixSet_below HB1.out (Nat.le_refl _)).drew
        unfold sixSet at H6 HBw
        have e0 := H6.row.c0
        have e1 := H6.row.c1
        have e2 := H6.row.c2
        have e3 := H6.row.c3
        have e4 := H6.row.c4
        have e5 := H6.row.c5
        simp only [Nat.zero_add] at e1 e2 e3 e4 e5
        exact bodyPost_ret (v := .tuple #[.agg #[.int .u8 2, .int .i64 0, .int .i64 0, .bool true, .string ⟨#[]⟩, .slice none 0 0], .string (⟨#[]⟩ : ByteArray), .bool true]) (by simp [results, Tryz.results48, go_sem, q0, q1, q2, q3, q4, q5, l1, e0, e1, e2, e3, e4, e5] <;> rfl) rfl ⟨truV true, .slice none 0 0, (lA s).drop s.size, true, by rw [HDr.out]; rfl, RepL.nil _ _ _ _, HQ.out, HBw⟩
    · have g1 : (s.toList == [116, 114, 117, 101]) = false := by rw [htl]; exact beq_eq_false_iff_ne.2 ht1
      by_cases ht2 : lA s = [102, 97, 108, 115, 101]
      · have g2 : (s.toList == [102, 97, 108, 115, 101]) = true := by rw [htl, ht2]; rfl
        have HQ := Lib.hid HWx.out
        have HV : Hid (wordV (lA s) = truV false ∧ wordOk (lA s) = true) := Lib.hid (by unfold wordV wordOk; simp [ht2])
        rw [HV.out.1, HV.out.2] at HQ
        clear ht1 ht2 htl
        go_wp2_with fail
        go_region
        all_goals
          go_wp2_with fail
          have H6 := sixSet_six S1.out ⟨2, 0, 0, false, ⟨#[]⟩⟩ (.slice none 0 0)
          have HBw : Below w.heap.size w (sixSet w1 w.heap.size ⟨2, 0, 0, false, ⟨#[]⟩⟩ (.slice none 0 0)).drew := (sixSet_below HB1.out (Nat.le_refl _)).drew
          unfold sixSet at H6 HBw
          have e0 := H6.row.c0
          have e1 := H6.row.c1
          have e2 := H6.row.c2
          have e3 := H6.row.c3
          have e4 := H6.row.c4
          have e5 := H6.row.c5
          simp only [Nat.zero_add] at e1 e2 e3 e4 e5
          exact bodyPost_ret (v := .tuple #[.agg #[.int .u8 2, .int .i64 0, .int .i64 0, .bool false, .string ⟨#[]⟩, .slice none 0 0], .string (⟨#[]⟩ : ByteArray), .bool true]) (by simp [results, Tryz.results48, go_sem, q0, q1, q2, q3, q4, q5, l1, e0, e1, e2, e3, e4, e5] <;> rfl) rfl ⟨truV false, .slice none 0 0, (lA s).drop s.size, true, by rw [HDr.out]; rfl, RepL.nil _ _ _ _, HQ.out, HBw⟩
      · have g2 : (s.toList == [102, 97, 108, 115, 101]) = false := by rw [htl]; exact beq_eq_false_iff_ne.2 ht2
        have HQ := Lib.hid HWx.out
        have HV : Hid (wordV (lA s) = numR (parN s) (parD s) (parE s) ∧ wordOk (lA s) = decide (parE s = 0)) := Lib.hid (by unfold wordV wordOk numR; rw [if_neg ht1, if_neg ht2, bA_lA]; simp [ht1, ht2])
        rw [HV.out.1, HV.out.2] at HQ
        have KP := Lib.hid (parse_any s (by omega) w1 HT1.out HL1.out)
        clear ht1 ht2 htl
        go_wp2_with fail
        refine KP.out.mono ?_
        rintro e w2 ⟨rfl, hb2⟩
        obtain ⟨n, hn⟩ : ∃ n, parN s = n := ⟨_, rfl⟩
        obtain ⟨d, hd⟩ : ∃ d, parD s = d := ⟨_, rfl⟩
        obtain ⟨f, hf⟩ : ∃ f, parE s = f := ⟨_, rfl⟩
        rw [hn, hd, hf] at HQ ⊢
        clear hn hd hf KP
        have S2 := Lib.hid (S1.out.later hb2)
        have HB2 := Lib.hid (HB1.out.trans (hb2.mono HB1.out.size))
        clear hb2 q0 q1 q2 q3 q4 q5 f0 f1 f2 f3 f4 f5 l1
        go_wp2_with fail
        refine (vnumber_any n d f w2).mono ?_
        rintro e w3 ⟨rfl, hb3⟩
        have S3 := Lib.hid (S2.out.later hb3)
        have HB3 := Lib.hid (HB2.out.trans (hb3.mono HB2.out.size))
        have l1 := S3.out.lt
        have q0 := S3.out.row.c0
        have q1 := S3.out.row.c1
        have q2 := S3.out.row.c2
        have q3 := S3.out.row.c3
        have q4 := S3.out.row.c4
        have q5 := S3.out.row.c5
        have f0 := S3.out.free 0
        have f1 := S3.out.free 1
        have f2 := S3.out.free 2
        have f3 := S3.out.free 3
        have f4 := S3.out.free 4
        have f5 := S3.out.free 5
        simp only [Nat.zero_add] at q1 q2 q3 q4 q5
        clear hb3
        have HNl : Hid ((numR n d f).list = []) := Lib.hid (by unfold numR; split <;> rfl)
        have HFe : Hid ((f == 0) = decide (f = 0)) := Lib.hid (by first | rfl | (by_cases h : f = 0 <;> simp [h]))
        obtain ⟨v, hv⟩ : ∃ v, numR n d f = v := ⟨_, rfl⟩
        rw [hv] at HQ HNl ⊢
        clear hv
        go_wp2_with fail
        go_region
        all_goals
          go_wp2_with fail
          have H6 := sixSet_six (sixSet_six S3.out v.nd (.slice none 0 0)) v.nd (.slice none 0 0)
          have HBw : Below w.heap.size w (sixSet (sixSet w3 w.heap.size v.nd (.slice none 0 0)) w.heap.size v.nd (.slice none 0 0)).drew := (sixSet_below (sixSet_below HB3.out (Nat.le_refl _)) (Nat.le_refl _)).drew
          unfold sixSet at H6 HBw
          have e0 := H6.row.c0
          have e1 := H6.row.c1
          have e2 := H6.row.c2
          have e3 := H6.row.c3
          have e4 := H6.row.c4
          have e5 := H6.row.c5
          simp only [Nat.zero_add] at e1 e2 e3 e4 e5
          exact bodyPost_ret (v := .tuple #[.agg #[.int .u8 v.nd.k, .int .i64 v.nd.n, .int .i64 v.nd.d, .bool v.nd.t, .string v.nd.s, .slice none 0 0], .string (⟨#[]⟩ : ByteArray), .bool (f == 0)]) (by simp [results, Tryz.results48, go_sem, q0, q1, q2, q3, q4, q5, l1, e0, e1, e2, e3, e4, e5] <;> rfl) rfl ⟨v, .slice none 0 0, (lA s).drop s.size, decide (f = 0), by rw [HDr.out, HFe.out], by rw [HNl.out]; exact RepL.nil _ _ _ _, HQ.out, HBw⟩
  · obtain rfl : i = (k : Int) := hc2.symm
    clear hc2
    have y1 : (0 : Int) ≤ (k : Int) := by omega
    have y2 : (k : Int) ≤ (s.size : Int) := by omega
    have y3 : ((k : Int)).toNat = k := by omega
    have HXl : Hid (lA (s.extract 0 k) = (lA s).take k) := Lib.hid (by rw [← HX.out, lA_bA])
    have HWx := Lib.hid (HW.out (lA (s.extract 0 k)) HXl.out)
    have HDr : Hid (bA ((lA s).drop k) = (s.extract k s.size)) := Lib.hid HD.out
    have htl : (s.extract 0 k).toList = lA (s.extract 0 k) := ByteArray.toList_eq _
    have hxs : (s.extract 0 k).size ≤ 4000 := (by rw [← HX.out, bA_size, List.length_take, lA_len]; omega)
    by_cases ht1 : lA (s.extract 0 k) = [116, 114, 117, 101]
    · have g1 : ((s.extract 0 k).toList == [116, 114, 117, 101]) = true := by rw [htl, ht1]; rfl
      have HQ := Lib.hid HWx.out
      have HV : Hid (wordV (lA (s.extract 0 k)) = truV true ∧ wordOk (lA (s.extract 0 k)) = true) := Lib.hid (by unfold wordV wordOk; simp [ht1])
      rw [HV.out.1, HV.out.2] at HQ
      clear ht1 htl
      go_wp2_with fail
      go_region
      all_goals
        go_wp2_with fail
        have H6 := sixSet_six S1.out ⟨2, 0, 0, true, ⟨#[]⟩⟩ (.slice none 0 0)
        have HBw : Below w.heap.size w (sixSet w1 w.heap.size ⟨2, 0, 0, true, ⟨#[]⟩⟩ (.slice none 0 0)).drew := (sixSet_below HB1.out (Nat.le_refl _)).drew
        unfold sixSet at H6 HBw
        have e0 := H6.row.c0
        have e1 := H6.row.c1
        have e2 := H6.row.c2
        have e3 := H6.row.c3
        have e4 := H6.row.c4
        have e5 := H6.row.c5
        simp only [Nat.zero_add] at e1 e2 e3 e4 e5
        exact bodyPost_ret (v := .tuple #[.agg #[.int .u8 2, .int .i64 0, .int .i64 0, .bool true, .string ⟨#[]⟩, .slice none 0 0], .string (s.extract k s.size), .bool true]) (by simp [results, Tryz.results48, go_sem, q0, q1, q2, q3, q4, q5, l1, e0, e1, e2, e3, e4, e5] <;> rfl) rfl ⟨truV true, .slice none 0 0, (lA s).drop k, true, by rw [HDr.out]; rfl, RepL.nil _ _ _ _, HQ.out, HBw⟩
    · have g1 : ((s.extract 0 k).toList == [116, 114, 117, 101]) = false := by rw [htl]; exact beq_eq_false_iff_ne.2 ht1
      by_cases ht2 : lA (s.extract 0 k) = [102, 97, 108, 115, 101]
      · have g2 : ((s.extract 0 k).toList == [102, 97, 108, 115, 101]) = true := by rw [htl, ht2]; rfl
        have HQ := Lib.hid HWx.out
        have HV : Hid (wordV (lA (s.extract 0 k)) = truV false ∧ wordOk (lA (s.extract 0 k)) = true) := Lib.hid (by unfold wordV wordOk; simp [ht2])
        rw [HV.out.1, HV.out.2] at HQ
        clear ht1 ht2 htl
        go_wp2_with fail
        go_region
        all_goals
          go_wp2_with fail
          have H6 := sixSet_six S1.out ⟨2, 0, 0, false, ⟨#[]⟩⟩ (.slice none 0 0)
          have HBw : Below w.heap.size w (sixSet w1 w.heap.size ⟨2, 0, 0, false, ⟨#[]⟩⟩ (.slice none 0 0)).drew := (sixSet_below HB1.out (Nat.le_refl _)).drew
          unfold sixSet at H6 HBw
          have e0 := H6.row.c0
          have e1 := H6.row.c1
          have e2 := H6.row.c2
          have e3 := H6.row.c3
          have e4 := H6.row.c4
          have e5 := H6.row.c5
          simp only [Nat.zero_add] at e1 e2 e3 e4 e5
          exact bodyPost_ret (v := .tuple #[.agg #[.int .u8 2, .int .i64 0, .int .i64 0, .bool false, .string ⟨#[]⟩, .slice none 0 0], .string (s.extract k s.size), .bool true]) (by simp [results, Tryz.results48, go_sem, q0, q1, q2, q3, q4, q5, l1, e0, e1, e2, e3, e4, e5] <;> rfl) rfl ⟨truV false, .slice none 0 0, (lA s).drop k, true, by rw [HDr.out]; rfl, RepL.nil _ _ _ _, HQ.out, HBw⟩
      · have g2 : ((s.extract 0 k).toList == [102, 97, 108, 115, 101]) = false := by rw [htl]; exact beq_eq_false_iff_ne.2 ht2
        have HQ := Lib.hid HWx.out
        have HV : Hid (wordV (lA (s.extract 0 k)) = numR (parN (s.extract 0 k)) (parD (s.extract 0 k)) (parE (s.extract 0 k)) ∧ wordOk (lA (s.extract 0 k)) = decide (parE (s.extract 0 k) = 0)) := Lib.hid (by unfold wordV wordOk numR; rw [if_neg ht1, if_neg ht2, bA_lA]; simp [ht1, ht2])
        rw [HV.out.1, HV.out.2] at HQ
        have KP := Lib.hid (parse_any (s.extract 0 k) (by omega) w1 HT1.out HL1.out)
        clear ht1 ht2 htl
        go_wp2_with fail
        refine KP.out.mono ?_
        rintro e w2 ⟨rfl, hb2⟩
        obtain ⟨n, hn⟩ : ∃ n, parN (s.extract 0 k) = n := ⟨_, rfl⟩
        obtain ⟨d, hd⟩ : ∃ d, parD (s.extract 0 k) = d := ⟨_, rfl⟩
        obtain ⟨f, hf⟩ : ∃ f, parE (s.extract 0 k) = f := ⟨_, rfl⟩
        rw [hn, hd, hf] at HQ ⊢
        clear hn hd hf KP
        have S2 := Lib.hid (S1.out.later hb2)
        have HB2 := Lib.hid (HB1.out.trans (hb2.mono HB1.out.size))
        clear hb2 q0 q1 q2 q3 q4 q5 f0 f1 f2 f3 f4 f5 l1
        go_wp2_with fail
        refine (vnumber_any n d f w2).mono ?_
        rintro e w3 ⟨rfl, hb3⟩
        have S3 := Lib.hid (S2.out.later hb3)
        have HB3 := Lib.hid (HB2.out.trans (hb3.mono HB2.out.size))
        have l1 := S3.out.lt
        have q0 := S3.out.row.c0
        have q1 := S3.out.row.c1
        have q2 := S3.out.row.c2
        have q3 := S3.out.row.c3
        have q4 := S3.out.row.c4
        have q5 := S3.out.row.c5
        have f0 := S3.out.free 0
        have f1 := S3.out.free 1
        have f2 := S3.out.free 2
        have f3 := S3.out.free 3
        have f4 := S3.out.free 4
        have f5 := S3.out.free 5
        simp only [Nat.zero_add] at q1 q2 q3 q4 q5
        clear hb3
        have HNl : Hid ((numR n d f).list = []) := Lib.hid (by unfold numR; split <;> rfl)
        have HFe : Hid ((f == 0) = decide (f = 0)) := Lib.hid (by first | rfl | (by_cases h : f = 0 <;> simp [h]))
        obtain ⟨v, hv⟩ : ∃ v, numR n d f = v := ⟨_, rfl⟩
        rw [hv] at HQ HNl ⊢
        clear hv
        go_wp2_with fail
        go_region
        all_goals
          go_wp2_with fail
          have H6 := sixSet_six (sixSet_six S3.out v.nd (.slice none 0 0)) v.nd (.slice none 0 0)
          have HBw : Below w.heap.size w (sixSet (sixSet w3 w.heap.size v.nd (.slice none 0 0)) w.heap.size v.nd (.slice none 0 0)).drew := (sixSet_below (sixSet_below HB3.out (Nat.le_refl _)) (Nat.le_refl _)).drew
          unfold sixSet at H6 HBw
          have e0 := H6.row.c0
          have e1 := H6.row.c1
          have e2 := H6.row.c2
          have e3 := H6.row.c3
          have e4 := H6.row.c4
          have e5 := H6.row.c5
          simp only [Nat.zero_add] at e1 e2 e3 e4 e5
          exact bodyPost_ret (v := .tuple #[.agg #[.int .u8 v.nd.k, .int .i64 v.nd.n, .int .i64 v.nd.d, .bool v.nd.t, .string v.nd.s, .slice none 0 0], .string (s.extract k s.size), .bool (f == 0)]) (by simp [results, Tryz.results48, go_sem, q0, q1, q2, q3, q4, q5, l1, e0, e1, e2, e3, e4, e5] <;> rfl) rfl ⟨v, .slice none 0 0, (lA s).drop k, decide (f = 0), by rw [HDr.out, HFe.out], by rw [HNl.out]; exact RepL.nil _ _ _ _, HQ.out, HBw⟩

theorem read_of_list (hidx : IdxOk) (s : ByteArray) (hs : s.size ≤ 4000) (w : World) (hL : ∀ (t : By) (w1 : World), lA s = 91 :: t → Tab w1 → Len w1 → Calls Tryz.prog 75 #[.string (bA t)] w1 (RdEnd (PLs t) w1)) (ht : Tab w) (hl : Len w) :
    Calls Tryz.prog 48 #[.string s] w (RdEnd (PRd (lA s)) w) := by
  cases hc : lA s with
  | nil => rw [← hc]; exact read_word hidx s hs w ht hl (by intro c t e; rw [hc] at e; simp at e)
  | cons c t =>
    rw [← hc]
    by_cases h : c = 34 ∨ c = 91
    · exact read_pre s hs w hL ht hl c t hc h
    · exact read_word hidx s hs w ht hl (by intro c' t' e; rw [hc] at e; injection e with e _; subst e; exact ⟨fun e => h (.inl e), fun e => h (.inr e)⟩)
end Go.Proofs.YtakjgjhjndiggaaGreatDoor
