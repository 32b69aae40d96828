/-
  What the reference's Read hands back: the mathematics. What the reference's Read hands back: the walk. What the reference's Read hands back of lists, and of any text.
-/
import Derived.Test.YtakjgjhjndiggaaGreatDoorValRfN
import Derived.Test.YtakjgjhjndiggaaGreatDoorValRdLst
namespace Go.Proofs.YtakjgjhjndiggaaGreatDoor
open Go.RowKit Go.Shelf
open VM
open RM (vld vld_iff)
set_option linter.unusedVariables false
set_option linter.unusedSimpArgs false

/-- What Read hands back at a depth. -/
def PRn (n : Nat) (s : By) (v : V) (rest : By) (ok : Bool) : Prop :=
  (ok = true → (fineB v = true → s = txt v ++ rest) ∧ Wf 20000 v ∧ hgt v + rest.length ≤ s.length ∧ parts v + rest.length ≤ s.length) ∧
  (∀ u r, fineB u = true → deep u ≤ n → s = txt u ++ r → term r → ok = true ∧ v = u ∧ rest = r)
/-- What its loop hands back, of the bytes behind the bracket. -/
def PLn (n : Nat) (s : By) (v : V) (rest : By) (ok : Bool) : Prop :=
  (ok = true → ∃ l, v = lstV l ∧ ((∀ x ∈ l, fineB x = true) → s = bod l ++ rest) ∧ (∀ x ∈ l, Wf 20000 x) ∧ l.length ≤ 20000 ∧ hgtL l + rest.length + 1 ≤ s.length ∧ partsL l + rest.length + 1 ≤ s.length) ∧
  (∀ l r, (∀ x ∈ l, fineB x = true ∧ deep x ≤ n) → s = bod l ++ r → ok = true ∧ v = lstV l ∧ rest = r)
theorem deep_lst {l : List V} {n : Nat} (h : deep (lstV l) ≤ n + 1) : ∀ x ∈ l, deep x ≤ n := by
  intro x hx
  have : deep (lstV l) = 1 + deepL l := by unfold lstV; rw [deep_eq]; simp
  have := deepL_mem hx; omega
theorem PRn.lst {n : Nat} {s : By} {v : V} {rest : By} {ok : Bool} (h : PLn n s v rest ok) : PRn (n + 1) (91 :: s) v rest ok := by
  refine ⟨fun e => ?_, fun u r hf hd hu hr => ?_⟩
  · obtain ⟨l, rfl, h1, h2, h3, h4, h5⟩ := h.1 e
    obtain ⟨p1, p2⟩ := sz_lst l
    refine ⟨fun hf => ?_, wf_lstV h2 h3, by rw [p2, List.length_cons]; omega, by rw [p1, List.length_cons]; omega⟩
    rw [txt_lstV, h1 (fine_lstV.1 hf)]; rfl
  · rcases fine_cases hf with ⟨n, d, _, rfl⟩ | ⟨b, rfl⟩ | ⟨b, hb, rfl⟩ | ⟨l, hl, rfl⟩
    · rw [txt_numV] at hu; exact absurd rfl (numc_ok (head_num hu)).2.2.1
    · rw [txt_truV] at hu; rcases tru_head hu with e | e <;> exact absurd e (by decide)
    · rw [txt_strV, quoL] at hu; injection hu with e _; exact absurd e (by decide)
    · rw [txt_lstV] at hu
      injection hu with _ hu
      exact h.2 l r (fun x hx => ⟨hl x hx, deep_lst hd x hx⟩) hu
theorem PRn.str {n : Nat} {s : By} {v : V} {rest : By} {ok : Bool} (h : PStr s v rest ok) (hs : s.length ≤ 4000) : PRn n (34 :: s) v rest ok := by
  have hp := PRd.str h hs
  refine ⟨hp.1, fun u r hf hd hu hr => ?_⟩
  rcases fine_cases hf with ⟨n, d, _, rfl⟩ | ⟨b, rfl⟩ | ⟨b, hb, rfl⟩ | ⟨l, _, rfl⟩
  · rw [txt_numV] at hu; exact absurd rfl (numc_ok (head_num hu)).2.1
  · rw [txt_truV] at hu; rcases tru_head hu with e | e <;> exact absurd e (by decide)
  · rw [txt_strV, quoL] at hu
    injection hu with _ hu
    exact h.2.2 b r (pr_ascii hb) (by rw [hu]; simp)
  · rw [txt_lstV] at hu; injection hu with e _; exact absurd e (by decide)
theorem PRn.tru {n : Nat} {s rest : By} {b : Bool} (hs : s = truL b ++ rest) : PRn n s (truV b) rest true := by
  refine ⟨fun _ => ⟨fun _ => by rw [txt_truV, hs], wf_truV b, ?_, ?_⟩, fun u r hf hd hu hr => ?_⟩
  · rw [show hgt (truV b) = 1 from (sz_leaf (by simp)).2, hs, List.length_append]
    have : 1 ≤ (truL b).length := by cases b <;> simp [truL]
    omega
  · rw [show parts (truV b) = 1 from (sz_leaf (by simp)).1, hs, List.length_append]
    have : 1 ≤ (truL b).length := by cases b <;> simp [truL]
    omega
  · rw [hs] at hu
    rcases fine_cases hf with ⟨n, d, _, rfl⟩ | ⟨b', rfl⟩ | ⟨b', hb, rfl⟩ | ⟨l, hl, rfl⟩
    · rw [txt_numV] at hu
      cases b
      · have := numc_ok (head_num (c := 102) (s := [97, 108, 115, 101] ++ rest) (by simpa [truL] using hu)); exact absurd rfl this.2.2.2.2
      · have := numc_ok (head_num (c := 116) (s := [114, 117, 101] ++ rest) (by simpa [truL] using hu)); exact absurd rfl this.2.2.2.1
    · rw [txt_truV] at hu
      cases b <;> cases b' <;> simp [truL] at hu
      · exact ⟨rfl, rfl, hu⟩
      · exact ⟨rfl, rfl, hu⟩
    · rw [txt_strV, quoL] at hu; cases b <;> simp [truL] at hu
    · rw [txt_lstV] at hu; cases b <;> simp [truL] at hu
theorem PRn.none {n : Nat} {s rest : By} {v : V} (h : n = 0 ∨ s = []) : PRn n s v rest false := by
  refine ⟨fun e => by simp at e, fun u r hf hd hu hr => ?_⟩
  rcases h with rfl | rfl
  · have := deep_pos u; omega
  · obtain ⟨c, t, e, _⟩ := txt_head hf
    rw [e] at hu; simp at hu
theorem itoa_mun (n : Int) : ∀ (i : Nat) (h : i < (Lib.itoa n).length), munC i (Lib.itoa n)[i] := by
  intro i h
  by_cases hn : n < 0
  · have e : Lib.itoa n = 45 :: Lib.decDigits n.natAbs := by unfold Lib.itoa; rw [if_pos hn]
    cases i with
    | zero => right; right; exact ⟨by simp [e], rfl⟩
    | succ i =>
      left
      have : (Lib.itoa n)[i + 1] ∈ Lib.decDigits n.natAbs := by
        simp only [e, List.getElem_cons_succ]; exact List.getElem_mem _
      exact dec_digits _ _ this
  · have e : Lib.itoa n = Lib.decDigits n.toNat := by unfold Lib.itoa; rw [if_neg hn]
    left
    have : (Lib.itoa n)[i] ∈ Lib.decDigits n.toNat := by rw [← e]; exact List.getElem_mem _
    exact dec_digits _ _ this
theorem textL_mun {n d : Int} (hd : 1 ≤ d) : ∀ (i : Nat) (h : i < (textL n d).length), munC i (textL n d)[i] := by
  intro i h
  by_cases h1 : d = 1
  · have e : textL n d = Lib.itoa n := by unfold textL; rw [if_pos h1]
    have := itoa_mun n i (by rw [← e]; exact h)
    simpa [e] using this
  · have e : textL n d = Lib.itoa n ++ 47 :: Lib.itoa d := by unfold textL; rw [if_neg h1]
    by_cases h2 : i < (Lib.itoa n).length
    · have := itoa_mun n i h2
      have e2 : (textL n d)[i] = (Lib.itoa n)[i] := by simp only [e]; exact List.getElem_append_left h2
      rw [e2]; exact this
    · have e2 : (textL n d)[i] = (47 :: Lib.itoa d)[i - (Lib.itoa n).length]'(by rw [e, List.length_append] at h; omega) := by simp only [e]; exact List.getElem_append_right (by omega)
      rw [e2]
      by_cases h3 : i = (Lib.itoa n).length
      · right; left; simp [h3]
      · left
        have ed : Lib.itoa d = Lib.decDigits d.toNat := by unfold Lib.itoa; rw [if_neg (by omega)]
        obtain ⟨j, hj⟩ : ∃ j, i - (Lib.itoa n).length = j + 1 := ⟨i - (Lib.itoa n).length - 1, by omega⟩
        have hm : (47 :: Lib.itoa d)[i - (Lib.itoa n).length]'(by rw [e, List.length_append] at h; omega) ∈ Lib.decDigits d.toNat := by
          rw [← ed]; simp only [hj, List.getElem_cons_succ]; exact List.getElem_mem _
        exact dec_digits _ _ hm
theorem mun_stop {j : Nat} {c : UInt8} (h : c = 44 ∨ c = 93) : ¬ munC j c := by
  rintro (⟨h1, h2⟩ | h1 | ⟨h1, _⟩) <;> rcases h with rfl | rfl
  · revert h1; decide
  · revert h2; decide
  · exact absurd h1 (by decide)
  · exact absurd h1 (by decide)
  · exact absurd h1 (by decide)
  · exact absurd h1 (by decide)
theorem PRn.num {n : Nat} {s : ByteArray} {at_ k : Nat} {v : V} {ok : Bool} (h : QNum s at_ v k ok) (h1 : ∀ c t, (lA s).drop at_ = c :: t → c ≠ 34 ∧ c ≠ 91) (h2 : ∀ b r, (lA s).drop at_ ≠ truL b ++ r) : PRn n ((lA s).drop at_) v ((lA s).drop k) ok := by
  have hx : s.extract at_ k = bA (((lA s).drop at_).take (k - at_)) := ext_take s at_ k
  have hsp : (lA s).drop at_ = ((lA s).drop at_).take (k - at_) ++ (lA s).drop k := by
    have e : ((lA s).drop at_).drop (k - at_) = (lA s).drop k := by rw [List.drop_drop]; congr 1; have := h.lo; omega
    rw [← e, List.take_append_drop]
  have hl : (((lA s).drop at_).take (k - at_)).length = k - at_ := by
    rw [List.length_take, List.length_drop, lA_len]; have := h.hi; omega
  have hlen : ((lA s).drop at_).length = (k - at_) + ((lA s).drop k).length := by
    conv => lhs; rw [hsp, List.length_append, hl]
  refine ⟨fun e => ?_, fun u r hf hd hu hr => ?_⟩
  · have he : parE (s.extract at_ k) = 0 := by rw [h.ok] at e; simpa using e
    obtain ⟨hv, ht⟩ := par_fine he
    rw [hx, textB_bA] at ht
    have ht := bA_inj ht
    rw [← hx] at ht
    have hne : 1 ≤ k - at_ := by
      rw [← hl, ← ht]; exact List.length_pos_iff.2 (textL_ne _ _)
    rw [h.v]
    refine ⟨fun _ => by rw [txt_numV, ht]; exact hsp, wf_numV hv, ?_, ?_⟩
    · rw [show hgt (numV' _ _) = 1 from (sz_leaf (by simp)).2, hlen]; omega
    · rw [show parts (numV' _ _) = 1 from (sz_leaf (by simp)).1, hlen]; omega
  · rcases fine_cases hf with ⟨n, d, hv, rfl⟩ | ⟨b, rfl⟩ | ⟨b, hb, rfl⟩ | ⟨l, hl, rfl⟩
    · rw [txt_numV] at hu
      obtain ⟨d1, _⟩ := vld_iff.1 hv
      have key : k - at_ = (textL n d).length := by
        have hul : ((lA s).drop at_).length = (textL n d).length + r.length := by rw [hu, List.length_append]
        rw [List.length_drop, lA_len] at hul
        rcases Nat.lt_trichotomy (k - at_) (textL n d).length with hlt | heq | hgt
        · exfalso
          have hks : k < s.size := by have := h.lo; omega
          refine h.stop hks ?_
          have := textL_mun (n := n) d1 (k - at_) hlt
          have e : s[k] = (textL n d)[k - at_] := by
            have e1 : s[k] = ((lA s).drop at_)[k - at_]'(by rw [List.length_drop, lA_len]; omega) := by
              rw [get_drop]; exact getElem_congr_idx (c := lA s) (show k = at_ + (k - at_) by have := h.lo; clear hul; omega)
            rw [e1]
            simp only [hu]
            exact List.getElem_append_left hlt
          rw [e]; exact this
        · exact heq
        · exfalso
          rcases hr with rfl | ⟨c, r', rfl, hc⟩
          · have := h.hi; simp at hul; omega
          · have hi := h.all (at_ + (textL n d).length) (by omega) (by omega) (by have := h.hi; omega)
            have e : s[at_ + (textL n d).length]'(by have := h.hi; omega) = c := by
              have e1 : s[at_ + (textL n d).length]'(by have := h.hi; omega) = ((lA s).drop at_)[(textL n d).length]'(by rw [List.length_drop, lA_len]; have := h.hi; omega) := by
                rw [get_drop]; rfl
              rw [e1]
              simp only [hu]
              rw [List.getElem_append_right (Nat.le_refl _)]; simp
            rw [e] at hi
            exact mun_stop hc hi
      have hw : ((lA s).drop at_).take (k - at_) = textL n d := by rw [key, hu]; simp
      obtain ⟨p1, p2, p3⟩ := par_text hv
      rw [textB_bA, ← hw, ← hx] at p1 p2 p3
      refine ⟨by rw [h.ok]; simp [p1], by rw [h.v, p2, p3], ?_⟩
      have : (lA s).drop k = ((lA s).drop at_).drop (k - at_) := by rw [List.drop_drop]; congr 1; have := h.lo; omega
      rw [this, key, hu]; simp
    · rw [txt_truV] at hu; exact absurd hu (h2 b r)
    · rw [txt_strV, quoL] at hu; exact absurd rfl (h1 _ _ hu).1
    · rw [txt_lstV] at hu; exact absurd rfl (h1 _ _ hu).2
/-- Where the loop stands. -/
structure LnAt (n : Nat) (s : By) (vs : List V) (cur : By) : Prop where
  snd : (∀ x ∈ vs, fineB x = true) → s = preT vs ++ cur
  wf : ∀ x ∈ vs, Wf 20000 x
  hg : hgtL vs + cur.length ≤ s.length
  pt : partsL vs + cur.length ≤ s.length
  ln : vs.length + cur.length ≤ s.length
  cmp : ∀ l r, (∀ x ∈ l, fineB x = true ∧ deep x ≤ n) → s = bod l ++ r → ∃ m, l = vs ++ m ∧ m ≠ [] ∧ cur = bod m ++ r
theorem LnAt.start {n : Nat} {s : By} (h : ∀ t, s ≠ 93 :: t) : LnAt n s [] s := by
  refine ⟨fun _ => by simp [preT], by simp, by simp [hgtL], by simp [partsL], by simp, fun l r _ hs => ⟨l, rfl, ?_, hs⟩⟩
  rintro rfl
  rw [bod_nil] at hs; exact h r hs
theorem PLn.empty {n : Nat} {s t : By} (h : s = 93 :: t) : PLn n s (lstV []) t true := by
  refine ⟨fun _ => ⟨[], rfl, fun _ => by rw [bod_nil, h]; rfl, by simp, by simp, by rw [h]; simp [hgtL], by rw [h]; simp [partsL]⟩, fun l r hl hs => ?_⟩
  rw [h] at hs
  obtain ⟨rfl, rfl⟩ := bod_93 (fun x hx => (hl x hx).1) hs.symm
  exact ⟨rfl, rfl, rfl⟩
theorem LnAt.last {n : Nat} {s : By} {vs : List V} {cur rest after : By} {e : V} (h : LnAt n s vs cur) (he : PRn n cur e after true) (ha : after = 93 :: rest) (hs : s.length ≤ 4000) : PLn n s (lstV (vs ++ [e])) rest true := by
  obtain ⟨h1, h2, h3, h4⟩ := he.1 rfl
  rw [ha, List.length_cons] at h3 h4
  have hp := parts_pos e
  have := h.hg; have := h.pt; have := h.ln
  refine ⟨fun _ => ⟨vs ++ [e], rfl, fun hf => ?_, fun x hx => ?_, by rw [List.length_append, List.length_singleton]; omega, by rw [hgtL_app]; simp only [hgtL]; omega, by rw [partsL_app]; simp only [partsL]; omega⟩, fun l r hl hb => ?_⟩
  · rw [h.snd fun x hx => hf x (List.mem_append_left _ hx), h1 (hf e (by simp)), ha, preT_last]
  · rw [List.mem_append, List.mem_singleton] at hx
    rcases hx with hx | rfl
    · exact h.wf x hx
    · exact h2
  · obtain ⟨m, rfl, hm, hc⟩ := h.cmp l r hl hb
    cases m with
    | nil => exact absurd rfl hm
    | cons x m =>
      rw [bod_cons, List.append_assoc] at hc
      obtain ⟨_, e1, e2⟩ := he.2 x (tlL m ++ r) (hl x (by simp)).1 (hl x (by simp)).2 hc (tlL_term m r)
      rw [ha] at e2
      cases m with
      | nil => rw [tlL_nil] at e2; injection e2 with _ e2; exact ⟨rfl, by rw [e1], e2⟩
      | cons y m => rw [tlL_cons] at e2; injection e2 with e2 _; exact absurd e2 (by decide)
theorem LnAt.next {n : Nat} {s : By} {vs : List V} {cur cur' after : By} {e : V} (h : LnAt n s vs cur) (he : PRn n cur e after true) (ha : after = 44 :: 32 :: cur') : LnAt n s (vs ++ [e]) cur' := by
  obtain ⟨h1, h2, h3, h4⟩ := he.1 rfl
  rw [ha, List.length_cons, List.length_cons] at h3 h4
  have hp := parts_pos e
  have := h.hg; have := h.pt; have := h.ln
  refine ⟨fun hf => ?_, fun x hx => ?_, by rw [hgtL_app]; simp only [hgtL]; omega, by rw [partsL_app]; simp only [partsL]; omega, by rw [List.length_append, List.length_singleton]; omega, fun l r hl hb => ?_⟩
  · rw [h.snd fun x hx => hf x (List.mem_append_left _ hx), h1 (hf e (by simp)), ha, preT_next]
  · rw [List.mem_append, List.mem_singleton] at hx
    rcases hx with hx | rfl
    · exact h.wf x hx
    · exact h2
  · obtain ⟨m, rfl, hm, hc⟩ := h.cmp l r hl hb
    cases m with
    | nil => exact absurd rfl hm
    | cons x m =>
      rw [bod_cons, List.append_assoc] at hc
      obtain ⟨_, e1, e2⟩ := he.2 x (tlL m ++ r) (hl x (by simp)).1 (hl x (by simp)).2 hc (tlL_term m r)
      rw [ha] at e2
      cases m with
      | nil => rw [tlL_nil] at e2; injection e2 with e2 _; exact absurd e2 (by decide)
      | cons y m =>
        rw [tlL_bod] at e2
        injection e2 with _ e2
        injection e2 with _ e2
        exact ⟨y :: m, by rw [e1]; simp, by simp, e2⟩
theorem LnAt.none {n : Nat} {s : By} {vs : List V} {cur rest : By} {e v : V} (h : LnAt n s vs cur) (he : PRn n cur e rest false) : PLn n s v [] false := by
  refine ⟨fun e => by simp at e, fun l r hl hb => ?_⟩
  obtain ⟨m, rfl, hm, hc⟩ := h.cmp l r hl hb
  cases m with
  | nil => exact absurd rfl hm
  | cons x m =>
    rw [bod_cons, List.append_assoc] at hc
    obtain ⟨e0, _, _⟩ := he.2 x (tlL m ++ r) (hl x (by simp)).1 (hl x (by simp)).2 hc (tlL_term m r)
    simp at e0
theorem LnAt.bad {n : Nat} {s : By} {vs : List V} {cur after : By} {e v : V} (h : LnAt n s vs cur) (he : PRn n cur e after true) (h1 : ∀ t, after ≠ 93 :: t) (h2 : ∀ t, after ≠ 44 :: 32 :: t) : PLn n s v [] false := by
  refine ⟨fun e => by simp at e, fun l r hl hb => ?_⟩
  obtain ⟨m, rfl, hm, hc⟩ := h.cmp l r hl hb
  cases m with
  | nil => exact absurd rfl hm
  | cons x m =>
    rw [bod_cons, List.append_assoc] at hc
    obtain ⟨_, e1, e2⟩ := he.2 x (tlL m ++ r) (hl x (by simp)).1 (hl x (by simp)).2 hc (tlL_term m r)
    cases m with
    | nil => rw [tlL_nil] at e2; exact absurd e2 (h1 r)
    | cons y m => rw [tlL_bod] at e2; exact absurd e2 (h2 _)
end Go.Proofs.YtakjgjhjndiggaaGreatDoor
namespace Go.Proofs.YtakjgjhjndiggaaGreatDoor
open Go.RowKit Go.Shelf
open VM
set_option linter.unusedVariables false
set_option linter.unusedSimpArgs false

/-- What Read hands back of a text from a place on. -/
def QRd (n : Nat) (s : By) (at_ : Nat) (v : V) (k : Nat) (ok : Bool) : Prop :=
  k ≤ s.length ∧ (ok = true → at_ < k) ∧ PRn n (s.drop at_) v (if ok = true then s.drop k else []) ok
theorem PRn.off {n : Nat} {s r r' : By} {v v' : V} (h : PRn n s v r false) : PRn n s v' r' false :=
  ⟨fun e => by simp at e, fun u r hf hd hs ht => by have := (h.2 u r hf hd hs ht).1; simp at this⟩
theorem QRd.no {n : Nat} {s r : By} {at_ : Nat} {v : V} (h : PRn n (s.drop at_) v r false) : QRd n s at_ zerV 0 false :=
  ⟨Nat.zero_le _, fun e => by simp at e, h.off⟩
theorem QRd.yes {n : Nat} {s : By} {at_ k : Nat} {v : V} (hk : k ≤ s.length) (ha : at_ ≤ s.length) (h : PRn n (s.drop at_) v (s.drop k) true) : QRd n s at_ v k true := by
  refine ⟨hk, fun _ => ?_, by rw [if_pos rfl]; exact h⟩
  obtain ⟨_, _, h3, _⟩ := h.1 rfl
  have : 1 ≤ hgt v := by cases v; rw [hgt_eq]; omega
  rw [List.length_drop, List.length_drop] at h3; omega
theorem QRd.any {n : Nat} {s : By} {at_ k : Nat} {v : V} {ok : Bool} (hk : k ≤ s.length) (ha : at_ ≤ s.length) (h : PRn n (s.drop at_) v (s.drop k) ok) : QRd n s at_ v k ok := by
  cases ok
  · exact ⟨hk, fun e => by simp at e, h.off⟩
  · exact .yes hk ha h
theorem drop_at (s : ByteArray) {at_ : Nat} (h : at_ < s.size) : (lA s).drop at_ = s[at_] :: (lA s).drop (at_ + 1) := by
  rw [List.drop_eq_getElem_cons (by rw [lA_len]; exact h)]; rfl
theorem starts_head {s : ByteArray} {at_ : Nat} (h : at_ < s.size) {c : UInt8} {t : By} (hc : s[at_] ≠ c) : startsB s at_ (c :: t) = false := by
  rw [Bool.eq_false_iff]; intro e
  obtain ⟨r, e⟩ := starts_iff.1 e
  rw [drop_at s h] at e
  injection e with e _; exact hc e
theorem starts_at {s : ByteArray} {at_ : Nat} {t : By} (h : startsB s at_ t = true) : (lA s).drop at_ = t ++ (lA s).drop (at_ + t.length) := by
  obtain ⟨r, e⟩ := starts_iff.1 h
  rw [← List.drop_drop, e]; simp
theorem starts_le {s : ByteArray} {at_ : Nat} {t : By} (h : startsB s at_ t = true) (ht : t ≠ []) : at_ + t.length ≤ s.size := by
  have := congrArg List.length (starts_at h)
  have h2 := List.length_pos_iff.2 ht
  rw [List.length_append, List.length_drop, List.length_drop, lA_len] at this; omega
theorem not_starts {s : ByteArray} {at_ : Nat} {t : By} (h : startsB s at_ t = false) : ∀ r, (lA s).drop at_ ≠ t ++ r := by
  intro r e; rw [starts_iff.2 ⟨r, e⟩] at h; simp at h

set_option maxHeartbeats 4000000 in
theorem refread_none (n : Nat) (hn : n ≤ 100) (s : ByteArray) (hs : s.size ≤ 4000) (at_ : Nat) (ha : at_ ≤ s.size) (h : n = 0 ∨ at_ = s.size) (w : World) : Calls Tryz.prog 49 #[.string s, .int .i64 at_, .int .i64 n] w (RfEnd (QRd n (lA s) at_) w) := by
  have S0 := Lib.hid (Six.new w ⟨0, 0, 0, false, ⟨#[]⟩⟩ (.slice none 0 0))
  have B0 : Hid (Below w.heap.size w (w.alloc (.cells #[.int .u8 0, .int .i64 0, .int .i64 0, .bool false, .string ⟨#[]⟩, .slice none 0 0] 28))) := Lib.hid ((Below.refl _ _).alloc (Nat.le_refl _) _)
  have HQ : Hid (QRd n (lA s) at_ zerV 0 false) := Lib.hid (.no (v := zerV) (r := []) (.none (by
    rcases h with h | h
    · exact .inl h
    · right; rw [h, List.drop_of_length_le (by rw [lA_len]; omega)])))
  have hc : (((n : Int) == 0) = true) ∨ (((n : Int) == 0) = false ∧ (s.size : Int) ≤ (at_ : Int)) := by
    by_cases h0 : n = 0
    · left; rw [h0]; rfl
    · right; exact ⟨beq_eq_false_iff_ne.2 (by omega), by omega⟩
  clear h
  rcases hc with g1 | ⟨g1, g2⟩
  all_goals
    go_enter Tryz.func49, Tryz.ntmps49
    have l1 := S0.out.lt
    have q0 := S0.out.row.c0
    have q1 := S0.out.row.c1
    have q2 := S0.out.row.c2
    have q3 := S0.out.row.c3
    have q4 := S0.out.row.c4
    have q5 := S0.out.row.c5
    simp only [Nat.zero_add] at q1 q2 q3 q4 q5
    go_wp2_with fail
    exact bodyPost_ret (v := .tuple #[.agg #[.int .u8 0, .int .i64 0, .int .i64 0, .bool false, .string ⟨#[]⟩, .slice none 0 0], .int .i64 0, .bool false]) (by simp [results, Tryz.results49, go_sem, q0, q1, q2, q3, q4, q5, l1, q0, q1, q2, q3, q4, q5] <;> rfl) rfl ⟨zerV, (.slice none 0 0), 0, false, rfl, RepL.nil _ _ _ _, HQ.out, B0.out⟩

set_option maxHeartbeats 4000000 in
theorem refread_true (n : Nat) (hn : n ≤ 100) (s : ByteArray) (hs : s.size ≤ 4000) (at_ : Nat) (ha : at_ < s.size) (h : startsB s at_ [116, 114, 117, 101] = true) (w : World) : Calls Tryz.prog 49 #[.string s, .int .i64 at_, .int .i64 (n + 1 : Nat)] w (RfEnd (QRd (n + 1) (lA s) at_) w) := by
  have S0 := Lib.hid (Six.new w ⟨0, 0, 0, false, ⟨#[]⟩⟩ (.slice none 0 0))
  have B0 : Hid (Below w.heap.size w (w.alloc (.cells #[.int .u8 0, .int .i64 0, .int .i64 0, .bool false, .string ⟨#[]⟩, .slice none 0 0] 28))) := Lib.hid ((Below.refl _ _).alloc (Nat.le_refl _) _)
  have g1 : ((((n + 1 : Nat) : Int)) == 0) = false := beq_eq_false_iff_ne.2 (by omega)
  have g2 : ¬ (s.size : Int) ≤ (at_ : Int) := by omega
  have HA := Lib.hid (fun w => starts_any s at_ [116, 114, 117, 101] (by omega) (by omega) (by simp) w)
  rw [h] at HA
  have HQ : Hid (QRd (n + 1) (lA s) at_ (truV true) (at_ + 4) true) := Lib.hid (.yes (by rw [lA_len]; exact starts_le h (by simp)) (by rw [lA_len]; omega) (.tru (b := true) (starts_at h)))
  clear h
  go_enter Tryz.func49, Tryz.ntmps49
  go_wp2_with fail
  refine (HA.out _).mono ?_
  rintro e w1 ⟨rfl, rfl⟩
  go_wp2_with fail
  refine (is_any true _).mono ?_
  rintro e w1 ⟨rfl, hb1⟩
  have S1 := Lib.hid (S0.out.later hb1)
  have HB1 := Lib.hid (B0.out.trans (hb1.mono B0.out.size))
  clear hb1
  have l1 := S1.out.lt
  have q0 := S1.out.row.c0
  have q1 := S1.out.row.c1
  have q2 := S1.out.row.c2
  have q3 := S1.out.row.c3
  have q4 := S1.out.row.c4
  have q5 := S1.out.row.c5
  have f0 := S1.out.free 0
  have f1 := S1.out.free 1
  have f2 := S1.out.free 2
  have f3 := S1.out.free 3
  have f4 := S1.out.free 4
  have f5 := S1.out.free 5
  simp only [Nat.zero_add] at q1 q2 q3 q4 q5
  go_wp2_with fail
  have H6 := sixSet_six S1.out ⟨2, 0, 0, true, ⟨#[]⟩⟩ (.slice none 0 0)
  have HBw := sixSet_below (a := ⟨2, 0, 0, true, ⟨#[]⟩⟩) (sl := (.slice none 0 0)) HB1.out (Nat.le_refl _)
  unfold sixSet at H6 HBw
  have e0 := H6.row.c0
  have e1 := H6.row.c1
  have e2 := H6.row.c2
  have e3 := H6.row.c3
  have e4 := H6.row.c4
  have e5 := H6.row.c5
  simp only [Nat.zero_add] at e1 e2 e3 e4 e5
  exact bodyPost_ret (v := .tuple #[.agg #[.int .u8 2, .int .i64 0, .int .i64 0, .bool true, .string ⟨#[]⟩, .slice none 0 0], .int .i64 ((at_ : Int) + 4), .bool true]) (by simp [results, Tryz.results49, go_sem, q0, q1, q2, q3, q4, q5, l1, e0, e1, e2, e3, e4, e5] <;> rfl) rfl ⟨truV true, (.slice none 0 0), at_ + 4, true, by simp [truV], RepL.nil _ _ _ _, HQ.out, HBw⟩

set_option maxHeartbeats 4000000 in
theorem refread_false (n : Nat) (hn : n ≤ 100) (s : ByteArray) (hs : s.size ≤ 4000) (at_ : Nat) (ha : at_ < s.size) (h : startsB s at_ [102, 97, 108, 115, 101] = true) (w : World) : Calls Tryz.prog 49 #[.string s, .int .i64 at_, .int .i64 (n + 1 : Nat)] w (RfEnd (QRd (n + 1) (lA s) at_) w) := by
  have S0 := Lib.hid (Six.new w ⟨0, 0, 0, false, ⟨#[]⟩⟩ (.slice none 0 0))
  have B0 : Hid (Below w.heap.size w (w.alloc (.cells #[.int .u8 0, .int .i64 0, .int .i64 0, .bool false, .string ⟨#[]⟩, .slice none 0 0] 28))) := Lib.hid ((Below.refl _ _).alloc (Nat.le_refl _) _)
  have g1 : ((((n + 1 : Nat) : Int)) == 0) = false := beq_eq_false_iff_ne.2 (by omega)
  have g2 : ¬ (s.size : Int) ≤ (at_ : Int) := by omega
  have HA := Lib.hid (fun w => starts_any s at_ [116, 114, 117, 101] (by omega) (by omega) (by simp) w)
  have HB := Lib.hid (fun w => starts_any s at_ [102, 97, 108, 115, 101] (by omega) (by omega) (by simp) w)
  have hx : startsB s at_ [116, 114, 117, 101] = false := by
    obtain ⟨r, e⟩ := starts_iff.1 h
    rw [Bool.eq_false_iff]; intro e2
    obtain ⟨r2, e2⟩ := starts_iff.1 e2
    rw [e] at e2; injection e2 with e2 _; exact absurd e2 (by decide)
  rw [hx] at HA; rw [h] at HB
  have HQ : Hid (QRd (n + 1) (lA s) at_ (truV false) (at_ + 5) true) := Lib.hid (.yes (by rw [lA_len]; exact starts_le h (by simp)) (by rw [lA_len]; omega) (.tru (b := false) (starts_at h)))
  clear h hx
  go_enter Tryz.func49, Tryz.ntmps49
  go_wp2_with fail
  refine (HA.out _).mono ?_
  rintro e w1 ⟨rfl, rfl⟩
  go_wp2_with fail
  refine (HB.out _).mono ?_
  rintro e w1 ⟨rfl, rfl⟩
  go_wp2_with fail
  refine (is_any false _).mono ?_
  rintro e w1 ⟨rfl, hb1⟩
  have S1 := Lib.hid (S0.out.later hb1)
  have HB1 := Lib.hid (B0.out.trans (hb1.mono B0.out.size))
  clear hb1
  have l1 := S1.out.lt
  have q0 := S1.out.row.c0
  have q1 := S1.out.row.c1
  have q2 := S1.out.row.c2
  have q3 := S1.out.row.c3
  have q4 := S1.out.row.c4
  have q5 := S1.out.row.c5
  have f0 := S1.out.free 0
  have f1 := S1.out.free 1
  have f2 := S1.out.free 2
  have f3 := S1.out.free 3
  have f4 := S1.out.free 4
  have f5 := S1.out.free 5
  simp only [Nat.zero_add] at q1 q2 q3 q4 q5
  go_wp2_with fail
  have H6 := sixSet_six S1.out ⟨2, 0, 0, false, ⟨#[]⟩⟩ (.slice none 0 0)
  have HBw := sixSet_below (a := ⟨2, 0, 0, false, ⟨#[]⟩⟩) (sl := (.slice none 0 0)) HB1.out (Nat.le_refl _)
  unfold sixSet at H6 HBw
  have e0 := H6.row.c0
  have e1 := H6.row.c1
  have e2 := H6.row.c2
  have e3 := H6.row.c3
  have e4 := H6.row.c4
  have e5 := H6.row.c5
  simp only [Nat.zero_add] at e1 e2 e3 e4 e5
  exact bodyPost_ret (v := .tuple #[.agg #[.int .u8 2, .int .i64 0, .int .i64 0, .bool false, .string ⟨#[]⟩, .slice none 0 0], .int .i64 ((at_ : Int) + 5), .bool true]) (by simp [results, Tryz.results49, go_sem, q0, q1, q2, q3, q4, q5, l1, e0, e1, e2, e3, e4, e5] <;> rfl) rfl ⟨truV false, (.slice none 0 0), at_ + 5, true, by simp [truV], RepL.nil _ _ _ _, HQ.out, HBw⟩

set_option maxHeartbeats 4000000 in
theorem refread_str (n : Nat) (hn : n ≤ 100) (s : ByteArray) (hs : s.size ≤ 4000) (at_ : Nat) (ha : at_ < s.size) (hx : startsB s at_ [116, 114, 117, 101] = false) (hy : startsB s at_ [102, 97, 108, 115, 101] = false) (hq0 : s[at_] = 34) (w : World) : Calls Tryz.prog 49 #[.string s, .int .i64 at_, .int .i64 (n + 1 : Nat)] w (RfEnd (QRd (n + 1) (lA s) at_) w) := by
  have S0 := Lib.hid (Six.new w ⟨0, 0, 0, false, ⟨#[]⟩⟩ (.slice none 0 0))
  have B0 : Hid (Below w.heap.size w (w.alloc (.cells #[.int .u8 0, .int .i64 0, .int .i64 0, .bool false, .string ⟨#[]⟩, .slice none 0 0] 28))) := Lib.hid ((Below.refl _ _).alloc (Nat.le_refl _) _)
  have g1 : ((((n + 1 : Nat) : Int)) == 0) = false := beq_eq_false_iff_ne.2 (by omega)
  have g2 : ¬ (s.size : Int) ≤ (at_ : Int) := by omega
  have HA := Lib.hid (fun w => starts_any s at_ [116, 114, 117, 101] (by omega) (by omega) (by simp) w)
  have HB := Lib.hid (fun w => starts_any s at_ [102, 97, 108, 115, 101] (by omega) (by omega) (by simp) w)
  rw [hx] at HA; rw [hy] at HB
  have KS := Lib.hid (fun w => refquoted_any s (by omega) at_ ha w)
  have HP : Hid (∀ v k ok, QStr (lA s) (at_ + 1) v k ok → QRd (n + 1) (lA s) at_ v k ok) := Lib.hid fun v k ok h => ⟨h.1, fun e => by have := h.2.1 e; omega, by rw [drop_at s ha, hq0]; exact PRn.str h.2.2 (by rw [List.length_drop, lA_len]; omega)⟩
  have i0 : (0 : Int) ≤ (at_ : Int) := by omega
  have i1 : (at_ : Int) < (s.size : Int) := by omega
  have i2 : ((at_ : Int)).toNat = at_ := by omega
  have z1 : (((s[at_].toNat : Nat) : Int) == 34) = true := by rw [hq0]; rfl
  clear hx hy hq0
  go_enter Tryz.func49, Tryz.ntmps49
  go_wp2_with fail
  refine (HA.out _).mono ?_
  rintro e w1 ⟨rfl, rfl⟩
  go_wp2_with fail
  refine (HB.out _).mono ?_
  rintro e w1 ⟨rfl, rfl⟩
  go_wp2_with fail
  refine (KS.out _).mono ?_
  rintro e w1 ⟨v, sl, k, ok, rfl, hr1, hq, hb1⟩
  obtain ⟨p, cap, rfl⟩ := hr1.slice
  rw [World.size_alloc] at hr1
  have HQ := Lib.hid (HP.out _ _ _ hq)
  obtain ⟨W1, hW1⟩ : ∃ W1, W1 = w1.alloc (.cells #[.int .u8 v.nd.k, .int .i64 v.nd.n, .int .i64 v.nd.d, .bool v.nd.t, .string v.nd.s, .slice p v.list.length cap] 28) := ⟨_, rfl⟩
  have hbw : Below w1.heap.size w1 W1 := by rw [hW1]; exact (Below.refl _ _).alloc (Nat.le_refl _) _
  have S1 := Lib.hid ((S0.out.later hb1).later hbw)
  have HB1 := Lib.hid ((B0.out.trans (hb1.mono B0.out.size)).trans (hbw.mono (Nat.le_trans B0.out.size hb1.size)))
  have HE := Lib.hid (rd_store S1.out (hr1.later hbw) HB1.out)
  have M1 : Hid (Six W1 w1.heap.size v.nd (.slice p v.list.length cap)) := Lib.hid (by rw [hW1]; exact Six.new _ _ _)
  clear hr1 hq hb1 hbw
  have l1 := S1.out.lt
  have q0 := S1.out.row.c0
  have q1 := S1.out.row.c1
  have q2 := S1.out.row.c2
  have q3 := S1.out.row.c3
  have q4 := S1.out.row.c4
  have q5 := S1.out.row.c5
  have f0 := S1.out.free 0
  have f1 := S1.out.free 1
  have f2 := S1.out.free 2
  have f3 := S1.out.free 3
  have f4 := S1.out.free 4
  have f5 := S1.out.free 5
  simp only [Nat.zero_add] at q1 q2 q3 q4 q5
  have m6 := M1.out.lt
  have m0 := M1.out.row.c0
  have m1 := M1.out.row.c1
  have m2 := M1.out.row.c2
  have m3 := M1.out.row.c3
  have m4 := M1.out.row.c4
  have m5 := M1.out.row.c5
  simp only [Nat.zero_add] at m1 m2 m3 m4 m5
  rw [hW1] at l1 q0 q1 q2 q3 q4 q5 f0 f1 f2 f3 f4 f5 m0 m1 m2 m3 m4 m5 m6
  unfold sixSet at HE
  rw [hW1] at HE
  clear hW1
  go_wp2_with fail
  have e0 := HE.out.1.row.c0
  have e1 := HE.out.1.row.c1
  have e2 := HE.out.1.row.c2
  have e3 := HE.out.1.row.c3
  have e4 := HE.out.1.row.c4
  have e5 := HE.out.1.row.c5
  simp only [Nat.zero_add] at e1 e2 e3 e4 e5
  exact bodyPost_ret (v := .tuple #[.agg #[.int .u8 v.nd.k, .int .i64 v.nd.n, .int .i64 v.nd.d, .bool v.nd.t, .string v.nd.s, .slice p v.list.length cap], .int .i64 k, .bool ok]) (by simp [results, Tryz.results49, go_sem, q0, q1, q2, q3, q4, q5, l1, e0, e1, e2, e3, e4, e5] <;> rfl) rfl ⟨v, .slice p v.list.length cap, k, ok, rfl, HE.out.2.1, HQ.out, HE.out.2.2⟩

set_option maxHeartbeats 4000000 in
theorem refread_num (n : Nat) (hn : n ≤ 100) (s : ByteArray) (hs : s.size ≤ 4000) (at_ : Nat) (ha : at_ < s.size) (hx : startsB s at_ [116, 114, 117, 101] = false) (hy : startsB s at_ [102, 97, 108, 115, 101] = false) (hq0 : s[at_] ≠ 34 ∧ s[at_] ≠ 91) (w : World) : Calls Tryz.prog 49 #[.string s, .int .i64 at_, .int .i64 (n + 1 : Nat)] w (RfEnd (QRd (n + 1) (lA s) at_) w) := by
  have S0 := Lib.hid (Six.new w ⟨0, 0, 0, false, ⟨#[]⟩⟩ (.slice none 0 0))
  have B0 : Hid (Below w.heap.size w (w.alloc (.cells #[.int .u8 0, .int .i64 0, .int .i64 0, .bool false, .string ⟨#[]⟩, .slice none 0 0] 28))) := Lib.hid ((Below.refl _ _).alloc (Nat.le_refl _) _)
  have g1 : ((((n + 1 : Nat) : Int)) == 0) = false := beq_eq_false_iff_ne.2 (by omega)
  have g2 : ¬ (s.size : Int) ≤ (at_ : Int) := by omega
  have HA := Lib.hid (fun w => starts_any s at_ [116, 114, 117, 101] (by omega) (by omega) (by simp) w)
  have HB := Lib.hid (fun w => starts_any s at_ [102, 97, 108, 115, 101] (by omega) (by omega) (by simp) w)
  rw [hx] at HA; rw [hy] at HB
  have KS := Lib.hid (fun w => refnumberv_any s (by omega) at_ (by omega) w)
  have HP : Hid (∀ v k ok, QNum s at_ v k ok → QRd (n + 1) (lA s) at_ v k ok) := Lib.hid fun v k ok h => .any (by rw [lA_len]; exact h.hi) (by rw [lA_len]; omega) (.num h (fun c t e => by rw [drop_at s ha] at e; injection e with e _; rw [← e]; exact hq0) (by intro b r; cases b; exact not_starts hy r; exact not_starts hx r))
  have i0 : (0 : Int) ≤ (at_ : Int) := by omega
  have i1 : (at_ : Int) < (s.size : Int) := by omega
  have i2 : ((at_ : Int)).toNat = at_ := by omega
  have z1 : (((s[at_].toNat : Nat) : Int) == 34) = false := beq_eq_false_iff_ne.2 (fun e => hq0.1 (UInt8.toNat_inj.1 (by show s[at_].toNat = 34; omega)))
  have z2 : (((s[at_].toNat : Nat) : Int) == 91) = false := beq_eq_false_iff_ne.2 (fun e => hq0.2 (UInt8.toNat_inj.1 (by show s[at_].toNat = 91; omega)))
  clear hx hy hq0
  go_enter Tryz.func49, Tryz.ntmps49
  go_wp2_with fail
  refine (HA.out _).mono ?_
  rintro e w1 ⟨rfl, rfl⟩
  go_wp2_with fail
  refine (HB.out _).mono ?_
  rintro e w1 ⟨rfl, rfl⟩
  go_wp2_with fail
  refine (KS.out _).mono ?_
  rintro e w1 ⟨v, sl, k, ok, rfl, hr1, hq, hb1⟩
  obtain ⟨p, cap, rfl⟩ := hr1.slice
  rw [World.size_alloc] at hr1
  have HQ := Lib.hid (HP.out _ _ _ hq)
  obtain ⟨W1, hW1⟩ : ∃ W1, W1 = w1.alloc (.cells #[.int .u8 v.nd.k, .int .i64 v.nd.n, .int .i64 v.nd.d, .bool v.nd.t, .string v.nd.s, .slice p v.list.length cap] 28) := ⟨_, rfl⟩
  have hbw : Below w1.heap.size w1 W1 := by rw [hW1]; exact (Below.refl _ _).alloc (Nat.le_refl _) _
  have S1 := Lib.hid ((S0.out.later hb1).later hbw)
  have HB1 := Lib.hid ((B0.out.trans (hb1.mono B0.out.size)).trans (hbw.mono (Nat.le_trans B0.out.size hb1.size)))
  have HE := Lib.hid (rd_store S1.out (hr1.later hbw) HB1.out)
  have M1 : Hid (Six W1 w1.heap.size v.nd (.slice p v.list.length cap)) := Lib.hid (by rw [hW1]; exact Six.new _ _ _)
  clear hr1 hq hb1 hbw
  have l1 := S1.out.lt
  have q0 := S1.out.row.c0
  have q1 := S1.out.row.c1
  have q2 := S1.out.row.c2
  have q3 := S1.out.row.c3
  have q4 := S1.out.row.c4
  have q5 := S1.out.row.c5
  have f0 := S1.out.free 0
  have f1 := S1.out.free 1
  have f2 := S1.out.free 2
  have f3 := S1.out.free 3
  have f4 := S1.out.free 4
  have f5 := S1.out.free 5
  simp only [Nat.zero_add] at q1 q2 q3 q4 q5
  have m6 := M1.out.lt
  have m0 := M1.out.row.c0
  have m1 := M1.out.row.c1
  have m2 := M1.out.row.c2
  have m3 := M1.out.row.c3
  have m4 := M1.out.row.c4
  have m5 := M1.out.row.c5
  simp only [Nat.zero_add] at m1 m2 m3 m4 m5
  rw [hW1] at l1 q0 q1 q2 q3 q4 q5 f0 f1 f2 f3 f4 f5 m0 m1 m2 m3 m4 m5 m6
  unfold sixSet at HE
  rw [hW1] at HE
  clear hW1
  go_wp2_with fail
  have e0 := HE.out.1.row.c0
  have e1 := HE.out.1.row.c1
  have e2 := HE.out.1.row.c2
  have e3 := HE.out.1.row.c3
  have e4 := HE.out.1.row.c4
  have e5 := HE.out.1.row.c5
  simp only [Nat.zero_add] at e1 e2 e3 e4 e5
  exact bodyPost_ret (v := .tuple #[.agg #[.int .u8 v.nd.k, .int .i64 v.nd.n, .int .i64 v.nd.d, .bool v.nd.t, .string v.nd.s, .slice p v.list.length cap], .int .i64 k, .bool ok]) (by simp [results, Tryz.results49, go_sem, q0, q1, q2, q3, q4, q5, l1, e0, e1, e2, e3, e4, e5] <;> rfl) rfl ⟨v, .slice p v.list.length cap, k, ok, rfl, HE.out.2.1, HQ.out, HE.out.2.2⟩

end Go.Proofs.YtakjgjhjndiggaaGreatDoor
namespace Go.Proofs.YtakjgjhjndiggaaGreatDoor
open Go.RowKit Go.Shelf
open VM
set_option linter.unusedVariables false
set_option linter.unusedSimpArgs false

/-- What Read's variables hold. -/
structure LnW (n : Nat) (s : ByteArray) (at0 : Nat) (w : World) (vs : List V) (at_ : Nat) (lv : Value) (wr : World) : Prop where
  le : at_ ≤ s.size
  at_ : LnAt n ((lA s).drop at0) vs ((lA s).drop at_)
  res : Six wr w.heap.size ⟨0, 0, 0, false, ⟨#[]⟩⟩ (.slice none 0 0)
  six : Six wr (w.heap.size + 1) ⟨4, 0, 0, false, ⟨#[]⟩⟩ lv
  own : OwnL (w.heap.size + 2) wr vs lv
  below : Below w.heap.size w wr
  size : w.heap.size + 2 ≤ wr.heap.size
theorem LnW.later {n : Nat} {s : ByteArray} {at0 : Nat} {w : World} {vs : List V} {at_ : Nat} {lv : Value} {wr w1 : World} (h : LnW n s at0 w vs at_ lv wr) (hb : Below wr.heap.size wr w1) : LnW n s at0 w vs at_ lv w1 :=
  ⟨h.le, h.at_, h.res.later hb, h.six.later hb, h.own.later hb, h.below.trans (hb.mono h.below.size), Nat.le_trans h.size hb.size⟩
theorem lnW_put {w : World} {vs : List V} {x : V} {lv lv' : Value} {a0 a : Nd} {s0 : Value} {wr w1 : World} (h0 : Six wr w.heap.size a0 s0) (h6 : Six wr (w.heap.size + 1) a lv) (ho : OwnL (w.heap.size + 2) wr vs lv) (hb : Below w.heap.size w wr) (hs : w.heap.size + 2 ≤ wr.heap.size) (hg : wr.grownBy w1 lv.ownBlock) (ho' : OwnL (w.heap.size + 2) w1 (vs ++ [x]) lv') :
    Six w1 (w.heap.size + 1) a lv ∧ Six (w1.setCell ⟨w.heap.size + 1, 5, none⟩ lv') w.heap.size a0 s0 ∧ Six (w1.setCell ⟨w.heap.size + 1, 5, none⟩ lv') (w.heap.size + 1) a lv' ∧ OwnL (w.heap.size + 2) (w1.setCell ⟨w.heap.size + 1, 5, none⟩ lv') (vs ++ [x]) lv' ∧ Below w.heap.size w (w1.setCell ⟨w.heap.size + 1, 5, none⟩ lv') ∧ w.heap.size + 2 ≤ (w1.setCell ⟨w.heap.size + 1, 5, none⟩ lv').heap.size := by
  have h1 : Six w1 (w.heap.size + 1) a lv := heap_grown hg ho (by omega) h6
  have h2 : Six w1 w.heap.size a0 s0 := heap_grown hg ho (by omega) h0
  exact ⟨h1, h2.other (by show w.heap.size ≠ w.heap.size + 1; omega) _, h1.list _, ho'.set (by show w.heap.size + 1 < w.heap.size + 2; omega) _, (below_grown hg ho (by omega) hs hb).setCell (by show w.heap.size ≤ w.heap.size + 1; omega) _, by simpa [World.setCell] using Nat.le_trans hs hg.size⟩
/-- What is stored into the result. -/
theorem ln_store {w W : World} {B : Nat} {a0 : Nd} {s0 : Value} {v : V} {sl : Value} (S : Six W w.heap.size a0 s0) (hB1 : w.heap.size + 1 ≤ B) (hr : RepL (B ≤ ·) W v.list sl) (hB : Below w.heap.size w W) :
    Six (sixSet W w.heap.size v.nd sl) w.heap.size v.nd sl ∧ RepL (w.heap.size ≤ ·) (sixSet W w.heap.size v.nd sl) v.list sl ∧ Below w.heap.size w (sixSet W w.heap.size v.nd sl) :=
  ⟨sixSet_six S _ _, hr.carry fun b hb hq => ⟨by omega, fun o => sixSet_cell _ _ o (by omega)⟩, sixSet_below hB (Nat.le_refl _)⟩
theorem QRd.lst {n : Nat} {s : ByteArray} {at_ k : Nat} {v : V} {ok : Bool} (ha : at_ < s.size) (h91 : s[at_] = 91) (hk : k ≤ s.size) (h : PLn n ((lA s).drop (at_ + 1)) v (if ok = true then (lA s).drop k else []) ok) : QRd (n + 1) (lA s) at_ v k ok := by
  have h2 := PRn.lst h
  rw [← h91, ← drop_at s ha] at h2
  cases ok
  · exact ⟨by rw [lA_len]; exact hk, fun e => by simp at e, h2⟩
  · rw [if_pos rfl] at h2; exact .yes (by rw [lA_len]; exact hk) (by rw [lA_len]; omega) h2
theorem starts_93 {s : ByteArray} {at_ : Nat} (h : startsB s at_ [93] = true) : (lA s).drop at_ = 93 :: (lA s).drop (at_ + 1) := starts_at (t := [93]) h
theorem starts_no93 {s : ByteArray} {at_ : Nat} (h : startsB s at_ [93] = false) : ∀ t, (lA s).drop at_ ≠ 93 :: t := fun t e => not_starts (t := [93]) h t e

set_option maxHeartbeats 4000000 in
theorem refread_lst (n : Nat) (hn : n ≤ 100) (s : ByteArray) (hs : s.size ≤ 4000) (at_ : Nat) (ha : at_ < s.size) (h91 : s[at_] = 91) (hR : ∀ (at_ : Nat) (w : World), at_ ≤ s.size → Calls Tryz.prog 49 #[.string s, .int .i64 at_, .int .i64 n] w (RfEnd (QRd n (lA s) at_) w)) (w : World) : Calls Tryz.prog 49 #[.string s, .int .i64 at_, .int .i64 (n + 1 : Nat)] w (RfEnd (QRd (n + 1) (lA s) at_) w) := by
  have S0 := Lib.hid (Six.new w ⟨0, 0, 0, false, ⟨#[]⟩⟩ (.slice none 0 0))
  have B0 : Hid (Below w.heap.size w (w.alloc (.cells #[.int .u8 0, .int .i64 0, .int .i64 0, .bool false, .string ⟨#[]⟩, .slice none 0 0] 28))) := Lib.hid ((Below.refl _ _).alloc (Nat.le_refl _) _)
  have g1 : ((((n + 1 : Nat) : Int)) == 0) = false := beq_eq_false_iff_ne.2 (by omega)
  have g2 : ¬ (s.size : Int) ≤ (at_ : Int) := by omega
  have HA := Lib.hid (fun w => starts_any s at_ [116, 114, 117, 101] (by omega) (by omega) (by simp) w)
  have HB := Lib.hid (fun w => starts_any s at_ [102, 97, 108, 115, 101] (by omega) (by omega) (by simp) w)
  have hx : startsB s at_ [116, 114, 117, 101] = false := starts_head ha (by rw [h91]; decide)
  have hy : startsB s at_ [102, 97, 108, 115, 101] = false := starts_head ha (by rw [h91]; decide)
  rw [hx] at HA; rw [hy] at HB
  have HC := Lib.hid (fun w => starts_any s (at_ + 1) [93] (by omega) (by omega) (by simp) w)
  have HR := Lib.hid hR
  have HL := Lib.hid (fun v k ok (hk : k ≤ s.size) h => QRd.lst (n := n) (v := v) (k := k) (ok := ok) ha h91 hk h)
  have i0 : (0 : Int) ≤ (at_ : Int) := by omega
  have i1 : (at_ : Int) < (s.size : Int) := by omega
  have i2 : ((at_ : Int)).toNat = at_ := by omega
  simp only [Int.natCast_add, Int.natCast_one] at HC
  have z1 : (((s[at_].toNat : Nat) : Int) == 34) = false := by rw [h91]; rfl
  have z2 : (((s[at_].toNat : Nat) : Int) == 91) = true := by rw [h91]; rfl
  have S1 : Hid (Six ((w.alloc (.cells #[.int .u8 0, .int .i64 0, .int .i64 0, .bool false, .string ⟨#[]⟩, .slice none 0 0] 28)).alloc (.cells #[.int .u8 4, .int .i64 0, .int .i64 0, .bool false, .string ⟨#[]⟩, .slice none 0 0] 28)) (w.heap.size + 1) ⟨4, 0, 0, false, ⟨#[]⟩⟩ (.slice none 0 0)) := Lib.hid (by have := Six.new (w.alloc (.cells #[.int .u8 0, .int .i64 0, .int .i64 0, .bool false, .string ⟨#[]⟩, .slice none 0 0] 28)) ⟨4, 0, 0, false, ⟨#[]⟩⟩ (.slice none 0 0); rwa [World.size_alloc] at this)
  have B1 := Lib.hid (B0.out.alloc (by simp : w.heap.size ≤ (w.alloc (.cells #[.int .u8 0, .int .i64 0, .int .i64 0, .bool false, .string ⟨#[]⟩, .slice none 0 0] 28)).heap.size) (.cells #[.int .u8 4, .int .i64 0, .int .i64 0, .bool false, .string ⟨#[]⟩, .slice none 0 0] 28))
  have S01 := Lib.hid (S0.out.later ((Below.refl _ _).alloc (Nat.le_refl _) (.cells #[.int .u8 4, .int .i64 0, .int .i64 0, .bool false, .string ⟨#[]⟩, .slice none 0 0] 28)))
  clear hx hy hR h91
  rcases Bool.eq_false_or_eq_true (startsB s (at_ + 1) [93]) with h93 | h93
  · rw [h93] at HC
    have HQ := Lib.hid (HL.out (lstV []) (at_ + 2) true (by have := starts_le h93 (by simp); simpa using this) (by rw [if_pos rfl]; exact PLn.empty (starts_93 h93)))
    clear h93
    go_enter Tryz.func49, Tryz.ntmps49
    go_wp2_with fail
    refine (HA.out _).mono ?_
    rintro e w1 ⟨rfl, rfl⟩
    go_wp2_with fail
    refine (HB.out _).mono ?_
    rintro e w1 ⟨rfl, rfl⟩
    go_wp2_with fail
    refine (HC.out _).mono ?_
    rintro e w1 ⟨rfl, rfl⟩
    have l1 := S01.out.lt
    have q0 := S01.out.row.c0
    have q1 := S01.out.row.c1
    have q2 := S01.out.row.c2
    have q3 := S01.out.row.c3
    have q4 := S01.out.row.c4
    have q5 := S01.out.row.c5
    have f0 := S01.out.free 0
    have f1 := S01.out.free 1
    have f2 := S01.out.free 2
    have f3 := S01.out.free 3
    have f4 := S01.out.free 4
    have f5 := S01.out.free 5
    simp only [Nat.zero_add] at q1 q2 q3 q4 q5
    have m6 := S1.out.lt
    have m0 := S1.out.row.c0
    have m1 := S1.out.row.c1
    have m2 := S1.out.row.c2
    have m3 := S1.out.row.c3
    have m4 := S1.out.row.c4
    have m5 := S1.out.row.c5
    simp only [Nat.zero_add] at m1 m2 m3 m4 m5
    go_wp2_with fail
    have HE := (Six.new w ⟨4, 0, 0, false, ⟨#[]⟩⟩ (.slice none 0 0)).later ((Below.refl _ _).alloc (Nat.le_refl _) (.cells #[.int .u8 4, .int .i64 0, .int .i64 0, .bool false, .string ⟨#[]⟩, .slice none 0 0] 28))
    have e0 := HE.row.c0
    have e1 := HE.row.c1
    have e2 := HE.row.c2
    have e3 := HE.row.c3
    have e4 := HE.row.c4
    have e5 := HE.row.c5
    simp only [Nat.zero_add] at e1 e2 e3 e4 e5
    exact bodyPost_ret (v := .tuple #[.agg #[.int .u8 4, .int .i64 0, .int .i64 0, .bool false, .string ⟨#[]⟩, .slice none 0 0], .int .i64 ((at_ : Int) + 1 + 1), .bool true]) (by simp [results, Tryz.results49, go_sem, q0, q1, q2, q3, q4, q5, l1, e0, e1, e2, e3, e4, e5] <;> rfl) rfl ⟨lstV [], (.slice none 0 0), at_ + 2, true, by simp [lstV] <;> omega, RepL.nil _ _ _ _, HQ.out, ((Below.refl _ _).alloc (Nat.le_refl _) _).alloc (by simp) _⟩
  · rw [h93] at HC
    have A0 := Lib.hid (LnAt.start (n := n) (starts_no93 h93))
    clear h93
    go_enter Tryz.func49, Tryz.ntmps49
    go_wp2_with fail
    refine (HA.out _).mono ?_
    rintro e w1 ⟨rfl, rfl⟩
    go_wp2_with fail
    refine (HB.out _).mono ?_
    rintro e w1 ⟨rfl, rfl⟩
    go_wp2_with fail
    refine (HC.out _).mono ?_
    rintro e w1 ⟨rfl, rfl⟩
    go_wp2_with fail
    go_loopw [1] (fun iv wr => ∃ (vs : List V) (k : Nat) (lv : Value), iv = .int .i64 k ∧ LnW n s (at_ + 1) w vs k lv wr) (fun iv _ => s.size + 10 - (intOf iv).toNat)
    case atStart => exact ⟨[], at_ + 1, .slice none 0 0, by go_num, by omega, A0.out, S01.out, S1.out, OwnL.nil _ _, B1.out, by simp⟩
    case round =>
      obtain ⟨vs, k, lv, rfl, hW⟩ := hrel
      have HW := Lib.hid hW
      have hk := hW.le
      clear hW S0 B0 S1 B1 S01 A0 HA HB HC z1 z2 g1 g2
      have KR := Lib.hid (HR.out k wr hk)
      have n1 : ((n + 1 : Nat) : Int) - 1 = (n : Int) := by omega
      go_wp2_with fail
      refine KR.out.mono ?_
      rintro e w1 ⟨v, sl, j, ok, rfl, hr1, hq, hb1⟩
      obtain ⟨p, cap, rfl⟩ := hr1.slice
      have HQ := Lib.hid hq
      obtain ⟨W1, hW1⟩ : ∃ W1, W1 = w1.alloc (.cells #[.int .u8 v.nd.k, .int .i64 v.nd.n, .int .i64 v.nd.d, .bool v.nd.t, .string v.nd.s, .slice p v.list.length cap] 28) := ⟨_, rfl⟩
      have hb2 : Below wr.heap.size wr W1 := by rw [hW1]; exact hb1.alloc hb1.size _
      have hbw : Below w1.heap.size w1 W1 := by rw [hW1]; exact (Below.refl _ _).alloc (Nat.le_refl _) _
      have HW1 := Lib.hid (HW.out.later hb2)
      have HE1 : Hid (Six W1 w1.heap.size v.nd (.slice p v.list.length cap)) := Lib.hid (by rw [hW1]; exact Six.new _ _ _)
      have HR1 := Lib.hid (hr1.later hbw)
      have HN1 : Hid (∀ b, wr.heap.size ≤ b → w.heap.size + 2 ≤ b ∧ lv.ownBlock ≠ some b) := Lib.hid (HW.out.own.apart HW.out.size)
      have d1 : ¬ w1.heap.size = w.heap.size := by have := HW.out.size; have := hb1.size; omega
      have d2 : ¬ w1.heap.size = w.heap.size + 1 := by have := HW.out.size; have := hb1.size; omega
      clear hr1 hq hb1 hb2 hbw
      cases ok
      · have HP : Hid (QRd (n + 1) (lA s) at_ zerV 0 false) := Lib.hid (HL.out zerV 0 false (Nat.zero_le _) (HW.out.at_.none HQ.out.2.2))
        have l1 := HW1.out.res.lt
        have q0 := HW1.out.res.row.c0
        have q1 := HW1.out.res.row.c1
        have q2 := HW1.out.res.row.c2
        have q3 := HW1.out.res.row.c3
        have q4 := HW1.out.res.row.c4
        have q5 := HW1.out.res.row.c5
        have f0 := HW1.out.res.free 0
        have f1 := HW1.out.res.free 1
        have f2 := HW1.out.res.free 2
        have f3 := HW1.out.res.free 3
        have f4 := HW1.out.res.free 4
        have f5 := HW1.out.res.free 5
        simp only [Nat.zero_add] at q1 q2 q3 q4 q5
        rw [hW1] at l1 q0 q1 q2 q3 q4 q5 f0 f1 f2 f3 f4 f5
        go_wp2_with fail
        have H6 := sixSet_six HW1.out.res ⟨0, 0, 0, false, ⟨#[]⟩⟩ (.slice none 0 0)
        have HBw := sixSet_below (a := ⟨0, 0, 0, false, ⟨#[]⟩⟩) (sl := (.slice none 0 0)) HW1.out.below (Nat.le_refl _)
        rw [hW1] at H6 HBw
        unfold sixSet at H6 HBw
        have e0 := H6.row.c0
        have e1 := H6.row.c1
        have e2 := H6.row.c2
        have e3 := H6.row.c3
        have e4 := H6.row.c4
        have e5 := H6.row.c5
        simp only [Nat.zero_add] at e1 e2 e3 e4 e5
        exact bodyPost_ret (v := .tuple #[.agg #[.int .u8 0, .int .i64 0, .int .i64 0, .bool false, .string ⟨#[]⟩, .slice none 0 0], .int .i64 0, .bool false]) (by simp [results, Tryz.results49, go_sem, q0, q1, q2, q3, q4, q5, l1, e0, e1, e2, e3, e4, e5] <;> rfl) rfl ⟨zerV, (.slice none 0 0), 0, false, rfl, RepL.nil _ _ _ _, HP.out, HBw⟩
      · have HQ1 := Lib.hid HQ.out.2.2
        rw [if_pos rfl] at HQ1
        have hj := HQ.out.1
        rw [lA_len] at hj
        have hkj := HQ.out.2.1 rfl
        have l1 := HW1.out.six.lt
        have q0 := HW1.out.six.row.c0
        have q1 := HW1.out.six.row.c1
        have q2 := HW1.out.six.row.c2
        have q3 := HW1.out.six.row.c3
        have q4 := HW1.out.six.row.c4
        have q5 := HW1.out.six.row.c5
        have f0 := HW1.out.six.free 0
        have f1 := HW1.out.six.free 1
        have f2 := HW1.out.six.free 2
        have f3 := HW1.out.six.free 3
        have f4 := HW1.out.six.free 4
        have f5 := HW1.out.six.free 5
        simp only [Nat.zero_add] at q1 q2 q3 q4 q5
        have m6 := HE1.out.lt
        have m0 := HE1.out.row.c0
        have m1 := HE1.out.row.c1
        have m2 := HE1.out.row.c2
        have m3 := HE1.out.row.c3
        have m4 := HE1.out.row.c4
        have m5 := HE1.out.row.c5
        simp only [Nat.zero_add] at m1 m2 m3 m4 m5
        rw [hW1] at l1 q0 q1 q2 q3 q4 q5 f0 f1 f2 f3 f4 f5 m0 m1 m2 m3 m4 m5 m6
        obtain ⟨W2, hW2⟩ : ∃ W2, W2 = W1.alloc (.cells #[.int .u8 v.nd.k, .int .i64 v.nd.n, .int .i64 v.nd.d, .bool v.nd.t, .string v.nd.s, .slice p v.list.length cap] 28) := ⟨_, rfl⟩
        have hb3 : Below W1.heap.size W1 W2 := by rw [hW2]; exact (Below.refl _ _).alloc (Nat.le_refl _) _
        have HW2 := Lib.hid (HW1.out.later hb3)
        have HR2 := Lib.hid (HR1.out.later hb3)
        have hsn : ∀ j u, (rowL v.nd (.slice p v.list.length cap))[j]? = some u → W2.cell? ((⟨w1.heap.size + 1, 0, none⟩ : Addr).add j) = some u := by
          have := six_new W1 v.nd (.slice p v.list.length cap) 28
          rw [← hW2] at this
          have e : W1.heap.size = w1.heap.size + 1 := by rw [hW1, World.size_alloc]
          rw [e] at this; exact this
        have HSn := Lib.hid hsn
        have hvl : vs.length < 1000000 := by have := HW.out.at_.ln; rw [List.length_drop, List.length_drop, lA_len] at this; omega
        have HNl : Hid ((vs ++ [v]).length = vs.length + 1) := Lib.hid (by simp)
        have HW2' := HW2
        rw [hW2, hW1] at HW2' HR2 HSn
        clear hb3 hsn hW2
        go_wp2_with (at_builtin; refine wpList_append_one rfl _ _ rfl (w.heap.size + 2) vs lv rfl HW2'.out.own HW2'.out.size (wr.heap.size ≤ ·) (fun b _ hq => HN1.out b hq) v (.slice p v.list.length cap) HR2.out ⟨w1.heap.size + 1, 0, none⟩ 1 rfl HSn.out hvl ?_)
        intro lv' w2 ho hg _
        obtain ⟨g, cap', rfl, _, _⟩ := ho.some HNl.out
        obtain ⟨k1, k2, k3, k4, k5, k6⟩ := lnW_put HW2'.out.res HW2'.out.six HW2'.out.own HW2'.out.below HW2'.out.size hg ho
        have K1 := Lib.hid k1
        have K2 := Lib.hid k2
        have K3 := Lib.hid k3
        have K4 := Lib.hid k4
        have K5 := Lib.hid k5
        have K6 := Lib.hid k6
        clear q0 q1 q2 q3 q4 q5 f0 f1 f2 f3 f4 f5 l1 m0 m1 m2 m3 m4 m5 m6 ho hg k1 k2 k3 k4 k5 k6
        have n5 := K1.out.row.c5
        have nf := K1.out.free 5
        have nl := K1.out.lt
        simp only [Nat.zero_add] at n5
        obtain ⟨W3, hW3⟩ : ∃ W3, W3 = w2.setCell ⟨w.heap.size + 1, 5, none⟩ (.slice (some ⟨g, 0, none⟩) (vs.length + 1) cap') := ⟨_, rfl⟩
        have KB := Lib.hid (fun w => starts_any s j [93] (by omega) hj (by simp) w)
        rw [← hW3] at K2 K3 K4 K5 K6
        rcases Bool.eq_false_or_eq_true (startsB s j [93]) with h93 | h93
        · have HP := Lib.hid (HL.out (lstV (vs ++ [v])) (j + 1) true (by have := starts_le h93 (by simp); simpa using this) (by rw [if_pos rfl]; exact HW.out.at_.last HQ1.out (starts_93 h93) (by rw [List.length_drop, lA_len]; omega)))
          rw [h93] at KB
          clear h93
          go_wp2_with fail
          rw [← hW3]
          clear hW3
          refine (KB.out _).mono ?_
          rintro e w4 ⟨rfl, rfl⟩
          clear n5 nf nl
          have l1 := K2.out.lt
          have q0 := K2.out.row.c0
          have q1 := K2.out.row.c1
          have q2 := K2.out.row.c2
          have q3 := K2.out.row.c3
          have q4 := K2.out.row.c4
          have q5 := K2.out.row.c5
          have f0 := K2.out.free 0
          have f1 := K2.out.free 1
          have f2 := K2.out.free 2
          have f3 := K2.out.free 3
          have f4 := K2.out.free 4
          have f5 := K2.out.free 5
          simp only [Nat.zero_add] at q1 q2 q3 q4 q5
          have m6 := K3.out.lt
          have m0 := K3.out.row.c0
          have m1 := K3.out.row.c1
          have m2 := K3.out.row.c2
          have m3 := K3.out.row.c3
          have m4 := K3.out.row.c4
          have m5 := K3.out.row.c5
          simp only [Nat.zero_add] at m1 m2 m3 m4 m5
          go_wp2_with fail
          have HE := ln_store (v := lstV (vs ++ [v])) (sl := (.slice (some ⟨g, 0, none⟩) (vs.length + 1) cap')) (B := w.heap.size + 2) K2.out (by omega) K4.out.rep K5.out
          unfold sixSet at HE
          have HE' := Lib.hid HE
          have e0 := HE.1.row.c0
          have e1 := HE.1.row.c1
          have e2 := HE.1.row.c2
          have e3 := HE.1.row.c3
          have e4 := HE.1.row.c4
          have e5 := HE.1.row.c5
          simp only [Nat.zero_add] at e1 e2 e3 e4 e5
          clear HE
          exact bodyPost_ret (v := .tuple #[.agg #[.int .u8 4, .int .i64 0, .int .i64 0, .bool false, .string ⟨#[]⟩, .slice (some ⟨g, 0, none⟩) (vs.length + 1) cap'], .int .i64 ((j : Int) + 1), .bool true]) (by simp [results, Tryz.results49, go_sem, q0, q1, q2, q3, q4, q5, l1, e0, e1, e2, e3, e4, e5] <;> rfl) rfl ⟨lstV (vs ++ [v]), (.slice (some ⟨g, 0, none⟩) (vs.length + 1) cap'), j + 1, true, by simp [lstV], HE'.out.2.1, HP.out, HE'.out.2.2⟩
        · have KC := Lib.hid (fun w => starts_any s j [44, 32] (by omega) hj (by simp) w)
          have h93' := starts_no93 h93
          rw [h93] at KB
          clear h93
          rcases Bool.eq_false_or_eq_true (startsB s j [44, 32]) with h44 | h44
          · have HP := Lib.hid (HW.out.at_.next HQ1.out (starts_at (t := [44, 32]) h44))
            have hj2 := starts_le h44 (by simp)
            simp only [List.length_cons, List.length_nil] at hj2
            rw [h44] at KC
            clear h44 h93'
            go_wp2_with fail
            rw [← hW3]
            clear hW3
            refine (KB.out _).mono ?_
            rintro e w4 ⟨rfl, rfl⟩
            go_wp2_with fail
            refine (KC.out _).mono ?_
            rintro e w4 ⟨rfl, rfl⟩
            go_wp2_with fail
            go_roundw
            case rel => exact ⟨vs ++ [v], j + 2, _, by go_num, by omega, HP.out, K2.out, K3.out, K4.out, K5.out, K6.out⟩
            case measure => simp [intOf]; omega
          · have HP : Hid (QRd (n + 1) (lA s) at_ zerV 0 false) := Lib.hid (HL.out zerV 0 false (Nat.zero_le _) (HW.out.at_.bad HQ1.out h93' (fun t e => not_starts h44 t e)))
            rw [h44] at KC
            clear h44 h93'
            go_wp2_with fail
            rw [← hW3]
            clear hW3
            refine (KB.out _).mono ?_
            rintro e w4 ⟨rfl, rfl⟩
            go_wp2_with fail
            refine (KC.out _).mono ?_
            rintro e w4 ⟨rfl, rfl⟩
            clear n5 nf nl
            have l1 := K2.out.lt
            have q0 := K2.out.row.c0
            have q1 := K2.out.row.c1
            have q2 := K2.out.row.c2
            have q3 := K2.out.row.c3
            have q4 := K2.out.row.c4
            have q5 := K2.out.row.c5
            have f0 := K2.out.free 0
            have f1 := K2.out.free 1
            have f2 := K2.out.free 2
            have f3 := K2.out.free 3
            have f4 := K2.out.free 4
            have f5 := K2.out.free 5
            simp only [Nat.zero_add] at q1 q2 q3 q4 q5
            go_wp2_with fail
            have H6 := sixSet_six K2.out ⟨0, 0, 0, false, ⟨#[]⟩⟩ (.slice none 0 0)
            have HBw := sixSet_below (a := ⟨0, 0, 0, false, ⟨#[]⟩⟩) (sl := (.slice none 0 0)) K5.out (Nat.le_refl _)
            unfold sixSet at H6 HBw
            have e0 := H6.row.c0
            have e1 := H6.row.c1
            have e2 := H6.row.c2
            have e3 := H6.row.c3
            have e4 := H6.row.c4
            have e5 := H6.row.c5
            simp only [Nat.zero_add] at e1 e2 e3 e4 e5
            exact bodyPost_ret (v := .tuple #[.agg #[.int .u8 0, .int .i64 0, .int .i64 0, .bool false, .string ⟨#[]⟩, .slice none 0 0], .int .i64 0, .bool false]) (by simp [results, Tryz.results49, go_sem, q0, q1, q2, q3, q4, q5, l1, e0, e1, e2, e3, e4, e5] <;> rfl) rfl ⟨zerV, (.slice none 0 0), 0, false, rfl, RepL.nil _ _ _ _, HP.out, HBw⟩

theorem refread_any (s : ByteArray) (hs : s.size ≤ 4000) (n : Nat) : n ≤ 100 → ∀ (at_ : Nat) (w : World), at_ ≤ s.size → Calls Tryz.prog 49 #[.string s, .int .i64 at_, .int .i64 n] w (RfEnd (QRd n (lA s) at_) w) := by
  induction n with
  | zero => intro hn at_ w ha; exact refread_none 0 hn s hs at_ ha (.inl rfl) w
  | succ n ih =>
    intro hn at_ w ha
    by_cases h1 : at_ = s.size
    · exact refread_none (n + 1) hn s hs at_ ha (.inr h1) w
    · have ha' : at_ < s.size := by omega
      rcases Bool.eq_false_or_eq_true (startsB s at_ [116, 114, 117, 101]) with hx | hx
      · exact refread_true n (by omega) s hs at_ ha' hx w
      · rcases Bool.eq_false_or_eq_true (startsB s at_ [102, 97, 108, 115, 101]) with hy | hy
        · exact refread_false n (by omega) s hs at_ ha' hy w
        · by_cases h34 : s[at_] = 34
          · exact refread_str n (by omega) s hs at_ ha' hx hy h34 w
          · by_cases h91 : s[at_] = 91
            · exact refread_lst n (by omega) s hs at_ ha' h91 (ih (by omega)) w
            · exact refread_num n (by omega) s hs at_ ha' hx hy ⟨h34, h91⟩ w
end Go.Proofs.YtakjgjhjndiggaaGreatDoor
