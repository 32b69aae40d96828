/-
  What readList hands back, given what read does; read of any text.
-/
import Derived.Test.YtakjgjhjndiggaaGreatDoorValRdOneVal
import Derived.Test.YtakjgjhjndiggaaGreatDoorValOwnB
namespace Go.Proofs.YtakjgjhjndiggaaGreatDoor
open Go.RowKit Go.Shelf
open VM
set_option linter.unusedVariables false
set_option linter.unusedSimpArgs false

theorem txt_head {v : V} (h : fineB v = true) : ∃ c t, txt v = c :: t ∧ okc c := by
  rcases fine_cases h with ⟨n, d, _, rfl⟩ | ⟨b, rfl⟩ | ⟨b, hb, rfl⟩ | ⟨l, hl, rfl⟩
  · rw [txt_numV]
    cases ht : textL n d with
    | nil => exact absurd ht (textL_ne n d)
    | cons c t => exact ⟨c, t, rfl, (numc_ok (textL_chars n d c (by rw [ht]; simp))).1⟩
  · rw [txt_truV]; cases b
    · exact ⟨102, _, rfl, by decide, by decide⟩
    · exact ⟨116, _, rfl, by decide, by decide⟩
  · rw [txt_strV]; exact ⟨34, _, rfl, by decide, by decide⟩
  · rw [txt_lstV]; exact ⟨91, _, rfl, by decide, by decide⟩
/-- A list's text behind its bracket begins with 93 just if the list is empty. -/
theorem bod_93 {l : List V} {r t : By} (hl : ∀ x ∈ l, fineB x = true) (h : bod l ++ r = 93 :: t) : l = [] ∧ r = t := by
  cases l with
  | nil => rw [bod_nil] at h; injection h with _ h; exact ⟨rfl, h⟩
  | cons x l =>
    obtain ⟨c, u, e, hc⟩ := txt_head (hl x (by simp))
    rw [bod_cons, e] at h
    injection h with h _; exact absurd h hc.2
/-- Where readList stands. -/
structure LsAt (s : By) (vs : List V) (cur : By) : Prop where
  snd : (∀ x ∈ vs, fineB x = true) → s = preT vs ++ cur
  wf : ∀ x ∈ vs, Wf 20000 x
  hg : hgtL vs + cur.length ≤ s.length
  pt : partsL vs + cur.length ≤ s.length
  ln : vs.length + cur.length ≤ s.length
  cmp : ∀ l r, asc s → (∀ x ∈ l, fineB x = true) → s = bod l ++ r → ∃ m, l = vs ++ m ∧ m ≠ [] ∧ cur = bod m ++ r
theorem LsAt.start {s : By} (h : ∀ t, s ≠ 93 :: t) : LsAt s [] s := by
  refine ⟨fun _ => by simp [preT], by simp, by simp [hgtL], by simp [partsL], by simp, fun l r _ _ hs => ⟨l, rfl, ?_, hs⟩⟩
  rintro rfl
  rw [bod_nil] at hs; exact h r hs
theorem PLs.empty {s t : By} (h : s = 93 :: t) : PLs s (lstV []) t true := by
  refine ⟨fun _ => ⟨[], rfl, fun _ => by rw [bod_nil, h]; rfl, by simp, by simp, by rw [h]; simp [hgtL], by rw [h]; simp [partsL]⟩, fun l r _ hl hs => ?_⟩
  rw [h] at hs
  obtain ⟨rfl, rfl⟩ := bod_93 hl hs.symm
  exact ⟨rfl, rfl, rfl⟩
theorem asc_of {s a b : By} (h : asc s) (e : s = a ++ b) : asc b := fun c hc => h c (by rw [e]; exact List.mem_append_right _ hc)
theorem LsAt.asc_cur {s : By} {vs : List V} {cur : By} (h : LsAt s vs cur) {l : List V} {r : By} (ha : asc s) (hl : ∀ x ∈ l, fineB x = true) (hs : s = bod l ++ r) : asc cur := by
  obtain ⟨m, rfl, _, hc⟩ := h.cmp l r ha hl hs
  exact asc_of ha (h.snd fun x hx => hl x (List.mem_append_left _ hx))
/-- An element, and then the end. -/
theorem LsAt.last {s : By} {vs : List V} {cur rest after : By} {e : V} (h : LsAt s vs cur) (he : PRd cur e after true) (ha : after = 93 :: rest) (hs : s.length ≤ 4000) : PLs s (lstV (vs ++ [e])) rest true := by
  obtain ⟨h1, h2, h3, h4⟩ := he.1 rfl
  rw [ha, List.length_cons] at h3 h4
  have hp := parts_pos e
  have := h.hg; have := h.pt; have := h.ln
  refine ⟨fun _ => ⟨vs ++ [e], rfl, fun hf => ?_, fun x hx => ?_, by rw [List.length_append, List.length_singleton]; omega, by rw [hgtL_app]; simp only [hgtL]; omega, by rw [partsL_app]; simp only [partsL]; omega⟩, fun l r hasc hl hb => ?_⟩
  · rw [h.snd fun x hx => hf x (List.mem_append_left _ hx), h1 (hf e (by simp)), ha, preT_last]
  · rw [List.mem_append, List.mem_singleton] at hx
    rcases hx with hx | rfl
    · exact h.wf x hx
    · exact h2
  · obtain ⟨m, rfl, hm, hc⟩ := h.cmp l r hasc hl hb
    cases m with
    | nil => exact absurd rfl hm
    | cons x m =>
      rw [bod_cons, List.append_assoc] at hc
      obtain ⟨_, e1, e2⟩ := he.2 x (tlL m ++ r) (h.asc_cur hasc hl hb) (hl x (by simp)) hc (tlL_term m r)
      rw [ha] at e2
      cases m with
      | nil => rw [tlL_nil] at e2; injection e2 with _ e2; exact ⟨rfl, by rw [e1], e2⟩
      | cons y m => rw [tlL_cons] at e2; injection e2 with e2 _; exact absurd e2 (by decide)
/-- An element, and then the next one. -/
theorem LsAt.next {s : By} {vs : List V} {cur cur' after : By} {e : V} (h : LsAt s vs cur) (he : PRd cur e after true) (ha : after = 44 :: 32 :: cur') : LsAt s (vs ++ [e]) cur' ∧ cur'.length < cur.length := by
  obtain ⟨h1, h2, h3, h4⟩ := he.1 rfl
  rw [ha, List.length_cons, List.length_cons] at h3 h4
  have hp := parts_pos e
  have := h.hg; have := h.pt; have := h.ln
  refine ⟨⟨fun hf => ?_, fun x hx => ?_, by rw [hgtL_app]; simp only [hgtL]; omega, by rw [partsL_app]; simp only [partsL]; omega, by rw [List.length_append, List.length_singleton]; omega, fun l r hasc hl hb => ?_⟩, by omega⟩
  · rw [h.snd fun x hx => hf x (List.mem_append_left _ hx), h1 (hf e (by simp)), ha, preT_next]
  · rw [List.mem_append, List.mem_singleton] at hx
    rcases hx with hx | rfl
    · exact h.wf x hx
    · exact h2
  · obtain ⟨m, rfl, hm, hc⟩ := h.cmp l r hasc hl hb
    cases m with
    | nil => exact absurd rfl hm
    | cons x m =>
      rw [bod_cons, List.append_assoc] at hc
      obtain ⟨_, e1, e2⟩ := he.2 x (tlL m ++ r) (h.asc_cur hasc hl hb) (hl x (by simp)) hc (tlL_term m r)
      rw [ha] at e2
      cases m with
      | nil => rw [tlL_nil] at e2; injection e2 with e2 _; exact absurd e2 (by decide)
      | cons y m =>
        rw [tlL_bod] at e2
        injection e2 with _ e2
        injection e2 with _ e2
        exact ⟨y :: m, by rw [e1]; simp, by simp, e2⟩
/-- No element. -/
theorem LsAt.none {s : By} {vs : List V} {cur rest : By} {e v : V} (h : LsAt s vs cur) (he : PRd cur e rest false) : PLs s v [] false := by
  refine ⟨fun e => by simp at e, fun l r hasc hl hb => ?_⟩
  obtain ⟨m, rfl, hm, hc⟩ := h.cmp l r hasc hl hb
  cases m with
  | nil => exact absurd rfl hm
  | cons x m =>
    rw [bod_cons, List.append_assoc] at hc
    obtain ⟨e0, _, _⟩ := he.2 x (tlL m ++ r) (h.asc_cur hasc hl hb) (hl x (by simp)) hc (tlL_term m r)
    simp at e0
/-- Neither the end nor the next one. -/
theorem LsAt.bad {s : By} {vs : List V} {cur after : By} {e v : V} (h : LsAt s vs cur) (he : PRd cur e after true) (h1 : ∀ t, after ≠ 93 :: t) (h2 : ∀ t, after ≠ 44 :: 32 :: t) : PLs s v [] false := by
  refine ⟨fun e => by simp at e, fun l r hasc hl hb => ?_⟩
  obtain ⟨m, rfl, hm, hc⟩ := h.cmp l r hasc hl hb
  cases m with
  | nil => exact absurd rfl hm
  | cons x m =>
    rw [bod_cons, List.append_assoc] at hc
    obtain ⟨_, e1, e2⟩ := he.2 x (tlL m ++ r) (h.asc_cur hasc hl hb) (hl x (by simp)) hc (tlL_term m r)
    cases m with
    | nil => rw [tlL_nil] at e2; exact absurd e2 (h1 r)
    | cons y m => rw [tlL_bod] at e2; exact absurd e2 (h2 _)

/-- What readList's variables hold. -/
structure LsW (s : ByteArray) (w : World) (vs : List V) (cur : By) (lv : Value) (wr : World) : Prop where
  at_ : LsAt (lA s) vs cur
  six : Six wr w.heap.size ⟨4, 0, 0, false, ⟨#[]⟩⟩ lv
  own : OwnL (w.heap.size + 1) wr vs lv
  below : Below w.heap.size w wr
  size : w.heap.size + 1 ≤ wr.heap.size
theorem LsW.later {s : ByteArray} {w : World} {vs : List V} {cur : By} {lv : Value} {wr w1 : World} (h : LsW s w vs cur lv wr) (hb : Below wr.heap.size wr w1) : LsW s w vs cur lv w1 :=
  ⟨h.at_, h.six.later hb, h.own.later hb, h.below.trans (hb.mono h.below.size), Nat.le_trans h.size hb.size⟩
theorem lsW_put {w : World} {vs : List V} {x : V} {lv lv' : Value} {a : Nd} {wr w1 : World} (h6 : Six wr w.heap.size a lv) (ho : OwnL (w.heap.size + 1) wr vs lv) (hb : Below w.heap.size w wr) (hs : w.heap.size + 1 ≤ wr.heap.size) (hg : wr.grownBy w1 lv.ownBlock) (ho' : OwnL (w.heap.size + 1) w1 (vs ++ [x]) lv') :
    Six w1 w.heap.size a lv ∧ Six (w1.setCell ⟨w.heap.size, 5, none⟩ lv') w.heap.size a lv' ∧ OwnL (w.heap.size + 1) (w1.setCell ⟨w.heap.size, 5, none⟩ lv') (vs ++ [x]) lv' ∧ Below w.heap.size w (w1.setCell ⟨w.heap.size, 5, none⟩ lv') ∧ w.heap.size + 1 ≤ (w1.setCell ⟨w.heap.size, 5, none⟩ lv').heap.size := by
  have h1 : Six w1 w.heap.size a lv := heap_grown hg ho (by omega) h6
  exact ⟨h1, h1.list _, ho'.set (by show w.heap.size < w.heap.size + 1; omega) _, (below_grown hg ho (by omega) hs hb).setCell (Nat.le_refl _) _, by simpa [World.setCell] using Nat.le_trans hs hg.size⟩
def szS (v : Value) : Nat := match v with | .string s => s.size | _ => 0

set_option maxHeartbeats 4000000 in
theorem list_of_read (n : Nat) (hn : n ≤ 4000) (hR : ∀ (s : ByteArray) (w : World), s.size ≤ n → Tab w → Len w → Calls Tryz.prog 48 #[.string s] w (RdEnd (PRd (lA s)) w))
    (s : ByteArray) (w : World) (hs : s.size ≤ n) (ht : Tab w) (hl : Len w) : Calls Tryz.prog 75 #[.string s] w (RdEnd (PLs (lA s)) w) := by
  have HR := Lib.hid hR
  have HT := Lib.hid ht
  have HLn := Lib.hid hl
  have HSz : (lA s).length ≤ 4000 := by rw [lA_len]; omega
  have B0 : Hid (Below w.heap.size w ((w.alloc (.cells #[.int .u8 0, .int .i64 0, .int .i64 0, .bool false, .string ⟨#[]⟩, .slice none 0 0] 28)).setCell ⟨w.heap.size, 0, none⟩ (.int .u8 4))) := Lib.hid (((Below.refl _ _).alloc (Nat.le_refl _) _).setCell (Nat.le_refl _) _)
  have S0 : Hid (Six (w.alloc (.cells #[.int .u8 4, .int .i64 0, .int .i64 0, .bool false, .string ⟨#[]⟩, .slice none 0 0] 28)) w.heap.size ⟨4, 0, 0, false, ⟨#[]⟩⟩ (.slice none 0 0)) := Lib.hid (Six.new w ⟨4, 0, 0, false, ⟨#[]⟩⟩ (.slice none 0 0))
  clear hR ht hl
  by_cases h93 : ∃ t, lA s = 93 :: t
  · obtain ⟨t, hc⟩ := h93
    have KA := Lib.hid (fun w => cut_yes (s := s) (p := [93]) (t := t) (by rw [hc]; rfl) w)
    have HQ := Lib.hid (PLs.empty hc)
    clear hc
    go_enter Tryz.func75, Tryz.ntmps75
    go_wp2_with fail
    refine (KA.out _).mono ?_
    rintro e w1 ⟨rfl, rfl⟩
    go_wp2_with fail
    have e0 := S0.out.row.c0
    have e1 := S0.out.row.c1
    have e2 := S0.out.row.c2
    have e3 := S0.out.row.c3
    have e4 := S0.out.row.c4
    have e5 := S0.out.row.c5
    simp only [Nat.zero_add] at e1 e2 e3 e4 e5
    exact bodyPost_ret (v := .tuple #[.agg #[.int .u8 4, .int .i64 0, .int .i64 0, .bool false, .string ⟨#[]⟩, .slice none 0 0], .string (bA t), .bool true]) (by simp [results, Tryz.results75, go_sem, e0, e1, e2, e3, e4, e5] <;> rfl) rfl ⟨lstV [], .slice none 0 0, t, true, rfl, RepL.nil _ _ _ _, HQ.out, (Below.refl _ _).alloc (Nat.le_refl _) _⟩
  · have h93' : ∀ t, lA s ≠ 93 :: t := fun t e => h93 ⟨t, e⟩
    have KA := Lib.hid (fun w => cut_no (s := s) (p := [93]) (by intro t' e; exact h93' t' (by rw [e]; rfl)) w)
    have A0 := Lib.hid (LsAt.start h93')
    clear h93 h93'
    go_enter Tryz.func75, Tryz.ntmps75
    go_wp2_with fail
    refine (KA.out _).mono ?_
    rintro e w1 ⟨rfl, rfl⟩
    go_wp2_with fail
    go_loopw [0] (fun sv wr => ∃ (vs : List V) (cur : By) (lv : Value), sv = .string (bA cur) ∧ LsW s w vs cur lv wr) (fun sv _ => szS sv)
    case atStart =>
      refine ⟨[], lA s, .slice none 0 0, by rw [bA_lA], A0.out, S0.out, OwnL.nil _ _, (Below.refl _ _).alloc (Nat.le_refl _) _, by simp⟩
    case round =>
      obtain ⟨vs, cur, lv, rfl, hW⟩ := hrel
      have HW := Lib.hid hW
      clear hW
      have hcl : cur.length ≤ s.size := by have := HW.out.at_.hg; rw [lA_len] at this; omega
      have KR := Lib.hid (HR.out (bA cur) wr (by rw [bA_size]; omega) (HT.out.later HW.out.below) (HLn.out.later HW.out.below))
      rw [lA_bA] at KR
      go_wp2_with fail
      refine KR.out.mono ?_
      rintro e w1 ⟨v, sl, rest, ok, rfl, hr1, hq, hb1⟩
      obtain ⟨p, cap, rfl⟩ := hr1.slice
      have HQ := Lib.hid hq
      obtain ⟨W1, hW1⟩ : ∃ W1, W1 = w1.alloc (.cells #[.int .u8 v.nd.k, .int .i64 v.nd.n, .int .i64 v.nd.d, .bool v.nd.t, .string v.nd.s, .slice p v.list.length cap] 28) := ⟨_, rfl⟩
      have hb2 : Below wr.heap.size wr W1 := by rw [hW1]; exact hb1.alloc hb1.size _
      have hbw : Below w1.heap.size w1 W1 := by rw [hW1]; exact (Below.refl _ _).alloc (Nat.le_refl _) _
      have HW1 := Lib.hid (HW.out.later hb2)
      have HE1 : Hid (Six W1 w1.heap.size v.nd (.slice p v.list.length cap)) := Lib.hid (by rw [hW1]; exact Six.new _ _ _)
      have HR1 := Lib.hid (hr1.later hbw)
      have HN1 : Hid (∀ b, wr.heap.size ≤ b → w.heap.size + 1 ≤ b ∧ lv.ownBlock ≠ some b) := Lib.hid (HW.out.own.apart HW.out.size)
      have l1 := HW1.out.six.lt
      have q0 := HW1.out.six.row.c0
      have q1 := HW1.out.six.row.c1
      have q2 := HW1.out.six.row.c2
      have q3 := HW1.out.six.row.c3
      have q4 := HW1.out.six.row.c4
      have q5 := HW1.out.six.row.c5
      have f0 := HW1.out.six.free 0
      have f1 := HW1.out.six.free 1
      have f2 := HW1.out.six.free 2
      have f3 := HW1.out.six.free 3
      have f4 := HW1.out.six.free 4
      have f5 := HW1.out.six.free 5
      have m0 := HE1.out.row.c0
      have m1 := HE1.out.row.c1
      have m2 := HE1.out.row.c2
      have m3 := HE1.out.row.c3
      have m4 := HE1.out.row.c4
      have m5 := HE1.out.row.c5
      have m6 := HE1.out.lt
      simp only [Nat.zero_add] at q1 q2 q3 q4 q5 m1 m2 m3 m4 m5
      have dne : ¬ w1.heap.size = w.heap.size := by have := HW.out.size; have := hb1.size; omega
      rw [hW1] at l1 q0 q1 q2 q3 q4 q5 f0 f1 f2 f3 f4 f5 m0 m1 m2 m3 m4 m5 m6
      clear hr1 hq hb1 hb2 hbw
      cases ok
      · have HP : Hid (PLs (lA s) zerV [] false) := Lib.hid (HW.out.at_.none HQ.out)
        go_wp2_with fail
        have H6 := sixSet_six HW1.out.six ⟨0, 0, 0, false, ⟨#[]⟩⟩ (.slice none 0 0)
        have HBw := sixSet_below (a := ⟨0, 0, 0, false, ⟨#[]⟩⟩) (sl := .slice none 0 0) HW1.out.below (Nat.le_refl _)
        rw [hW1] at H6 HBw
        unfold sixSet at H6 HBw
        have e0 := H6.row.c0
        have e1 := H6.row.c1
        have e2 := H6.row.c2
        have e3 := H6.row.c3
        have e4 := H6.row.c4
        have e5 := H6.row.c5
        simp only [Nat.zero_add] at e1 e2 e3 e4 e5
        exact bodyPost_ret (v := .tuple #[.agg #[.int .u8 0, .int .i64 0, .int .i64 0, .bool false, .string ⟨#[]⟩, .slice none 0 0], .string ⟨#[]⟩, .bool false]) (by simp [results, Tryz.results75, go_sem, q0, q1, q2, q3, q4, q5, l1, e0, e1, e2, e3, e4, e5] <;> rfl) rfl ⟨zerV, .slice none 0 0, [], false, rfl, RepL.nil _ _ _ _, HP.out, HBw⟩
      · obtain ⟨W2, hW2⟩ : ∃ W2, W2 = W1.alloc (.cells #[.int .u8 v.nd.k, .int .i64 v.nd.n, .int .i64 v.nd.d, .bool v.nd.t, .string v.nd.s, .slice p v.list.length cap] 28) := ⟨_, rfl⟩
        have hb3 : Below W1.heap.size W1 W2 := by rw [hW2]; exact (Below.refl _ _).alloc (Nat.le_refl _) _
        have HW2 := Lib.hid (HW1.out.later hb3)
        have HR2 := Lib.hid (HR1.out.later hb3)
        have hsn : ∀ j u, (rowL v.nd (.slice p v.list.length cap))[j]? = some u → W2.cell? ((⟨w1.heap.size + 1, 0, none⟩ : Addr).add j) = some u := by
          have := six_new W1 v.nd (.slice p v.list.length cap) 28
          rw [← hW2] at this
          have e : W1.heap.size = w1.heap.size + 1 := by rw [hW1, World.size_alloc]
          rw [e] at this; exact this
        have HSn := Lib.hid hsn
        have hvl : vs.length < 1000000 := by have := HW.out.at_.ln; omega
        have HNl : Hid ((vs ++ [v]).length = vs.length + 1) := Lib.hid (by simp)
        have HW2' := HW2
        rw [hW2, hW1] at HW2' HR2 HSn
        clear hb3 hsn hW2
        go_wp2_with (at_builtin; refine wpList_append_one rfl _ _ rfl (w.heap.size + 1) vs lv rfl HW2'.out.own HW2'.out.size (wr.heap.size ≤ ·) (fun b _ hq => HN1.out b hq) v (.slice p v.list.length cap) HR2.out ⟨w1.heap.size + 1, 0, none⟩ 1 rfl HSn.out hvl ?_)
        intro lv' w2 ho hg _
        obtain ⟨g, cap', rfl, _, _⟩ := ho.some HNl.out
        obtain ⟨k1, k2, k3, k4, k5⟩ := lsW_put HW2'.out.six HW2'.out.own HW2'.out.below HW2'.out.size hg ho
        have K1 := Lib.hid k1
        have K2 := Lib.hid k2
        have K3 := Lib.hid k3
        have K4 := Lib.hid k4
        have K5 := Lib.hid k5
        clear q0 q1 q2 q3 q4 q5 f0 f1 f2 f3 f4 f5 l1 m0 m1 m2 m3 m4 m5 m6 ho hg k1 k2 k3 k4 k5
        have n5 := K1.out.row.c5
        have nf := K1.out.free 5
        have nl := K1.out.lt
        simp only [Nat.zero_add] at n5
        obtain ⟨W3, hW3⟩ : ∃ W3, W3 = w2.setCell ⟨w.heap.size, 5, none⟩ (.slice (some ⟨g, 0, none⟩) (vs.length + 1) cap') := ⟨_, rfl⟩
        by_cases hr93 : ∃ t, rest = 93 :: t
        · obtain ⟨t, rfl⟩ := hr93
          have HP := Lib.hid (HW.out.at_.last HQ.out rfl HSz)
          have KB := Lib.hid (fun w => cut_yes (s := bA (93 :: t)) (p := [93]) (t := t) (by rw [lA_bA]; rfl) w)
          rw [← hW3] at K2 K3 K4 K5
          go_wp2_with fail
          rw [← hW3]
          clear hW3
          refine (KB.out _).mono ?_
          rintro e w4 ⟨rfl, rfl⟩
          have l1 := K2.out.lt
          have q0 := K2.out.row.c0
          have q1 := K2.out.row.c1
          have q2 := K2.out.row.c2
          have q3 := K2.out.row.c3
          have q4 := K2.out.row.c4
          have q5 := K2.out.row.c5
          have f0 := K2.out.free 0
          have f1 := K2.out.free 1
          have f2 := K2.out.free 2
          have f3 := K2.out.free 3
          have f4 := K2.out.free 4
          have f5 := K2.out.free 5
          simp only [Nat.zero_add] at q1 q2 q3 q4 q5
          clear n5 nf nl
          have HE := rd_store (v := lstV (vs ++ [v])) (sl := .slice (some ⟨g, 0, none⟩) (vs.length + 1) cap') K2.out K3.out.rep K4.out
          unfold sixSet at HE
          have HE' := Lib.hid HE
          have e0 := HE.1.row.c0
          have e1 := HE.1.row.c1
          have e2 := HE.1.row.c2
          have e3 := HE.1.row.c3
          have e4 := HE.1.row.c4
          have e5 := HE.1.row.c5
          simp only [Nat.zero_add] at e1 e2 e3 e4 e5
          clear HE
          go_wp2_with fail
          exact bodyPost_ret (v := .tuple #[.agg #[.int .u8 4, .int .i64 0, .int .i64 0, .bool false, .string ⟨#[]⟩, .slice (some ⟨g, 0, none⟩) (vs.length + 1) cap'], .string (bA t), .bool true]) (by simp [results, Tryz.results75, go_sem, q0, q1, q2, q3, q4, q5, l1, e0, e1, e2, e3, e4, e5] <;> rfl) rfl ⟨lstV (vs ++ [v]), .slice (some ⟨g, 0, none⟩) (vs.length + 1) cap', t, true, rfl, HE'.out.2.1, HP.out, HE'.out.2.2⟩
        · have hr93' : ∀ t, rest ≠ 93 :: t := fun t e => hr93 ⟨t, e⟩
          have KB := Lib.hid (fun w => cut_no (s := bA rest) (p := [93]) (by intro t' e; rw [lA_bA] at e; exact hr93' t' (by rw [e]; rfl)) w)
          rw [← hW3] at K2 K3 K4 K5
          by_cases hr44 : ∃ t, rest = 44 :: 32 :: t
          · obtain ⟨t, rfl⟩ := hr44
            have HP := Lib.hid (HW.out.at_.next HQ.out rfl)
            have KC := Lib.hid (fun w => cut_yes (s := bA (44 :: 32 :: t)) (p := [44, 32]) (t := t) (by rw [lA_bA]; rfl) w)
            clear hr93 hr93'
            go_wp2_with fail
            rw [← hW3]
            clear hW3
            refine (KB.out _).mono ?_
            rintro e w4 ⟨rfl, rfl⟩
            go_wp2_with fail
            refine (KC.out _).mono ?_
            rintro e w4 ⟨rfl, rfl⟩
            go_wp2_with fail
            go_roundw
            case rel => exact ⟨vs ++ [v], t, _, rfl, HP.out.1, K2.out, K3.out, K4.out, K5.out⟩
            case measure => have := HP.out.2; simp [szS, bA_size]; exact this
          · have HP : Hid (PLs (lA s) zerV [] false) := Lib.hid (HW.out.at_.bad HQ.out hr93' (fun t e => hr44 ⟨t, e⟩))
            have KC := Lib.hid (fun w => cut_no (s := bA rest) (p := [44, 32]) (by intro t' e; rw [lA_bA] at e; exact hr44 ⟨t', by rw [e]; rfl⟩) w)
            clear hr93 hr93' hr44
            go_wp2_with fail
            rw [← hW3]
            clear hW3
            refine (KB.out _).mono ?_
            rintro e w4 ⟨rfl, rfl⟩
            go_wp2_with fail
            refine (KC.out _).mono ?_
            rintro e w4 ⟨rfl, rfl⟩
            have l1 := K2.out.lt
            have q0 := K2.out.row.c0
            have q1 := K2.out.row.c1
            have q2 := K2.out.row.c2
            have q3 := K2.out.row.c3
            have q4 := K2.out.row.c4
            have q5 := K2.out.row.c5
            have f0 := K2.out.free 0
            have f1 := K2.out.free 1
            have f2 := K2.out.free 2
            have f3 := K2.out.free 3
            have f4 := K2.out.free 4
            have f5 := K2.out.free 5
            simp only [Nat.zero_add] at q1 q2 q3 q4 q5
            clear n5 nf nl
            go_wp2_with fail
            have H6 := sixSet_six K2.out ⟨0, 0, 0, false, ⟨#[]⟩⟩ (.slice none 0 0)
            have HBw := sixSet_below (a := ⟨0, 0, 0, false, ⟨#[]⟩⟩) (sl := .slice none 0 0) K4.out (Nat.le_refl _)
            unfold sixSet at H6 HBw
            have e0 := H6.row.c0
            have e1 := H6.row.c1
            have e2 := H6.row.c2
            have e3 := H6.row.c3
            have e4 := H6.row.c4
            have e5 := H6.row.c5
            simp only [Nat.zero_add] at e1 e2 e3 e4 e5
            exact bodyPost_ret (v := .tuple #[.agg #[.int .u8 0, .int .i64 0, .int .i64 0, .bool false, .string ⟨#[]⟩, .slice none 0 0], .string ⟨#[]⟩, .bool false]) (by simp [results, Tryz.results75, go_sem, q0, q1, q2, q3, q4, q5, l1, e0, e1, e2, e3, e4, e5] <;> rfl) rfl ⟨zerV, .slice none 0 0, [], false, rfl, RepL.nil _ _ _ _, HP.out, HBw⟩

theorem read_all (hidx : IdxOk) (n : Nat) : n ≤ 4000 → ∀ (s : ByteArray) (w : World), s.size ≤ n → Tab w → Len w → Calls Tryz.prog 48 #[.string s] w (RdEnd (PRd (lA s)) w) := by
  induction n with
  | zero =>
    intro _ s w hs ht hl
    refine read_of_list hidx s (by omega) w (fun t w1 e _ _ => ?_) ht hl
    have := congrArg List.length e
    rw [lA_len, List.length_cons] at this; omega
  | succ n ih =>
    intro hn s w hs ht hl
    refine read_of_list hidx s (by omega) w (fun t w1 e ht1 hl1 => ?_) ht hl
    have hz := congrArg List.length e
    rw [lA_len, List.length_cons] at hz
    have := list_of_read n (by omega) (ih (by omega)) (bA t) w1 (by rw [bA_size]; omega) ht1 hl1
    rwa [lA_bA] at this
end Go.Proofs.YtakjgjhjndiggaaGreatDoor
