/-
  Strings that are no valid value's text. What refused of the laws hands back of a string that is no value's text. What nested of the laws hands back. What Len hands back, and At where there is no such place, or of a string.
-/
import Derived.Test.YtakjgjhjndiggaaGreatDoorValParse
import Derived.Test.YtakjgjhjndiggaaGreatDoorZRatStr
import Derived.Test.YtakjgjhjndiggaaGreatDoorValIdx
import Derived.Test.YtakjgjhjndiggaaGreatDoorValMk
import Derived.Test.YtakjgjhjndiggaaGreatDoorValAlTwo
import Derived.Test.YtakjgjhjndiggaaGreatDoorValCheck
import Derived.Test.YtakjgjhjndiggaaGreatDoorValTwin
namespace Go.Proofs.YtakjgjhjndiggaaGreatDoor
open Go.RowKit Go.Shelf
open VM
open RM (vld vld_iff)
set_option linter.unusedVariables false
set_option linter.unusedSimpArgs false

def NoTxt (s : By) : Prop := ∀ u, vchk u = 0 → txt u ≠ s
theorem no_zer {s : By} {x : V} {c : Int} (h : PaOk s x c) (hn : NoTxt s) : x = zerV ∧ c = 12 := by
  rcases h with ⟨_, h2, h3, _⟩ | ⟨h1, h2, _⟩
  · exact absurd h3 (hn x h2)
  · exact ⟨h2, h1⟩
theorem no_num {c : UInt8} {s : By} (hc : c ∈ s) (hn : ¬ numc c) (n d : Int) : textL n d ≠ s := fun h => hn (textL_chars n d c (h ▸ hc))
theorem no_of {s : By} (h1 : ∀ n d, vld n d = true → textL n d ≠ s) (h2 : truL true ≠ s) (h3 : truL false ≠ s) (h4 : ∀ b, quoL b ≠ s) (h5 : ∀ l, (∀ x ∈ l, fineB x = true) → vchk (lstV l) = 0 → bod l ≠ s.tail ∨ s.head? ≠ some 91) : NoTxt s := by
  intro u hu he
  rcases fine_cases (vchk_zero.1 hu).2.2 with ⟨n, d, hv, rfl⟩ | ⟨b, rfl⟩ | ⟨b, hb, rfl⟩ | ⟨l, hl, rfl⟩
  · rw [txt_numV] at he; exact h1 n d hv he
  · rw [txt_truV] at he; cases b
    · exact h3 he
    · exact h2 he
  · rw [txt_strV] at he; exact h4 b he
  · rw [txt_lstV] at he
    subst he
    rcases h5 l hl hu with h | h <;> exact h rfl
theorem txt_head5 {u : V} (h : fineB u = true) {r : By} {c : UInt8} {r' : By} (he : txt u ++ r = c :: r') : numc c ∨ c = 116 ∨ c = 102 ∨ c = 34 ∨ c = 91 := by
  rcases fine_cases h with ⟨n, d, hv, rfl⟩ | ⟨b, rfl⟩ | ⟨b, hb, rfl⟩ | ⟨l, hl, rfl⟩
  · rw [txt_numV] at he; exact .inl (head_num he.symm)
  · rw [txt_truV] at he; rcases tru_head he.symm with h | h <;> simp [h]
  · rw [txt_strV, quoL] at he; injection he with h _; simp [← h]
  · rw [txt_lstV] at he; injection he with h _; simp [← h]
theorem txt_num {u : V} (h : fineB u = true) {r : By} {c : UInt8} {r' : By} (he : txt u ++ r = c :: r') (hc : numc c) : ∃ n d, txt u = textL n d := by
  have hk := numc_ok hc
  rcases fine_cases h with ⟨n, d, hv, rfl⟩ | ⟨b, rfl⟩ | ⟨b, hb, rfl⟩ | ⟨l, hl, rfl⟩
  · exact ⟨n, d, txt_numV n d⟩
  · rw [txt_truV] at he; rcases tru_head he.symm with h | h <;> simp [h] at hk
  · rw [txt_strV, quoL] at he; injection he with h _; simp [← h] at hk
  · rw [txt_lstV] at he; injection he with h _; simp [← h] at hk
theorem txt_lst {u : V} (h : fineB u = true) {r : By} {r' : By} (he : txt u ++ r = 91 :: r') : ∃ l, (∀ x ∈ l, fineB x = true) ∧ u = lstV l ∧ bod l ++ r = r' := by
  rcases fine_cases h with ⟨n, d, hv, rfl⟩ | ⟨b, rfl⟩ | ⟨b, hb, rfl⟩ | ⟨l, hl, rfl⟩
  · rw [txt_numV] at he; exact absurd rfl (numc_ok (head_num he.symm)).2.2.1
  · rw [txt_truV] at he; rcases tru_head he.symm with h | h <;> simp at h
  · rw [txt_strV, quoL] at he; injection he with h _; simp at h
  · rw [txt_lstV] at he; injection he with _ h2; exact ⟨l, hl, rfl, h2⟩
instance (c : UInt8) : Decidable (numc c) := by unfold numc isDig; infer_instance
theorem num_rest {t r : By} (ht : ∀ c ∈ t, numc c) (hr : term r) : (t ++ r).dropWhile (fun c => decide (numc c)) = r := by
  induction t with
  | nil =>
    rcases hr with rfl | ⟨c, r', rfl, rfl | rfl⟩
    · rfl
    · rfl
    · rfl
  | cons c t ih =>
    have h1 := ht c (by simp)
    rw [List.cons_append, List.dropWhile_cons]
    simp only [h1, decide_true, if_true]
    exact ih fun x hx => ht x (by simp [hx])
/-- A list that begins with a number. -/
theorem bod_num {l : List V} (hl : ∀ x ∈ l, fineB x = true) {c : UInt8} {r' : By} (he : bod l = c :: r') (hc : numc c) : ∃ m, (∀ x ∈ m, fineB x = true) ∧ tlL m = (c :: r').dropWhile (fun c => decide (numc c)) := by
  cases l with
  | nil => rw [bod_nil] at he; injection he with h _; subst h; exact absurd hc (by decide)
  | cons x l =>
    rw [bod_cons] at he
    obtain ⟨n, d, e⟩ := txt_num (hl x (by simp)) he hc
    refine ⟨l, fun y hy => hl y (by simp [hy]), ?_⟩
    rw [← he, e]
    have := tlL_term l []
    rw [List.append_nil] at this
    exact (num_rest (textL_chars n d) this).symm
theorem textL_ne1 (n d : Int) : 1 ≤ (textL n d).length := List.length_pos_iff.2 (textL_ne n d)
theorem no_0 : NoTxt [] := no_of (fun n d _ => textL_ne n d) (by decide) (by decide) (fun b => by simp [quoL]) (fun l _ _ => .inr (by simp))
theorem no_True : NoTxt [84, 114, 117, 101] := no_of (fun n d _ => no_num (c := 84) (by simp) (by decide) n d) (by decide) (by decide) (fun b => by simp [quoL]) (fun l _ _ => .inr (by simp))
theorem no_sp1 : NoTxt [32, 49] := no_of (fun n d _ => no_num (c := 32) (by simp) (by decide) n d) (by decide) (by decide) (fun b => by simp [quoL]) (fun l _ _ => .inr (by simp))
theorem no_1sp : NoTxt [49, 32] := no_of (fun n d _ => no_num (c := 32) (by simp) (by decide) n d) (by decide) (by decide) (fun b => by simp [quoL]) (fun l _ _ => .inr (by simp))
theorem no_nil : NoTxt [110, 105, 108] := no_of (fun n d _ => no_num (c := 110) (by simp) (by decide) n d) (by decide) (by decide) (fun b => by simp [quoL]) (fun l _ _ => .inr (by simp))
theorem textL_is {n d : Int} (hv : vld n d = true) {s : By} (h : textL n d = s) : looseN (bA s) = n ∧ looseD (bA s) = d := by
  have := loose_text hv
  rw [textB_bA, h] at this
  exact this
theorem no_01 : NoTxt [48, 49] := no_of (fun n d hv h => by
  obtain ⟨h1, h2⟩ := textL_is hv h
  rw [show looseN (bA [48, 49]) = 1 by decide +kernel] at h1
  rw [show looseD (bA [48, 49]) = 1 by decide +kernel] at h2
  subst h1 h2
  revert h; decide +kernel) (by decide) (by decide) (fun b => by simp [quoL]) (fun l _ _ => .inr (by simp))
theorem no_24 : NoTxt [50, 47, 52] := no_of (fun n d hv h => by
  obtain ⟨h1, h2⟩ := textL_is hv h
  rw [show looseN (bA [50, 47, 52]) = 2 by decide +kernel] at h1
  rw [show looseD (bA [50, 47, 52]) = 4 by decide +kernel] at h2
  subst h1 h2
  revert hv; decide +kernel) (by decide) (by decide) (fun b => by simp [quoL]) (fun l _ _ => .inr (by simp))
theorem no_qa : NoTxt [34, 97] := no_of (fun n d _ => no_num (c := 34) (by simp) (by decide) n d) (by decide) (by decide) (fun b h => by
  unfold quoL at h
  injection h with _ h
  have := congrArg List.getLast? h; simp at this) (fun l _ _ => .inr (by simp))
theorem esc_of {b s : By} (h : quoL b = 34 :: (s ++ [34])) : escL b = s := by
  unfold quoL at h
  injection h with _ h
  exact List.append_cancel_right h
theorem no_qn : NoTxt [34, 92, 110, 34] := no_of (fun n d _ => no_num (c := 34) (by simp) (by decide) n d) (by decide) (by decide) (fun b h => by
  have h := esc_of (s := [92, 110]) h
  cases b with
  | nil => simp [escL] at h
  | cons c b =>
    simp only [escL] at h
    split at h
    · injection h with _ h; injection h with h _; subst h; rename_i hc; revert hc; decide
    · injection h with h _; subst h; rename_i hc; revert hc; decide) (fun l _ _ => .inr (by simp))
theorem no_qq : NoTxt [34, 92, 34] := no_of (fun n d _ => no_num (c := 34) (by simp) (by decide) n d) (by decide) (by decide) (fun b h => by
  have h := esc_of (s := [92]) h
  cases b with
  | nil => simp [escL] at h
  | cons c b =>
    simp only [escL] at h
    split at h
    · simp at h
    · injection h with h _; subst h; rename_i hc; revert hc; decide) (fun l _ _ => .inr (by simp))
theorem no_l12 : NoTxt [91, 49, 44, 50, 93] := no_of (fun n d _ => no_num (c := 91) (by simp) (by decide) n d) (by decide) (by decide) (fun b => by simp [quoL]) (fun l hl _ => .inl fun h => by
  obtain ⟨m, hm, e⟩ := bod_num hl h (by decide)
  rw [show ([49, 44, 50, 93] : By).dropWhile (fun c => decide (numc c)) = [44, 50, 93] by decide +kernel] at e
  cases m with
  | nil => rw [tlL_nil] at e; simp at e
  | cons y m => rw [tlL_cons] at e; simp at e)
theorem no_l1c : NoTxt [91, 49, 44, 32, 93] := no_of (fun n d _ => no_num (c := 91) (by simp) (by decide) n d) (by decide) (by decide) (fun b => by simp [quoL]) (fun l hl _ => .inl fun h => by
  obtain ⟨m, hm, e⟩ := bod_num hl h (by decide)
  rw [show ([49, 44, 32, 93] : By).dropWhile (fun c => decide (numc c)) = [44, 32, 93] by decide +kernel] at e
  cases m with
  | nil => rw [tlL_nil] at e; simp at e
  | cons y m =>
    rw [tlL_cons] at e
    injection e with _ e; injection e with _ e
    have := txt_head5 (hm y (by simp)) e
    revert this; decide)
theorem no_lsp : NoTxt [91, 32, 93] := no_of (fun n d _ => no_num (c := 91) (by simp) (by decide) n d) (by decide) (by decide) (fun b => by simp [quoL]) (fun l hl _ => .inl fun h => by
  cases l with
  | nil => rw [bod_nil] at h; simp at h
  | cons y m =>
    rw [bod_cons] at h
    have := txt_head5 (hl y (by simp)) h
    revert this; decide)
theorem no_l1 : NoTxt [91, 49] := no_of (fun n d _ => no_num (c := 91) (by simp) (by decide) n d) (by decide) (by decide) (fun b => by simp [quoL]) (fun l hl _ => .inl fun h => by
  obtain ⟨m, hm, e⟩ := bod_num hl h (by decide)
  rw [show ([49] : By).dropWhile (fun c => decide (numc c)) = [] by decide +kernel] at e
  cases m with
  | nil => rw [tlL_nil] at e; simp at e
  | cons y m => rw [tlL_cons] at e; simp at e)
theorem deep_br : ∀ (n m : Nat) (u : V) (r : By), fineB u = true → txt u ++ r = List.replicate (n + 1) 91 ++ List.replicate m 93 → n + 1 ≤ deep u := by
  intro n
  induction n with
  | zero => intro m u r h he; rw [deep_eq]; omega
  | succ n ih =>
    intro m u r h he
    rw [List.replicate_succ, List.cons_append] at he
    obtain ⟨l, hl, rfl, e⟩ := txt_lst h he
    cases l with
    | nil => rw [bod_nil, List.replicate_succ] at e; simp at e
    | cons x l =>
      rw [bod_cons, List.append_assoc] at e
      have := ih m x _ (hl x (by simp)) e
      have e2 : deep (lstV (x :: l)) = 1 + max (deep x) (deepL l) := by unfold lstV; rw [deep_eq]; simp [deepL]
      rw [e2]; omega
theorem no_seven : NoTxt [91, 91, 91, 91, 91, 91, 91, 93, 93, 93, 93, 93, 93, 93] := fun u hu he => by
  have := deep_br 6 7 u [] (vchk_zero.1 hu).2.2 (by rw [he]; rfl)
  have := (vchk_zero.1 hu).2.1
  omega
end Go.Proofs.YtakjgjhjndiggaaGreatDoor
namespace Go.Proofs.YtakjgjhjndiggaaGreatDoor
open Go.RowKit Go.Shelf
open VM
set_option linter.unusedVariables false
set_option linter.unusedSimpArgs false

set_option maxHeartbeats 1000000 in
theorem refused_any (s : ByteArray) (hn : NoTxt (lA s)) (w : World) (ht : Tab w) (hl : Len w) :
    Calls Tryz.prog 9 #[.string s] w fun e w' => e = .returned (.bool true) ∧ Below w.heap.size w w' := by
  have HT := Lib.hid ht
  have HL := Lib.hid hl
  have KP := Lib.hid (fun w1 ht hl => vparse_any idx_ok s w1 ht hl)
  have HP : Hid (∀ x c, PaOk (lA s) x c → x = zerV ∧ c = 12) := Lib.hid fun x c h => no_zer h hn
  clear ht hl hn
  go_enter Tryz.func9, Tryz.ntmps9
  go_wp2_with fail
  refine (KP.out _ HT.out HL.out).mono ?_
  rintro e w1 ⟨x, slx, c, rfl, hx, hpx, hsx, hb1⟩
  obtain ⟨rfl, rfl⟩ := HP.out _ _ hpx
  have e1 : zerV.list = [] := rfl
  have e2 : zerV.nd = ⟨0, 0, 0, false, ⟨#[]⟩⟩ := rfl
  rw [e1] at hx
  rw [e2]
  dsimp only
  obtain ⟨px, capx, rfl⟩ := hx.slice
  obtain ⟨W1, hW1⟩ : ∃ W, W = w1.alloc (.cells #[.int .u8 0, .int .i64 0, .int .i64 0, .bool false, .string ⟨#[]⟩, .slice px 0 capx] 28) := ⟨_, rfl⟩
  have hbw : Below w1.heap.size w1 W1 := by rw [hW1]; exact (Below.refl _ _).alloc (Nat.le_refl _) _
  have B1 := Lib.hid (hb1.trans (hbw.mono hb1.size))
  have Sx : Hid (Six W1 w1.heap.size ⟨0, 0, 0, false, ⟨#[]⟩⟩ (.slice px 0 capx)) := Lib.hid (by rw [hW1]; exact Six.new w1 ⟨0, 0, 0, false, ⟨#[]⟩⟩ (.slice px 0 capx))
  clear hx hpx hsx hb1 hbw e1 e2
  have l1 := Sx.out.lt
  have q0 := Sx.out.row.c0
  rw [hW1] at l1 q0
  dsimp only [List.length_nil]
  go_wp2_with fail
  rw [← hW1]
  go_ret
  exact ⟨rfl, B1.out⟩
end Go.Proofs.YtakjgjhjndiggaaGreatDoor
namespace Go.Proofs.YtakjgjhjndiggaaGreatDoor
open Go.RowKit Go.Shelf
open VM
set_option linter.unusedVariables false
set_option linter.unusedSimpArgs false

/-- Lists in each other. -/
def nstL : Nat → List V
  | 0 => []
  | k + 1 => [.mk ⟨4, 0, 0, false, ⟨#[]⟩⟩ (nstL k)]
theorem rep_oneQ {Q : Nat → Prop} {w : World} {a : Nd} {l : List V} {sl : Value} {ty : TypeId} (hQ : Q w.heap.size) (h0 : RepL Q w l sl) : RepL Q (w.alloc (.cells #[.int .u8 a.k, .int .i64 a.n, .int .i64 a.d, .bool a.t, .string a.s, sl] ty)) [.mk a l] (.slice (some ⟨w.heap.size, 0, none⟩) 1 1) := by
  have hb : Below w.heap.size w (w.alloc (.cells #[.int .u8 a.k, .int .i64 a.n, .int .i64 a.d, .bool a.t, .string a.s, sl] ty)) := (Below.refl _ _).alloc (Nat.le_refl _) _
  refine .mk (some ⟨w.heap.size, 0, none⟩) 1 [.mk a l] (fun _ => sl) (fun _ => ⟨w.heap.size, 0, rfl, hQ, not_frozen _ _ _, fun i hi => ?_⟩) (fun i hi => ?_)
  · have hc : i = 0 := by simp at hi; omega
    subst hc
    exact row_at w _ _ 0 a sl rfl rfl rfl rfl rfl rfl
  · have hc : i = 0 := by simp at hi; omega
    subst hc
    exact h0.later hb
theorem nstL_len (k : Nat) : (nstL (k + 1)).length = 1 := rfl
set_option maxHeartbeats 2000000 in
theorem nested_any (n : Nat) (h1 : n ≤ 100) (w : World) :
    Calls Tryz.prog 12 #[.int .i64 ((n + 1 : Nat) : Int)] w fun e w' => (∃ sl, e = .returned (.agg #[.int .u8 4, .int .i64 0, .int .i64 0, .bool false, .string ⟨#[]⟩, sl]) ∧ RepL Any w' (nstL n) sl) ∧ Below w.heap.size w w' := by
  go_enter Tryz.func12, Tryz.ntmps12
  go_wp2_with fail
  refine (list_law _ _ _ _).mono ?_
  rintro e w1 ⟨rfl, hb⟩
  have B1 := Lib.hid hb
  have S0 := Lib.hid ((Six.new w ⟨0, 0, 0, false, ⟨#[]⟩⟩ (.slice none 0 0)).later hb)
  clear hb
  have l1 := S0.out.lt
  obtain ⟨W1, hW1⟩ : ∃ W, W = w1.alloc (.cells #[.int .u8 4, .int .i64 0, .int .i64 0, .bool false, .string ⟨#[]⟩, .slice none 0 0] 28) := ⟨_, rfl⟩
  have hbw : Below w1.heap.size w1 W1 := by rw [hW1]; exact (Below.refl _ _).alloc (Nat.le_refl _) _
  have X1 : Hid (Six W1 w1.heap.size ⟨4, 0, 0, false, ⟨#[]⟩⟩ (.slice none 0 0)) := Lib.hid (by rw [hW1]; exact Six.new w1 ⟨4, 0, 0, false, ⟨#[]⟩⟩ (.slice none 0 0))
  have S1 := Lib.hid (S0.out.later hbw)
  have HB1 : Hid (Below w.heap.size w W1) := Lib.hid ((((Below.refl _ _).alloc (Nat.le_refl _) _).trans (B1.out.mono (by simp))).trans (hbw.mono (by omega)))
  clear hbw B1
  go_wp2_with fail
  rw [← hW1]
  clear hW1 S0
  generalize w1.heap.size = g at *
  have hg := Lib.hid l1
  go_loopw [4] (fun i wr => ∃ (j : Nat) (sl : Value), j ≤ n ∧ i = .int .i64 ((j + 1 : Nat) : Int) ∧ Six wr g ⟨4, 0, 0, false, ⟨#[]⟩⟩ sl ∧ RepL (g < ·) wr (nstL j) sl ∧ Six wr w.heap.size ⟨0, 0, 0, false, ⟨#[]⟩⟩ (.slice none 0 0) ∧ Below w.heap.size w wr) (fun i _ => n + 1 - (intOf i).toNat)
  case atStart => exact ⟨0, _, Nat.zero_le _, rfl, X1.out, RepL.nil _ _ _ _, S1.out, HB1.out⟩
  case round =>
    obtain ⟨j, sl, hj, rfl, hX, hR, hS, hB⟩ := hrel
    obtain ⟨p, cap, rfl⟩ := hR.slice
    obtain ⟨m, hm⟩ : ∃ m, m = (nstL j).length := ⟨_, rfl⟩
    rw [← hm] at hX hR
    clear hm
    have HX := Lib.hid hX
    have HR := Lib.hid hR
    have HS := Lib.hid hS
    have HB := Lib.hid hB
    clear hX hR hS hB
    have x0 := HX.out.row.c0
    have x1 := HX.out.row.c1
    have x2 := HX.out.row.c2
    have x3 := HX.out.row.c3
    have x4 := HX.out.row.c4
    have x5 := HX.out.row.c5
    have lx := HX.out.lt
    simp only [Nat.zero_add] at x1 x2 x3 x4 x5
    by_cases hlt : j < n
    · have i1 : ((j + 1 : Nat) : Int) < ((n + 1 : Nat) : Int) := by omega
      have hb : Below wr.heap.size wr (wr.alloc (.cells #[.int .u8 4, .int .i64 0, .int .i64 0, .bool false, .string ⟨#[]⟩, .slice p m cap] 28)) := (Below.refl _ _).alloc (Nat.le_refl _) _
      have HR1 : Hid (RepL (g < ·) (wr.alloc (.cells #[.int .u8 4, .int .i64 0, .int .i64 0, .bool false, .string ⟨#[]⟩, .slice p m cap] 28)) (nstL (j + 1)) (.slice (some ⟨wr.heap.size, 0, none⟩) 1 1)) := Lib.hid (rep_oneQ (a := ⟨4, 0, 0, false, ⟨#[]⟩⟩) (HX.out.lt) HR.out)
      have HA := Lib.hid hb
      clear hb
      go_wp2_with fail
      refine (list_law _ _ _ _).mono ?_
      rintro e w2 ⟨rfl, hb2⟩
      have S2 := Lib.hid ((HS.out.later HA.out).later hb2)
      have X2 := Lib.hid ((HX.out.later HA.out).later hb2)
      have R2 := Lib.hid (HR1.out.later hb2)
      have B2 := Lib.hid (HB.out.trans ((HA.out.trans (hb2.mono HA.out.size)).mono HB.out.size))
      clear hb2 x0 x1 x2 x3 x4 x5 lx
      have x0 := X2.out.row.c0
      have x1 := X2.out.row.c1
      have x2 := X2.out.row.c2
      have x3 := X2.out.row.c3
      have x4 := X2.out.row.c4
      have x5 := X2.out.row.c5
      have f0 := X2.out.free 0
      have f1 := X2.out.free 1
      have f2 := X2.out.free 2
      have f3 := X2.out.free 3
      have f4 := X2.out.free 4
      have f5 := X2.out.free 5
      have lx := X2.out.lt
      simp only [Nat.zero_add] at x1 x2 x3 x4 x5
      generalize wr.heap.size = g2 at *
      go_wp2_with fail
      have H6 := sixSet_six X2.out ⟨4, 0, 0, false, ⟨#[]⟩⟩ (.slice (some ⟨g2, 0, none⟩) 1 1)
      have HBw := sixSet_below (a := ⟨4, 0, 0, false, ⟨#[]⟩⟩) (sl := .slice (some ⟨g2, 0, none⟩) 1 1) B2.out (Nat.le_of_lt hg.out)
      have HC : RepL (g < ·) (sixSet w2 g ⟨4, 0, 0, false, ⟨#[]⟩⟩ (.slice (some ⟨g2, 0, none⟩) 1 1)) (nstL (j + 1)) (.slice (some ⟨g2, 0, none⟩) 1 1) := R2.out.carry fun b hb hq => ⟨hq, sixSet_heap _ _ (by omega)⟩
      have HZ : Six (sixSet w2 g ⟨4, 0, 0, false, ⟨#[]⟩⟩ (.slice (some ⟨g2, 0, none⟩) 1 1)) w.heap.size ⟨0, 0, 0, false, ⟨#[]⟩⟩ (.slice none 0 0) := (sixSet_heap ⟨4, 0, 0, false, ⟨#[]⟩⟩ (.slice (some ⟨g2, 0, none⟩) 1 1) (show w.heap.size ≠ g from by have := hg.out; omega)).trans S2.out
      unfold sixSet at H6 HBw HC HZ
      go_roundw
      case rel => exact ⟨j + 1, _, by omega, by go_num, H6, HC, HZ, HBw⟩
      case measure => simp [intOf]; omega
    · obtain rfl : j = n := by omega
      have z0 := HS.out.row.c0
      have z1 := HS.out.row.c1
      have z2 := HS.out.row.c2
      have z3 := HS.out.row.c3
      have z4 := HS.out.row.c4
      have z5 := HS.out.row.c5
      have f0 := HS.out.free 0
      have f1 := HS.out.free 1
      have f2 := HS.out.free 2
      have f3 := HS.out.free 3
      have f4 := HS.out.free 4
      have f5 := HS.out.free 5
      have lz := HS.out.lt
      simp only [Nat.zero_add] at z1 z2 z3 z4 z5
      go_wp2_with fail
      have H6 := sixSet_six HS.out ⟨4, 0, 0, false, ⟨#[]⟩⟩ (.slice p m cap)
      have HBw := sixSet_below (a := ⟨4, 0, 0, false, ⟨#[]⟩⟩) (sl := .slice p m cap) HB.out (Nat.le_refl _)
      have HC : RepL Any (sixSet wr w.heap.size ⟨4, 0, 0, false, ⟨#[]⟩⟩ (.slice p m cap)) (nstL j) (.slice p m cap) := HR.out.carry fun b hb hq => ⟨trivial, sixSet_heap _ _ (by have := hg.out; omega)⟩
      unfold sixSet at H6 HBw HC
      have e0 := H6.row.c0
      have e1 := H6.row.c1
      have e2 := H6.row.c2
      have e3 := H6.row.c3
      have e4 := H6.row.c4
      have e5 := H6.row.c5
      simp only [Nat.zero_add] at e1 e2 e3 e4 e5
      change bodyPost Tryz.prog Tryz.f12 _ _ _ _
      exact bodyPost_ret (v := .agg #[.int .u8 4, .int .i64 0, .int .i64 0, .bool false, .string ⟨#[]⟩, .slice p m cap]) (by simp [results, Tryz.results12, go_sem, z0, z1, z2, z3, z4, z5, lz, e0, e1, e2, e3, e4, e5] <;> rfl) rfl ⟨⟨_, rfl, HC⟩, HBw⟩
end Go.Proofs.YtakjgjhjndiggaaGreatDoor
namespace Go.Proofs.YtakjgjhjndiggaaGreatDoor
open Go.RowKit Go.Shelf
open VM
set_option linter.unusedVariables false
set_option linter.unusedSimpArgs false

/-- How long a value is, or why it has no length. -/
def lenC (v : V) : Int × Int := if vchk v ≠ 0 then (0, vchk v) else if v.nd.k = 3 then ((v.nd.s.size : Int), 0) else if v.nd.k = 4 then ((v.list.length : Int), 0) else (0, 20)
set_option maxHeartbeats 2000000 in
theorem vlen_any (a : Nd) (l : List V) (p : Option Addr) (cap : Nat) (w : World) (hs : Small (.mk a l)) (hr : RepL (· < w.heap.size) w l (.slice p l.length cap)) :
    Calls Tryz.prog 18 #[.agg #[.int .u8 a.k, .int .i64 a.n, .int .i64 a.d, .bool a.t, .string a.s, .slice p l.length cap]] w fun e w' => e = .returned (.tuple #[.int .i64 (lenC (.mk a l)).1, .int .i64 (lenC (.mk a l)).2]) ∧ Below w.heap.size w w' := by
  have hb0 : Below w.heap.size w (w.alloc (.cells #[.int .u8 a.k, .int .i64 a.n, .int .i64 a.d, .bool a.t, .string a.s, .slice p l.length cap] 28)) := (Below.refl _ _).alloc (Nat.le_refl _) _
  have S0 := Lib.hid (Six.new w a (.slice p l.length cap))
  have KC := Lib.hid (vcheck_any a l p cap _ hs (hr.later hb0).bound)
  have B0 := Lib.hid hb0
  clear hb0 hr hs
  have HC : Hid (lenC (.mk a l) = if vchk (.mk a l) ≠ 0 then (0, vchk (.mk a l)) else if a.k = 3 then ((a.s.size : Int), 0) else if a.k = 4 then ((l.length : Int), 0) else (0, 20)) := Lib.hid rfl
  generalize vchk (.mk a l) = C at KC HC
  generalize lenC (.mk a l) = L at HC ⊢
  have q0 := S0.out.row.c0
  have q1 := S0.out.row.c1
  have q2 := S0.out.row.c2
  have q3 := S0.out.row.c3
  have q4 := S0.out.row.c4
  have q5 := S0.out.row.c5
  have l1 := S0.out.lt
  simp only [Nat.zero_add] at q1 q2 q3 q4 q5
  go_enter Tryz.func18, Tryz.ntmps18
  go_wp2_with fail
  refine KC.out.mono ?_
  rintro e w1 ⟨rfl, hb⟩
  have S1 := Lib.hid (S0.out.later hb)
  have B1 := Lib.hid (B0.out.trans (hb.mono B0.out.size))
  clear hb KC q0 q1 q2 q3 q4 q5 l1
  have q0 := S1.out.row.c0
  have q1 := S1.out.row.c1
  have q2 := S1.out.row.c2
  have q3 := S1.out.row.c3
  have q4 := S1.out.row.c4
  have q5 := S1.out.row.c5
  have l1 := S1.out.lt
  simp only [Nat.zero_add] at q1 q2 q3 q4 q5
  by_cases hc : C = 0
  · subst hc
    by_cases h3 : a.k = 3
    · have z : ((a.k : Int) == 3) = true := by rw [h3]; rfl
      have hL : L = ((a.s.size : Int), 0) := by rw [HC.out, if_neg (by simp), if_pos h3]
      subst hL
      clear HC
      go_wp2_with fail
      exact bodyPost_ret (v := .tuple #[.int .i64 a.s.size, .int .i64 0]) (by simp [results, Tryz.results18, go_sem] <;> rfl) rfl ⟨rfl, B1.out⟩
    · have z : ((a.k : Int) == 3) = false := by rw [beq_eq_false_iff_ne]; exact h3
      by_cases h4 : a.k = 4
      · have z2 : ((a.k : Int) == 4) = true := by rw [h4]; rfl
        have hL : L = ((l.length : Int), 0) := by rw [HC.out, if_neg (by simp), if_neg h3, if_pos h4]
        subst hL
        clear HC
        go_wp2_with fail
        exact bodyPost_ret (v := .tuple #[.int .i64 l.length, .int .i64 0]) (by simp [results, Tryz.results18, go_sem] <;> rfl) rfl ⟨rfl, B1.out⟩
      · have z2 : ((a.k : Int) == 4) = false := by rw [beq_eq_false_iff_ne]; exact h4
        have hL : L = (0, 20) := by rw [HC.out, if_neg (by simp), if_neg h3, if_neg h4]
        subst hL
        clear HC
        go_wp2_with fail
        exact bodyPost_ret (v := .tuple #[.int .i64 0, .int .i64 20]) (by simp [results, Tryz.results18, go_sem] <;> rfl) rfl ⟨rfl, B1.out⟩
  · have z : (C != 0) = true := bne_iff_ne.2 hc
    have hL : L = (0, C) := by rw [HC.out, if_pos hc]
    subst hL
    clear HC
    go_wp2_with fail
    exact bodyPost_ret (v := .tuple #[.int .i64 0, .int .i64 C]) (by simp [results, Tryz.results18, go_sem] <;> rfl) rfl ⟨rfl, B1.out⟩
set_option maxHeartbeats 2000000 in
set_option maxRecDepth 100000 in
theorem at_err (a : Nd) (l : List V) (p : Option Addr) (cap : Nat) (i n c d : Int) (w : World) (hL : lenC (.mk a l) = (n, c)) (hc : (c != 0) = true ∧ d = c ∨ (c = 0 ∧ d = 2 ∧ (i < 0 ∨ n ≤ i))) (hs : Small (.mk a l)) (hr : RepL (· < w.heap.size) w l (.slice p l.length cap)) :
    Calls Tryz.prog 17 #[.agg #[.int .u8 a.k, .int .i64 a.n, .int .i64 a.d, .bool a.t, .string a.s, .slice p l.length cap], .int .i64 i] w fun e w' => e = .returned (.tuple #[.agg #[.int .u8 0, .int .i64 0, .int .i64 0, .bool false, .string ⟨#[]⟩, .slice none 0 0], .int .i64 d]) ∧ Below w.heap.size w w' := by
  have hb0 : Below w.heap.size w ((w.alloc (.cells #[.int .u8 a.k, .int .i64 a.n, .int .i64 a.d, .bool a.t, .string a.s, .slice p l.length cap] 28)).alloc (.cells #[.int .u8 0, .int .i64 0, .int .i64 0, .bool false, .string ⟨#[]⟩, .slice none 0 0] 28)) := ((Below.refl _ _).alloc (Nat.le_refl _) _).alloc (by simp) _
  have S0 := Lib.hid ((Six.new w a (.slice p l.length cap)).later ((Below.refl _ _).alloc (Nat.le_refl _) (.cells #[.int .u8 0, .int .i64 0, .int .i64 0, .bool false, .string ⟨#[]⟩, .slice none 0 0] 28)))
  have Z0 : Hid (Six ((w.alloc (.cells #[.int .u8 a.k, .int .i64 a.n, .int .i64 a.d, .bool a.t, .string a.s, .slice p l.length cap] 28)).alloc (.cells #[.int .u8 0, .int .i64 0, .int .i64 0, .bool false, .string ⟨#[]⟩, .slice none 0 0] 28)) (w.heap.size + 1) ⟨0, 0, 0, false, ⟨#[]⟩⟩ (.slice none 0 0)) := Lib.hid (by
    have := Six.new (w.alloc (.cells #[.int .u8 a.k, .int .i64 a.n, .int .i64 a.d, .bool a.t, .string a.s, .slice p l.length cap] 28)) ⟨0, 0, 0, false, ⟨#[]⟩⟩ (.slice none 0 0)
    rwa [World.size_alloc] at this)
  have KL := Lib.hid (vlen_any a l p cap _ hs (hr.later hb0).bound)
  have B0 := Lib.hid hb0
  clear hb0 hr hs
  rw [hL] at KL
  have q0 := S0.out.row.c0
  have q1 := S0.out.row.c1
  have q2 := S0.out.row.c2
  have q3 := S0.out.row.c3
  have q4 := S0.out.row.c4
  have q5 := S0.out.row.c5
  have l1 := S0.out.lt
  simp only [Nat.zero_add] at q1 q2 q3 q4 q5
  go_enter Tryz.func17, Tryz.ntmps17
  go_wp2_with fail
  refine KL.out.mono ?_
  rintro e w1 ⟨rfl, hb⟩
  have S1 := Lib.hid (S0.out.later hb)
  have S2 := Lib.hid (Z0.out.later hb)
  have B1 := Lib.hid (B0.out.trans (hb.mono B0.out.size))
  clear hb KL q0 q1 q2 q3 q4 q5 l1
  have q0 := S1.out.row.c0
  have q1 := S1.out.row.c1
  have q2 := S1.out.row.c2
  have q3 := S1.out.row.c3
  have q4 := S1.out.row.c4
  have q5 := S1.out.row.c5
  have l1 := S1.out.lt
  simp only [Nat.zero_add] at q1 q2 q3 q4 q5
  have h0 := S2.out.row.c0
  have h1 := S2.out.row.c1
  have h2 := S2.out.row.c2
  have h3 := S2.out.row.c3
  have h4 := S2.out.row.c4
  have h5 := S2.out.row.c5
  have l3 := S2.out.lt
  simp only [Nat.zero_add] at h1 h2 h3 h4 h5
  have f0 := S2.out.free 0
  have f1 := S2.out.free 1
  have f2 := S2.out.free 2
  have f3 := S2.out.free 3
  have f4 := S2.out.free 4
  have f5 := S2.out.free 5
  rcases hc with ⟨hc, rfl⟩ | ⟨rfl, rfl, hi⟩
  · go_wp2_with fail
    have H6 := sixSet_six S2.out ⟨0, 0, 0, false, ⟨#[]⟩⟩ (.slice none 0 0)
    have HBw := sixSet_below (a := ⟨0, 0, 0, false, ⟨#[]⟩⟩) (sl := (.slice none 0 0)) B1.out (by omega : w.heap.size ≤ w.heap.size + 1)
    unfold sixSet at H6 HBw
    have e0 := H6.row.c0
    have e1 := H6.row.c1
    have e2 := H6.row.c2
    have e3 := H6.row.c3
    have e4 := H6.row.c4
    have e5 := H6.row.c5
    simp only [Nat.zero_add] at e1 e2 e3 e4 e5
    exact bodyPost_ret (v := .tuple #[.agg #[.int .u8 0, .int .i64 0, .int .i64 0, .bool false, .string ⟨#[]⟩, .slice none 0 0], .int .i64 d]) (by simp [results, Tryz.results17, go_sem, h0, h1, h2, h3, h4, h5, l3, e0, e1, e2, e3, e4, e5] <;> rfl) rfl ⟨rfl, HBw⟩
  · by_cases h0 : i < 0
    · go_wp2_with fail
      have H6 := sixSet_six S2.out ⟨0, 0, 0, false, ⟨#[]⟩⟩ (.slice none 0 0)
      have HBw := sixSet_below (a := ⟨0, 0, 0, false, ⟨#[]⟩⟩) (sl := (.slice none 0 0)) B1.out (by omega : w.heap.size ≤ w.heap.size + 1)
      unfold sixSet at H6 HBw
      have e0 := H6.row.c0
      have e1 := H6.row.c1
      have e2 := H6.row.c2
      have e3 := H6.row.c3
      have e4 := H6.row.c4
      have e5 := H6.row.c5
      simp only [Nat.zero_add] at e1 e2 e3 e4 e5
      exact bodyPost_ret (v := .tuple #[.agg #[.int .u8 0, .int .i64 0, .int .i64 0, .bool false, .string ⟨#[]⟩, .slice none 0 0], .int .i64 2]) (by simp [results, Tryz.results17, go_sem, h0, h1, h2, h3, h4, h5, l3, e0, e1, e2, e3, e4, e5] <;> rfl) rfl ⟨rfl, HBw⟩
    · have h1 : n ≤ i := by omega
      go_wp2_with fail
      have H6 := sixSet_six S2.out ⟨0, 0, 0, false, ⟨#[]⟩⟩ (.slice none 0 0)
      have HBw := sixSet_below (a := ⟨0, 0, 0, false, ⟨#[]⟩⟩) (sl := (.slice none 0 0)) B1.out (by omega : w.heap.size ≤ w.heap.size + 1)
      unfold sixSet at H6 HBw
      have e0 := H6.row.c0
      have e1 := H6.row.c1
      have e2 := H6.row.c2
      have e3 := H6.row.c3
      have e4 := H6.row.c4
      have e5 := H6.row.c5
      simp only [Nat.zero_add] at e1 e2 e3 e4 e5
      exact bodyPost_ret (v := .tuple #[.agg #[.int .u8 0, .int .i64 0, .int .i64 0, .bool false, .string ⟨#[]⟩, .slice none 0 0], .int .i64 2]) (by simp [results, Tryz.results17, go_sem, h0, h1, h2, h3, h4, h5, l3, e0, e1, e2, e3, e4, e5] <;> rfl) rfl ⟨rfl, HBw⟩
theorem small_abc : Small (.mk ⟨3, 0, 0, false, ⟨#[97, 98, 99]⟩⟩ []) := ⟨.mk _ _ (nd_wf (by decide) (by decide) (by decide) (by decide) (by decide) (by decide) (by decide)) (by simp) (by simp), by rw [hgt_eq]; simp [hgtL]⟩
set_option maxHeartbeats 2000000 in
set_option maxRecDepth 100000 in
theorem at_abc (w : World) :
    Calls Tryz.prog 17 #[.agg #[.int .u8 3, .int .i64 0, .int .i64 0, .bool false, .string ⟨#[97, 98, 99]⟩, .slice none 0 0], .int .i64 2] w fun e w' => e = .returned (.tuple #[.agg #[.int .u8 3, .int .i64 0, .int .i64 0, .bool false, .string ⟨#[99]⟩, .slice none 0 0], .int .i64 0]) ∧ Below w.heap.size w w' := by
  have KT := Lib.hid (fun w1 => twin_any ⟨3, 0, 0, false, ⟨#[99]⟩⟩ (by decide) w1)
  dsimp only at KT
  have hb0 : Below w.heap.size w ((w.alloc (.cells #[.int .u8 3, .int .i64 0, .int .i64 0, .bool false, .string ⟨#[97, 98, 99]⟩, .slice none 0 0] 28)).alloc (.cells #[.int .u8 0, .int .i64 0, .int .i64 0, .bool false, .string ⟨#[]⟩, .slice none 0 0] 28)) := ((Below.refl _ _).alloc (Nat.le_refl _) _).alloc (by simp) _
  have S0 : Hid (Six ((w.alloc (.cells #[.int .u8 3, .int .i64 0, .int .i64 0, .bool false, .string ⟨#[97, 98, 99]⟩, .slice none 0 0] 28)).alloc (.cells #[.int .u8 0, .int .i64 0, .int .i64 0, .bool false, .string ⟨#[]⟩, .slice none 0 0] 28)) w.heap.size ⟨3, 0, 0, false, ⟨#[97, 98, 99]⟩⟩ (.slice none 0 0)) := Lib.hid ((Six.new w ⟨3, 0, 0, false, ⟨#[97, 98, 99]⟩⟩ (.slice none 0 0)).later ((Below.refl _ _).alloc (Nat.le_refl _) (.cells #[.int .u8 0, .int .i64 0, .int .i64 0, .bool false, .string ⟨#[]⟩, .slice none 0 0] 28)))
  have Z0 : Hid (Six ((w.alloc (.cells #[.int .u8 3, .int .i64 0, .int .i64 0, .bool false, .string ⟨#[97, 98, 99]⟩, .slice none 0 0] 28)).alloc (.cells #[.int .u8 0, .int .i64 0, .int .i64 0, .bool false, .string ⟨#[]⟩, .slice none 0 0] 28)) (w.heap.size + 1) ⟨0, 0, 0, false, ⟨#[]⟩⟩ (.slice none 0 0)) := Lib.hid (by
    have := Six.new (w.alloc (.cells #[.int .u8 3, .int .i64 0, .int .i64 0, .bool false, .string ⟨#[97, 98, 99]⟩, .slice none 0 0] 28)) ⟨0, 0, 0, false, ⟨#[]⟩⟩ (.slice none 0 0)
    rwa [World.size_alloc] at this)
  have KL := Lib.hid (fun w1 => vlen_any ⟨3, 0, 0, false, ⟨#[97, 98, 99]⟩⟩ [] none 0 w1 small_abc (RepL.nil _ _ _ _))
  rw [show lenC (.mk ⟨3, 0, 0, false, ⟨#[97, 98, 99]⟩⟩ []) = (3, 0) by decide +kernel] at KL
  dsimp only [List.length_nil] at KL
  have B0 := Lib.hid hb0
  clear hb0
  have q0 := S0.out.row.c0
  have q1 := S0.out.row.c1
  have q2 := S0.out.row.c2
  have q3 := S0.out.row.c3
  have q4 := S0.out.row.c4
  have q5 := S0.out.row.c5
  have l1 := S0.out.lt
  simp only [Nat.zero_add] at q1 q2 q3 q4 q5
  dsimp only at q0 q1 q2 q3 q4
  go_enter Tryz.func17, Tryz.ntmps17
  go_wp2_with fail
  refine (KL.out _).mono ?_
  rintro e w1 ⟨rfl, hb⟩
  have S1 := Lib.hid (S0.out.later hb)
  have S2 := Lib.hid (Z0.out.later hb)
  have B1 := Lib.hid (B0.out.trans (hb.mono B0.out.size))
  clear hb KL q0 q1 q2 q3 q4 q5 l1
  have q0 := S1.out.row.c0
  have q1 := S1.out.row.c1
  have q2 := S1.out.row.c2
  have q3 := S1.out.row.c3
  have q4 := S1.out.row.c4
  have q5 := S1.out.row.c5
  have l1 := S1.out.lt
  simp only [Nat.zero_add] at q1 q2 q3 q4 q5
  dsimp only at q0 q1 q2 q3 q4
  go_wp2_with fail
  rw [show ((⟨#[97, 98, 99]⟩ : ByteArray).extract 2 3) = ⟨#[99]⟩ by decide +kernel]
  refine (KT.out _).mono ?_
  rintro e w2 ⟨rfl, hb⟩
  have S3 := Lib.hid (S2.out.later hb)
  have B2 := Lib.hid (B1.out.trans (hb.mono B1.out.size))
  clear hb KT q0 q1 q2 q3 q4 q5 l1
  have h0 := S3.out.row.c0
  have h1 := S3.out.row.c1
  have h2 := S3.out.row.c2
  have h3 := S3.out.row.c3
  have h4 := S3.out.row.c4
  have h5 := S3.out.row.c5
  have l3 := S3.out.lt
  simp only [Nat.zero_add] at h1 h2 h3 h4 h5
  have f0 := S3.out.free 0
  have f1 := S3.out.free 1
  have f2 := S3.out.free 2
  have f3 := S3.out.free 3
  have f4 := S3.out.free 4
  have f5 := S3.out.free 5
  go_wp2_with fail
  have H6 := sixSet_six S3.out ⟨3, 0, 0, false, ⟨#[99]⟩⟩ (.slice none 0 0)
  have HBw := sixSet_below (a := ⟨3, 0, 0, false, ⟨#[99]⟩⟩) (sl := (.slice none 0 0)) B2.out (by omega : w.heap.size ≤ w.heap.size + 1)
  unfold sixSet at H6 HBw
  have e0 := H6.row.c0
  have e1 := H6.row.c1
  have e2 := H6.row.c2
  have e3 := H6.row.c3
  have e4 := H6.row.c4
  have e5 := H6.row.c5
  simp only [Nat.zero_add] at e1 e2 e3 e4 e5
  exact bodyPost_ret (v := .tuple #[.agg #[.int .u8 3, .int .i64 0, .int .i64 0, .bool false, .string ⟨#[99]⟩, .slice none 0 0], .int .i64 0]) (by simp [results, Tryz.results17, go_sem, h0, h1, h2, h3, h4, h5, l3, e0, e1, e2, e3, e4, e5] <;> rfl) rfl ⟨rfl, HBw⟩
end Go.Proofs.YtakjgjhjndiggaaGreatDoor
