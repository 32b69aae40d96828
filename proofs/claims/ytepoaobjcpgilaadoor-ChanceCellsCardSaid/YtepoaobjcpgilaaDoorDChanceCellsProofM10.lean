/-
  Texts of the proof, merged: DChCheck, DChLawC, DChOpen, DChCard.
-/
import Derived.Test.YtepoaobjcpgilaaDoorDChanceCellsProofM1
import Derived.Test.YtepoaobjcpgilaaDoorDChanceCellsProofM7
import Derived.Test.YtepoaobjcpgilaaDoorDChanceCellsProofM8
import Derived.Test.YtepoaobjcpgilaaDoorDChanceCellsProofM9
import Derived.Test.YtepoaobjcpgilaaDoorDChanceCellsProofM2
import Derived.Test.YtepoaobjcpgilaaDoorDChanceCellsProofM4
import Derived.Laws.OwnMore
import Derived.Test.YtepoaobjcpgilaaDoorDChanceCellsProofM5
import Derived.Test.YtepoaobjcpgilaaDoorDChanceCellsProofM3
import Derived.Test.YtepoaobjcpgilaaDoorCards
import Derived.Test.YtepoaobjcpgilaaDoorTie
import Derived.Test.YtepoaobjcpgilaaDoorRows
import Derived.ProofKit
import Derived.OpenShut
import Derived.ChangeSlices
import Derived.ChangeMaps5
import Derived.Deep.DeepHandedRow
import Derived.Deep.SlicePairs
import Derived.Lib.LaidTab
import Derived.Lib.SmallJoins
import Derived.Stop.LaidErr
import Derived.Stop.Joined
import Derived.JoinedCond
namespace Go.Proofs.YtepoaobjcpgilaaDoor
open Go.RowKit
open WM RM CH
set_option linter.unusedVariables false
set_option linter.unusedSimpArgs false

theorem nilr_no (ad : Addr) (n c : Nat) (w : World) : (binOp .eql 26 (.slice (some ad) n c) (.slice none 0 0)).run Tryd.prog w = .ok (.bool false) w := run_eql_slice_nil w _ _ (some ad) n c Tryd.underlying26
theorem nilr_yes (w : World) : (binOp .eql 26 (.slice none 0 0) (.slice none 0 0)).run Tryd.prog w = .ok (.bool true) w := run_eql_slice_nil w _ _ none 0 0 Tryd.underlying26
/-- Rules whose first weights are struck. -/
def uwk (l : List Rw) (k : Nat) : List Rw := (l.take k).map unw ++ l.drop k
theorem uwk_zero (l : List Rw) : uwk l 0 = l := by simp [uwk]
theorem uwk_all (l : List Rw) : uwk l l.length = l.map unw := by simp [uwk]
theorem uwk_len (l : List Rw) (k : Nat) : (uwk l k).length = l.length := by
  unfold uwk
  rw [List.length_append, List.length_map, List.length_take, List.length_drop]; omega
theorem uwk_get {l : List Rw} {k : Nat} (h : k < l.length) : (uwk l k)[k]'(by rw [uwk_len]; exact h) = l[k] := by
  have : (uwk l k)[k]? = some l[k] := by
    unfold uwk
    rw [List.getElem?_append_right (by rw [List.length_map, List.length_take]; omega), List.length_map, List.length_take, Nat.min_eq_left (Nat.le_of_lt h), List.getElem?_drop]
    simp [h]
  exact (List.getElem?_eq_some_iff.1 this).2
theorem uwk_succ {l : List Rw} {k : Nat} (h : k < l.length) : uwk l (k + 1) = (uwk l k).set k (unw l[k]) := by
  unfold uwk
  rw [List.take_succ_eq_append_getElem h, List.map_append, List.append_assoc]
  have hl : ((l.take k).map unw).length = k := by rw [List.length_map, List.length_take]; omega
  rw [List.set_append_right _ _ (by omega), hl, Nat.sub_self, List.drop_eq_getElem_cons h]
  rfl
theorem RowR.unw {w : World} {xs : List Value} {l : List Rw} (h : RowR w xs l) {k : Nat} (hk : k < l.length) : RowR w (xs.set (k * 7 + 5) (.int .i64 0)) (l.set k (CH.unw l[k])) := by
  have hx := h.len
  refine ⟨by rw [List.length_set, List.length_set]; exact hx, fun i hi => ?_⟩
  have hi2 : i < l.length := by rw [List.length_set] at hi; exact hi
  obtain ⟨h0, h1, h2, h3, h5, ⟨v, h4, f4⟩, ⟨u, h6, f6⟩⟩ := h.cel i hi2
  by_cases e : k = i
  · subst e
    rw [List.getElem_set_self]
    have n : ∀ c, c ≠ 5 → (xs.set (k * 7 + 5) (.int .i64 0))[k * 7 + c]? = xs[k * 7 + c]? := fun c hc => List.getElem?_set_ne (by omega)
    have n0 := n 0 (by omega)
    rw [Nat.add_zero] at n0
    exact ⟨n0.trans h0, (n 1 (by omega)).trans h1, (n 2 (by omega)).trans h2, (n 3 (by omega)).trans h3, by rw [List.getElem?_set_self (by omega)]; rfl, ⟨v, (n 4 (by omega)).trans h4, f4⟩, ⟨u, (n 6 (by omega)).trans h6, f6⟩⟩
  · rw [List.getElem_set_ne e]
    have n : ∀ c, c < 7 → (xs.set (k * 7 + 5) (.int .i64 0))[i * 7 + c]? = xs[i * 7 + c]? := fun c hc => List.getElem?_set_ne (by omega)
    have n0 := n 0 (by omega)
    rw [Nat.add_zero] at n0
    exact ⟨n0.trans h0, (n 1 (by omega)).trans h1, (n 2 (by omega)).trans h2, (n 3 (by omega)).trans h3, (n 5 (by omega)).trans h5, ⟨v, (n 4 (by omega)).trans h4, f4⟩, ⟨u, (n 6 (by omega)).trans h6, f6⟩⟩
theorem info_rew : (Tryd.prog.info? 31).map (fun i => (i.zero, i.size, i.bytes)) = some (some (.agg #[.int .u8 0, .int .i64 0, .int .u8 0, .int .u8 0, .slice none 0 0, .int .i64 0, .slice none 0 0]), 7, 80) := by kernel_rfl
set_option maxRecDepth 100000 in
set_option maxHeartbeats 1600000 in
theorem pclone_any (v : Value) (l : List Rw) (hmax : l.length ≤ 10000) (w : World) (hv : Rws w v l) (hn : NilOr v) :
    Calls Tryd.prog 82 #[v] w fun e w' => ∃ v' xs, e = .returned v' ∧ Below w.heap.size w w' ∧ w'.ownsRow w.heap.size 31 7 v' l.length xs ∧ RowR w xs l := by
  obtain ⟨p, cap, rfl⟩ := hv.slice
  rcases hn with hp | ⟨ad, n, c, hp⟩
  · simp only [Value.slice.injEq] at hp
    obtain ⟨rfl, h0, rfl⟩ := hp
    obtain rfl : l = [] := List.length_eq_zero_iff.1 h0
    have hny := nilr_yes
    clear hv
    go_enter Tryd.func82, Tryd.ntmps82
    go_wp2_with fail
    go_ret
    exact ⟨_, [], rfl, Below.refl _ _, World.ownsRow_nil _ _ _ _, RowR.nil _⟩
  · simp only [Value.slice.injEq] at hp
    obtain ⟨rfl, -, rfl⟩ := hp
    have hnn := nilr_no ad
    obtain ⟨j0, hj, hy0, hy1, hy2⟩ := info_parts info_rew
    have HM : Hid (maxLen = 9223372036854775807) := Lib.hid rfl
    obtain ⟨news, hN, hR⟩ := rws_news hv
    have HN := Lib.hid hN
    have HR := Lib.hid hR
    have O0 : Hid ((w.alloc (.cells #[] 31)).ownsRow w.heap.size 31 7 (.slice (some ⟨w.heap.size, 0, none⟩) 0 0) 0 []) := Lib.hid (World.ownsRow_lit w #[] 0 (Nat.le_refl _) (by omega) (by simp))
    have Q0 : Hid (Below w.heap.size w (w.alloc (.cells #[] 31))) := Lib.hid ((Below.refl _ _).alloc (Nat.le_refl _) _)
    clear hv hN hR
    go_enter Tryd.func82, Tryd.ntmps82
    go_wp2_with (at_builtin; refine wpList_append_own _ rfl (.tmp 5) (.tmp 6) 26 rfl w.heap.size 31 j0 (.agg #[.int .u8 0, .int .i64 0, .int .u8 0, .int .u8 0, .slice none 0 0, .int .i64 0, .slice none 0 0]) 7 80 Tryd.underlying26 hj hy0 hy1 hy2 rfl (by decide) _ _ _ rfl O0.out ad l.length _ news rfl HN.out.len (HR.out _ Q0.out) HN.out.ones (by rw [HM.out]; omega) (by omega) Q0.out.size ?_; intro v' w' ho hg hi)
    have B1 := Lib.hid (Q0.out.grown hg Q0.out.size (fun j e => (owns_lt O0.out j e).1))
    rw [Nat.zero_add, List.nil_append] at ho
    have O1 := Lib.hid ho
    clear ho hg hi
    go_wp2_with fail
    go_ret
    exact ⟨_, news, rfl, B1.out, O1.out, HN.out⟩
/-- Where unweighted's loop stands. -/
structure UwAt (W W1 : World) (l : List Rw) (g cap k : Nat) (xs : List Value) (wr : World) : Prop where
  hi : k ≤ l.length
  below : Below W.heap.size W wr
  row : wr.ownsRow W.heap.size 31 7 (.slice (some ⟨g, 0, none⟩) l.length cap) l.length xs
  rows : RowR W xs (uwk l k)
theorem uwAt_step {W W1 wr : World} {l : List Rw} {g cap k : Nat} {xs : List Value} (h : UwAt W W1 l g cap k xs wr) (hk : k < l.length) : UwAt W W1 l g cap (k + 1) (xs.set (k * 7 + 5) (.int .i64 0)) (wr.setCell ⟨g, k * 7 + 5, none⟩ (.int .i64 0)) := by
  obtain ⟨r3, _⟩ := h.row.stored (k * 7 + 5) (.int .i64 0)
  have hg := owns_lt h.row g rfl
  refine ⟨hk, h.below.setCell hg.1 _, r3, ?_⟩
  have := h.rows.unw (k := k) (by rw [uwk_len]; exact hk)
  rw [uwk_get hk, ← uwk_succ hk] at this
  exact this
set_option maxRecDepth 100000 in
set_option maxHeartbeats 1600000 in
theorem punw_any (v : Value) (l : List Rw) (hmax : l.length ≤ 10000) (w : World) (hv : Rws w v l) (hn : NilOr v) :
    Calls Tryd.prog 52 #[v] w fun e w' => ∃ v', e = .returned v' ∧ Below w.heap.size w w' ∧ Rws w' v' (l.map unw) := by
  have HK := Lib.hid (pclone_any v l hmax w hv hn)
  clear hv hn
  go_enter Tryd.func52, Tryd.ntmps52
  go_wp2_with fail
  refine HK.out.mono ?_
  rintro e w1 ⟨v1, xs, rfl, hb, ho, hr⟩
  rcases nilOr_of_owned ho with rfl | ⟨ad, n, c, rfl⟩
  · have h0 : l.length = 0 := by
      rcases ho.2 with ⟨_, h⟩ | ⟨g, cap, cur, h, _⟩
      · exact h
      · simp at h
    obtain rfl : l = [] := List.length_eq_zero_iff.1 h0
    have HB := Lib.hid hb
    clear hb ho hr HK h0
    go_wp2_with fail
    go_loop [9] (fun i => i = .int .i64 0) (fun _ => 0)
    case atStart => rfl
    case round =>
      subst hrel
      go_wp2_with fail
      go_ret
      exact ⟨_, rfl, HB.out, .none _ _⟩
  · obtain ⟨g, cap, hg⟩ : ∃ g cap, Value.slice (some ad) n c = .slice (some ⟨g, 0, none⟩) l.length cap := by
      rcases ho.2 with ⟨h, _⟩ | ⟨g, cap, cur, h, _⟩
      · simp at h
      · exact ⟨g, cap, h⟩
    rw [hg] at ho ⊢
    have HS0 := Lib.hid (show UwAt w w1 l g cap 0 xs w1 from ⟨Nat.zero_le _, hb, ho, by rw [uwk_zero]; exact hr⟩)
    clear hb ho hr hg HK
    go_wp2_with fail
    go_loopw [9] (fun i wr => ∃ (k : Nat) (us : List Value), i = .int .i64 k ∧ UwAt w w1 l g cap k us wr) (fun i _ => l.length - (intOf i).toNat)
    case atStart => exact ⟨0, xs, rfl, HS0.out⟩
    case round =>
      obtain ⟨k, us, rfl, hS⟩ := hrel
      have n1 := hS.hi
      by_cases hlt : k < l.length
      · have k1 : (k : Int) < (l.length : Int) := by omega
        have q1 := hS.row.cellAt (k * 7 + 5) (by omega)
        have hc := (hS.rows.cel k (by rw [uwk_len]; exact hlt)).2.2.2.2.1
        rw [hc] at q1
        have f1 := hS.row.frozenAt (k * 7 + 5)
        have l1 := (owns_lt hS.row g rfl).2
        have HT := Lib.hid (uwAt_step hS hlt)
        generalize ((uwk l k)[k]'(by rw [uwk_len]; exact hlt)).wt = z at q1
        clear hS hc
        go_wp2_with fail
        go_roundw
        case rel => exact ⟨k + 1, _, by go_num, HT.out⟩
        case measure => simp [intOf]; omega
      · have hk : k = l.length := by omega
        have HB := Lib.hid hS.below
        have hrr := hS.rows
        rw [hk, uwk_all] at hrr
        have HE : Hid (Rws wr (.slice (some ⟨g, 0, none⟩) l.length cap) (l.map unw)) := Lib.hid (rws_row (by rw [List.length_map]; exact hS.row) (hrr.later hS.below))
        have k1 : ¬ (k : Int) < (l.length : Int) := by omega
        clear hS hrr
        go_wp2_with fail
        go_ret
        exact ⟨_, rfl, HB.out, HE.out⟩
theorem wt_no {r : Rw} (h : r.wt < 1 ∨ 1000000 < r.wt) : wtB r = false := by
  unfold wtB
  rcases h with h | h
  · rw [decide_eq_false (by omega : ¬ 1 ≤ r.wt)]; rfl
  · rw [decide_eq_false (by omega : ¬ r.wt ≤ 1000000)]; simp
theorem wt_yes {r : Rw} (h1 : ¬ r.wt < 1) (h2 : ¬ 1000000 < r.wt) : wtB r = true := by
  unfold wtB
  rw [decide_eq_true (by omega), decide_eq_true (by omega)]; rfl
set_option maxRecDepth 100000 in
set_option maxHeartbeats 3200000 in
theorem pwcheck_any (v : Value) (l : List Rw) (hmax : l.length ≤ 10000) (hs : ∀ r ∈ l, RwSm r) (w : World) (hv : Rws w v l) (hn : NilOr v) :
    Calls Tryd.prog 19 #[v] w fun e w' => e = .returned (.int .i64 (wchk l)) ∧ Below w.heap.size w w' := by
  have KU := Lib.hid (punw_any v l hmax w hv hn)
  have KC := Lib.hid (fun v w h => prcheck_any v (l.map unw) (by rw [List.length_map]; omega) (fun r hr => by obtain ⟨x, hx, rfl⟩ := List.mem_map.1 hr; exact hs x hx) w h)
  obtain ⟨p, cap, rfl⟩ := hv.slice
  have HV := Lib.hid hv
  clear hv hn hs
  by_cases h0 : rchk (l.map unw) = 0
  · have H0 := Lib.hid h0
    rw [h0] at KC
    clear h0
    go_enter Tryd.func19, Tryd.ntmps19
    go_wp2_with fail
    refine KU.out.mono ?_
    rintro e w1 ⟨v1, rfl, hb, hr⟩
    have B1 := Lib.hid hb
    have R1 := Lib.hid hr
    clear hb hr
    go_wp2_with fail
    refine (KC.out _ _ R1.out).mono ?_
    rintro e w2 ⟨rfl, hb⟩
    have B2 := Lib.hid (B1.out.trans (hb.mono B1.out.size))
    clear hb R1
    go_wp2_with fail
    go_loopw [14] (fun i wr => ∃ k : Nat, k ≤ l.length ∧ i = .int .i64 k ∧ Below w.heap.size w wr ∧ ∀ j, (hj : j < l.length) → j < k → wtB l[j] = true) (fun i _ => l.length - (intOf i).toNat)
    case atStart => exact ⟨0, Nat.zero_le _, rfl, B2.out, fun j _ h => by omega⟩
    case round =>
      obtain ⟨k, hk, rfl, hb, hok⟩ := hrel
      have HK := Lib.hid hok
      have HB := Lib.hid hb
      clear hok hb
      by_cases hlt : k < l.length
      · obtain ⟨b, off, cap', g, gc, o, oc, hp, lb, hat⟩ := (HV.out.later HB.out).at hlt
        obtain rfl : p = some ⟨b, off, none⟩ := by cases hp; rfl
        have k1 : (k : Int) < (l.length : Int) := by omega
        obtain ⟨e0, e1, e2, e3, e4, e5, e6, _, _⟩ := hat
        have HBad : Hid (wtB l[k] = false → wchk l = 8) := Lib.hid (fun h => wchk_bad H0.out hlt h)
        have HG : Hid (wtB l[k] = true → ∀ j, (hj : j < l.length) → j < k + 1 → wtB l[j] = true) := Lib.hid (fun ht j hj h => by
          rcases Nat.lt_or_eq_of_le (Nat.le_of_lt_succ h) with h1 | h1
          · exact HK.out j hj h1
          · subst h1; exact ht)
        have HWn := Lib.hid (wt_no (r := l[k]))
        have HWy := Lib.hid (wt_yes (r := l[k]))
        obtain ⟨wt, hwt⟩ : ∃ wt, l[k].wt = wt := ⟨_, rfl⟩
        rw [hwt] at e5 HWn HWy
        generalize l[k].c.toNat = x0 at e0
        generalize l[k].ar = x1 at e1
        generalize l[k].l.toNat = x2 at e2
        generalize l[k].r.toNat = x3 at e3
        generalize l[k].gs.length = x4 at e4
        generalize l[k].out.length = x6 at e6
        clear hp hwt
        by_cases c1 : wt < 1
        · have HF := Lib.hid (HBad.out (HWn.out (.inl c1)))
          go_wp2_with fail
          go_ret
          exact ⟨ret_int HF.out.symm, HB.out.alloc HB.out.size _⟩
        · by_cases c2 : 1000000 < wt
          · have HF := Lib.hid (HBad.out (HWn.out (.inr c2)))
            go_wp2_with fail
            go_ret
            exact ⟨ret_int HF.out.symm, HB.out.alloc HB.out.size _⟩
          · have HX := Lib.hid (HG.out (HWy.out c1 c2))
            go_wp2_with fail
            go_roundw
            case rel => exact ⟨k + 1, by omega, by go_num, HB.out.alloc HB.out.size _, HX.out⟩
            case measure => simp [intOf]; omega
      · obtain rfl : k = l.length := by omega
        have HF := Lib.hid (wchk_zero H0.out fun j h => HK.out j h h)
        go_wp2_with fail
        go_ret
        exact ⟨ret_int HF.out.symm, HB.out⟩
  · have HF := Lib.hid (wchk_of h0)
    have t1 : (rchk (l.map unw) != 0) = true := by rw [bne_iff_ne]; exact h0
    obtain ⟨x, hx⟩ : ∃ x, rchk (l.map unw) = x := ⟨_, rfl⟩
    rw [hx] at KC t1 HF
    clear h0 hx
    go_enter Tryd.func19, Tryd.ntmps19
    go_wp2_with fail
    refine KU.out.mono ?_
    rintro e w1 ⟨v1, rfl, hb, hr⟩
    have B1 := Lib.hid hb
    have R1 := Lib.hid hr
    clear hb hr
    go_wp2_with fail
    refine (KC.out _ _ R1.out).mono ?_
    rintro e w2 ⟨rfl, hb⟩
    have B2 := Lib.hid (B1.out.trans (hb.mono B1.out.size))
    clear hb R1
    go_wp2_with fail
    go_ret
    exact ⟨ret_int HF.out.symm, B2.out⟩
theorem one_no {r : Rw} (h : ruleB r = false ∨ r.l ≠ 0 ∨ r.r ≠ 0 ∨ r.wt < 1 ∨ 1000000 < r.wt) : (ruleB r && (r.l == 0 && r.r == 0) && wtB r) = false := by
  rcases h with h | h | h | h | h
  · rw [h]; rfl
  · rw [beq_eq_false_iff_ne.2 h]; simp
  · rw [beq_eq_false_iff_ne.2 h]; simp
  · rw [wt_no (.inl h)]; simp
  · rw [wt_no (.inr h)]; simp
theorem one_yes {r : Rw} (h : ruleB r = true) (hl : r.l = 0) (hr : r.r = 0) (h1 : ¬ r.wt < 1) (h2 : ¬ 1000000 < r.wt) : (ruleB r && (r.l == 0 && r.r == 0) && wtB r) = true := by
  rw [h, hl, hr, wt_yes h1 h2]; rfl
set_option maxRecDepth 100000 in
set_option maxHeartbeats 3200000 in
theorem refwcheck_any (v : Value) (l : List Rw) (hmax : l.length ≤ 9223372036854775807) (hs : ∀ r ∈ l, RwSm r) (w : World) (hv : Rws w v l) :
    Calls Tryd.prog 32 #[v] w fun e w' => e = .returned (.int .i64 (wchk l)) ∧ Below w.heap.size w w' := by
  have KM := Lib.hid (refmany_any v l hmax w hv)
  obtain ⟨p, cap, rfl⟩ := hv.slice
  have HV := Lib.hid hv
  have HS := Lib.hid hs
  have HKF := Lib.hid fineR_any
  clear hv hs
  cases hm : manyB l with
  | true =>
    have HF := Lib.hid (wchk_many hm)
    rw [hm] at KM
    clear hm
    go_enter Tryd.func32, Tryd.ntmps32
    go_wp2_with fail
    refine KM.out.mono ?_
    rintro e wx ⟨rfl, rfl⟩
    go_wp2_with fail
    go_ret
    exact ⟨ret_int HF.out.symm, Below.refl _ _⟩
  | false =>
    have HM := Lib.hid hm
    rw [hm] at KM
    clear hm
    go_enter Tryd.func32, Tryd.ntmps32
    go_wp2_with fail
    refine KM.out.mono ?_
    rintro e wx ⟨rfl, rfl⟩
    go_wp2_with fail
    go_loopw [3] (fun i wr => ∃ k : Nat, k ≤ l.length ∧ i = .int .i64 k ∧ Below w.heap.size w wr ∧ ∀ j, (hj : j < l.length) → j < k → (ruleB l[j] && (l[j].l == 0 && l[j].r == 0) && wtB l[j]) = true) (fun i _ => l.length - (intOf i).toNat)
    case atStart => exact ⟨0, Nat.zero_le _, rfl, Below.refl _ _, fun j _ h => by omega⟩
    case round =>
      obtain ⟨k, hk, rfl, hb, hok⟩ := hrel
      have HK := Lib.hid hok
      have HB := Lib.hid hb
      clear hok hb
      by_cases hlt : k < l.length
      · obtain ⟨b, off, cap', g, gc, o, oc, hp, lb, hat⟩ := (HV.out.later HB.out).at hlt
        obtain rfl : p = some ⟨b, off, none⟩ := by cases hp; rfl
        have k1 : (k : Int) < (l.length : Int) := by omega
        have HCw : Hid (Calls Tryd.prog 64 #[.agg #[.int .u8 l[k].c.toNat, .int .i64 l[k].ar, .int .u8 l[k].l.toNat, .int .u8 l[k].r.toNat, .slice g l[k].gs.length gc, .int .i64 l[k].wt, .slice o l[k].out.length oc]] wr fun e w' => e = .returned (.bool (ruleB l[k])) ∧ Below wr.heap.size wr w') :=
          Lib.hid (HKF.out l[k] _ _ wr (HS.out _ (List.getElem_mem hlt)) hat.gs hat.out)
        have HBad : Hid ((ruleB l[k] && (l[k].l == 0 && l[k].r == 0) && wtB l[k]) = false → wchk l = 8) := Lib.hid (fun h => wchk_at HM.out hlt h)
        have HG : Hid ((ruleB l[k] && (l[k].l == 0 && l[k].r == 0) && wtB l[k]) = true → ∀ j, (hj : j < l.length) → j < k + 1 → (ruleB l[j] && (l[j].l == 0 && l[j].r == 0) && wtB l[j]) = true) := Lib.hid (fun ht j hj h => by
          rcases Nat.lt_or_eq_of_le (Nat.le_of_lt_succ h) with h1 | h1
          · exact HK.out j hj h1
          · subst h1; exact ht)
        have HOn := Lib.hid (one_no (r := l[k]))
        have HOy := Lib.hid (one_yes (r := l[k]))
        obtain ⟨t, ht⟩ : ∃ t, ruleB l[k] = t := ⟨_, rfl⟩
        rw [ht] at HCw
        obtain ⟨e0, e1, e2, e3, e4, e5, e6, _, _⟩ := hat
        have LB := Lib.hid lb
        clear hp
        generalize l[k].c.toNat = x0 at e0 HCw
        generalize l[k].ar = x1 at e1 HCw
        generalize l[k].gs.length = x4 at e4 HCw
        generalize l[k].out.length = x6 at e6 HCw
        obtain ⟨lv, hlv⟩ : ∃ lv : UInt8, l[k].l = lv := ⟨_, rfl⟩
        obtain ⟨rv, hrv⟩ : ∃ rv : UInt8, l[k].r = rv := ⟨_, rfl⟩
        obtain ⟨wt, hwt⟩ : ∃ wt, l[k].wt = wt := ⟨_, rfl⟩
        rw [hlv] at e2 HCw HOn HOy HBad HG
        rw [hrv] at e3 HCw HOn HOy HBad HG
        rw [hwt] at e5 HCw HOn HOy
        clear hlv hrv hwt
        cases t with
        | false =>
          have HF := Lib.hid (HBad.out (HOn.out (.inl ht)))
          clear ht
          go_wp2_with fail
          refine HCw.out.mono ?_
          rintro e w1 ⟨rfl, hb⟩
          have z2 := (hb.cell (p := ⟨b, off + k * 7 + 2, none⟩) LB.out).trans e2
          have z3 := (hb.cell (p := ⟨b, off + k * 7 + 3, none⟩) LB.out).trans e3
          have z5 := (hb.cell (p := ⟨b, off + k * 7 + 5, none⟩) LB.out).trans e5
          have B1 := Lib.hid (HB.out.trans (hb.mono HB.out.size))
          clear hb
          go_wp2_with fail
          go_ret
          exact ⟨ret_int HF.out.symm, B1.out⟩
        | true =>
          by_cases hl : lv = 0
          · have t2 : ((lv.toNat : Int) != 0) = false := by rw [hl]; rfl
            by_cases hr : rv = 0
            · have t3 : ((rv.toNat : Int) != 0) = false := by rw [hr]; rfl
              by_cases c1 : wt < 1
              · have HF := Lib.hid (HBad.out (HOn.out (.inr (.inr (.inr (.inl c1))))))
                clear ht hl hr
                go_wp2_with fail
                refine HCw.out.mono ?_
                rintro e w1 ⟨rfl, hb⟩
                have z2 := (hb.cell (p := ⟨b, off + k * 7 + 2, none⟩) LB.out).trans e2
                have z3 := (hb.cell (p := ⟨b, off + k * 7 + 3, none⟩) LB.out).trans e3
                have z5 := (hb.cell (p := ⟨b, off + k * 7 + 5, none⟩) LB.out).trans e5
                have B1 := Lib.hid (HB.out.trans (hb.mono HB.out.size))
                clear hb
                go_wp2_with fail
                go_ret
                exact ⟨ret_int HF.out.symm, B1.out⟩
              · by_cases c2 : 1000000 < wt
                · have HF := Lib.hid (HBad.out (HOn.out (.inr (.inr (.inr (.inr c2))))))
                  clear ht hl hr
                  go_wp2_with fail
                  refine HCw.out.mono ?_
                  rintro e w1 ⟨rfl, hb⟩
                  have z2 := (hb.cell (p := ⟨b, off + k * 7 + 2, none⟩) LB.out).trans e2
                  have z3 := (hb.cell (p := ⟨b, off + k * 7 + 3, none⟩) LB.out).trans e3
                  have z5 := (hb.cell (p := ⟨b, off + k * 7 + 5, none⟩) LB.out).trans e5
                  have B1 := Lib.hid (HB.out.trans (hb.mono HB.out.size))
                  clear hb
                  go_wp2_with fail
                  go_ret
                  exact ⟨ret_int HF.out.symm, B1.out⟩
                · have HX := Lib.hid (HG.out (HOy.out ht hl hr c1 c2))
                  clear ht hl hr
                  go_wp2_with fail
                  refine HCw.out.mono ?_
                  rintro e w1 ⟨rfl, hb⟩
                  have z2 := (hb.cell (p := ⟨b, off + k * 7 + 2, none⟩) LB.out).trans e2
                  have z3 := (hb.cell (p := ⟨b, off + k * 7 + 3, none⟩) LB.out).trans e3
                  have z5 := (hb.cell (p := ⟨b, off + k * 7 + 5, none⟩) LB.out).trans e5
                  have B1 := Lib.hid (HB.out.trans (hb.mono HB.out.size))
                  clear hb
                  go_wp2_with fail
                  go_roundw
                  case rel => exact ⟨k + 1, by omega, by go_num, B1.out, HX.out⟩
                  case measure => simp [intOf]; omega
            · have t3 : ((rv.toNat : Int) != 0) = true := by rw [show (0 : Int) = ((0 : UInt8).toNat : Int) from rfl, u8_ne]; simp [hr]
              have HF := Lib.hid (HBad.out (HOn.out (.inr (.inr (.inl hr)))))
              clear ht hl hr
              go_wp2_with fail
              refine HCw.out.mono ?_
              rintro e w1 ⟨rfl, hb⟩
              have z2 := (hb.cell (p := ⟨b, off + k * 7 + 2, none⟩) LB.out).trans e2
              have z3 := (hb.cell (p := ⟨b, off + k * 7 + 3, none⟩) LB.out).trans e3
              have z5 := (hb.cell (p := ⟨b, off + k * 7 + 5, none⟩) LB.out).trans e5
              have B1 := Lib.hid (HB.out.trans (hb.mono HB.out.size))
              clear hb
              go_wp2_with fail
              go_ret
              exact ⟨ret_int HF.out.symm, B1.out⟩
          · have t2 : ((lv.toNat : Int) != 0) = true := by rw [show (0 : Int) = ((0 : UInt8).toNat : Int) from rfl, u8_ne]; simp [hl]
            have HF := Lib.hid (HBad.out (HOn.out (.inr (.inl hl))))
            clear ht hl
            go_wp2_with fail
            refine HCw.out.mono ?_
            rintro e w1 ⟨rfl, hb⟩
            have z2 := (hb.cell (p := ⟨b, off + k * 7 + 2, none⟩) LB.out).trans e2
            have z3 := (hb.cell (p := ⟨b, off + k * 7 + 3, none⟩) LB.out).trans e3
            have z5 := (hb.cell (p := ⟨b, off + k * 7 + 5, none⟩) LB.out).trans e5
            have B1 := Lib.hid (HB.out.trans (hb.mono HB.out.size))
            clear hb
            go_wp2_with fail
            go_ret
            exact ⟨ret_int HF.out.symm, B1.out⟩
      · obtain rfl : k = l.length := by omega
        have HF := Lib.hid (wchk_fine HM.out fun j h => HK.out j h h)
        go_wp2_with fail
        go_ret
        exact ⟨ret_int HF.out.symm, HB.out⟩
end Go.Proofs.YtepoaobjcpgilaaDoor
namespace Go.Proofs.YtepoaobjcpgilaaDoor
open Go.RowKit
open WM RM CH
set_option linter.unusedVariables false
set_option linter.unusedSimpArgs false

theorem bgL_len (d : Nat → Bs) (u : List Md) : (bgL d u).length ≤ 2000 := by
  unfold bgL
  split
  · rename_i h
    rw [bgF_length]
    exact (chk_zero.1 h).1
  · simp
theorem bgL_arg (d : Nat → Bs) {u : List Md} (hu : ∀ m ∈ u, m.a.length ≤ 10) : ∀ c ∈ bgL d u, c.m.a.length ≤ 9223372036854775807 := by
  intro c hc
  unfold bgL at hc
  split at hc
  · obtain ⟨i, hi, rfl⟩ := List.mem_iff_getElem.1 hc
    rw [bgF_length] at hi
    rw [bgF_get d (Nat.le_refl _) hi]
    have := hu u[i] (List.getElem_mem hi)
    show u[i].a.length ≤ _
    omega
  · simp at hc
theorem woL_len (l : List Ce) : (woL l).length ≤ 2000 := by
  unfold woL
  split
  · rename_i h
    rw [List.length_map]
    apply Classical.byContradiction
    intro h2
    rw [ceC_many (by omega)] at h
    omega
  · simp
theorem woL_arg {l : List Ce} (hl : ∀ c ∈ l, c.m.a.length ≤ 10) : ∀ m ∈ woL l, m.a.length ≤ 9223372036854775807 := by
  intro m hm
  unfold woL at hm
  split at hm
  · obtain ⟨c, hc, rfl⟩ := List.mem_map.1 hm
    have := hl c hc
    omega
  · simp at hm
set_option maxRecDepth 100000 in
set_option maxHeartbeats 6400000 in
theorem chcells_walk (v1 v2 v3 : Value) (rl : List Rw) (hr : rl.length ≤ 9223372036854775807) (cl : List Ce) (hc : cl.length ≤ 9223372036854775807) (hci : ∀ c ∈ cl, c.p.length ≤ 9223372036854775807 ∧ c.m.a.length ≤ 9223372036854775807) (u : List Md) (hu : u.length ≤ 9223372036854775807) (hua : ∀ m ∈ u, m.a.length ≤ 9223372036854775807)
    (w : World) (h1 : Rws w v1 rl) (n1 : NilOr v1) (h2 : Ces w v2 cl) (h3 : Mods w v3 u) (n3 : NilOr v3) (ht : Tab w) :
    Calls Tryd.prog 5 #[v1, v2, v3] w fun e w' => e = .returned (.bool true) ∧ Below w.heap.size w w' := by
  have KG1 := Lib.hid (refgreat_any v1 rl hr w h1)
  have KG2 := Lib.hid (refcgreat_any v2 cl hc w h2 hci)
  have KG3 := Lib.hid (great_any v3 u hu w h3 hua)
  obtain ⟨p1, c1, rfl⟩ := h1.slice
  obtain ⟨p2, c2, rfl⟩ := h2.slice
  obtain ⟨p3, c3, rfl⟩ := h3.slice
  have H1 := Lib.hid h1
  have H2 := Lib.hid h2
  have H3 := Lib.hid h3
  have HT := Lib.hid ht
  cases hg1 : greatR rl with
  | true =>
    rw [hg1] at KG1
    clear h1 h2 h3 n1 n3 ht hg1
    go_enter Tryd.func5, Tryd.ntmps5
    go_wp2_with fail
    refine KG1.out.mono ?_
    rintro e wx ⟨rfl, rfl⟩
    go_wp2_with fail
    go_ret
    exact ⟨rfl, Below.refl _ _⟩
  | false =>
    cases hg2 : greatC cl with
    | true =>
      rw [hg1] at KG1
      rw [hg2] at KG2
      clear h1 h2 h3 n1 n3 ht hg1 hg2
      go_enter Tryd.func5, Tryd.ntmps5
      go_wp2_with fail
      refine KG1.out.mono ?_
      rintro e wx ⟨rfl, rfl⟩
      go_wp2_with fail
      refine KG2.out.mono ?_
      rintro e wx ⟨rfl, rfl⟩
      go_wp2_with fail
      go_ret
      exact ⟨rfl, Below.refl _ _⟩
    | false =>
      cases hg3 : greatB u with
      | true =>
        rw [hg1] at KG1
        rw [hg2] at KG2
        rw [hg3] at KG3
        clear h1 h2 h3 n1 n3 ht hg1 hg2 hg3
        go_enter Tryd.func5, Tryd.ntmps5
        go_wp2_with fail
        refine KG1.out.mono ?_
        rintro e wx ⟨rfl, rfl⟩
        go_wp2_with fail
        refine KG2.out.mono ?_
        rintro e wx ⟨rfl, rfl⟩
        go_wp2_with fail
        refine KG3.out.mono ?_
        rintro e wx ⟨rfl, rfl⟩
        go_wp2_with fail
        go_ret
        exact ⟨rfl, Below.refl _ _⟩
      | false =>
        obtain ⟨r1, r2⟩ := greatR_sm hg1
        obtain ⟨b1, b2⟩ := greatC_no hg2
        obtain ⟨d1, d2⟩ := great_no hg3
        have KB := Lib.hid (fun w h ht => pbegin_any (.slice p3 u.length c3) u (by omega) (fun m hm => by have := d2 m hm; omega) w h n3 ht)
        have KB' := Lib.hid (fun w h => refbegin_any (.slice p3 u.length c3) u (by omega) (fun m hm => by have := d2 m hm; omega) w h)
        have KW := Lib.hid (fun w h => pword_any (.slice p2 cl.length c2) cl (by omega) (fun c hc => by have := b2 c hc; omega) w h)
        have KW' := Lib.hid (fun w h => refword_any (.slice p2 cl.length c2) cl (by omega) (fun c hc => by have := b2 c hc; omega) w h)
        have KC := Lib.hid (fun w h => pwcheck_any (.slice p1 rl.length c1) rl (by omega) r2 w h n1)
        have KC' := Lib.hid (fun w h => refwcheck_any (.slice p1 rl.length c1) rl (by omega) r2 w h)
        have KD := Lib.hid (fun w h => pcells_any (.slice p2 cl.length c2) cl (by omega) (fun c hc => by have := b2 c hc; omega) w h)
        have KD' := Lib.hid (fun w h => refcells_any (.slice p2 cl.length c2) cl (by omega) (fun c hc => by have := b2 c hc; omega) w h)
        have KS := Lib.hid (fun v v' w i1 i2 => csame_any v v' (bgL Lib.decDigits u) (bgL Lib.decDigits u) (by have := bgL_len Lib.decDigits u; omega) (by have := bgL_len Lib.decDigits u; omega) (bgL_arg _ (fun m hm => by have := d2 m hm; omega)) (bgL_arg _ (fun m hm => by have := d2 m hm; omega)) w i1 i2)
        have KS' := Lib.hid (fun v v' w i1 i2 => same_any v v' (woL cl) (woL cl) (by have := woL_len cl; omega) (by have := woL_len cl; omega) (woL_arg (fun c hc => by have := b2 c hc; omega)) (woL_arg (fun c hc => by have := b2 c hc; omega)) w i1 i2)
        rw [decide_eq_true rfl] at KS KS'
        rw [hg1] at KG1
        rw [hg2] at KG2
        rw [hg3] at KG3
        generalize wchk rl = x1 at KC KC'
        generalize ceC cl = x2 at KW KW' KD KD'
        generalize chk u = x3 at KB KB'
        generalize bgL Lib.decDigits u = bl at KB KB' KS
        generalize woL cl = wl at KW KW' KS'
        clear h1 h2 h3 n1 n3 ht hg1 hg2 hg3 r1 r2 b1 b2 d1 d2
        go_enter Tryd.func5, Tryd.ntmps5
        go_wp2_with fail
        refine KG1.out.mono ?_
        rintro e wx ⟨rfl, rfl⟩
        go_wp2_with fail
        refine KG2.out.mono ?_
        rintro e wx ⟨rfl, rfl⟩
        go_wp2_with fail
        refine KG3.out.mono ?_
        rintro e wx ⟨rfl, rfl⟩
        go_wp2_with fail
        refine (KB.out _ H3.out HT.out).mono ?_
        rintro e w1 ⟨va, rfl, hb, hm⟩
        obtain ⟨pa, ca, rfl⟩ := hm.slice
        have B1 := Lib.hid hb
        have M1 := Lib.hid hm
        clear hb hm
        go_wp2_with fail
        refine (KB'.out _ (H3.out.later B1.out)).mono ?_
        rintro e w2 ⟨vb, rfl, hb, hm⟩
        obtain ⟨pb, cb, rfl⟩ := hm.slice
        have C2 := Lib.hid hb
        have B2 := Lib.hid (B1.out.trans (hb.mono B1.out.size))
        have M2 := Lib.hid hm
        clear hb hm
        go_wp2_with fail
        refine (KW.out _ (H2.out.later B2.out)).mono ?_
        rintro e w3 ⟨vc, rfl, hb, hm⟩
        obtain ⟨pc, cc, rfl⟩ := hm.slice
        have C3 := Lib.hid (hb)
        have B3 := Lib.hid (B2.out.trans (hb.mono B2.out.size))
        have M3 := Lib.hid hm
        clear hb hm
        go_wp2_with fail
        refine (KW'.out _ (H2.out.later B3.out)).mono ?_
        rintro e w4 ⟨vd, rfl, hb, hm⟩
        obtain ⟨pd, cd, rfl⟩ := hm.slice
        have C4 := Lib.hid hb
        have B4 := Lib.hid (B3.out.trans (hb.mono B3.out.size))
        have M4 := Lib.hid hm
        have A1 := Lib.hid (((M1.out.later C2.out).later C3.out).later hb)
        have A2 := Lib.hid ((M2.out.later C3.out).later hb)
        have A3 := Lib.hid (M3.out.later hb)
        clear hb hm M1 M2 M3 C2 C3 C4
        go_wp2_with fail
        refine (KC.out _ (H1.out.later B4.out)).mono ?_
        rintro e w5 ⟨rfl, hb⟩
        have B5 := Lib.hid (B4.out.trans (hb.mono B4.out.size))
        have D5 := Lib.hid hb
        clear hb
        go_wp2_with fail
        refine (KC'.out _ (H1.out.later B5.out)).mono ?_
        rintro e w6 ⟨rfl, hb⟩
        have B6 := Lib.hid (B5.out.trans (hb.mono B5.out.size))
        have D6 := Lib.hid (D5.out.trans (hb.mono D5.out.size))
        clear hb
        go_wp2_with fail
        refine (KD.out _ (H2.out.later B6.out)).mono ?_
        rintro e w7 ⟨rfl, hb⟩
        have B7 := Lib.hid (B6.out.trans (hb.mono B6.out.size))
        have D7 := Lib.hid (D6.out.trans (hb.mono D6.out.size))
        clear hb
        go_wp2_with fail
        refine (KD'.out _ (H2.out.later B7.out)).mono ?_
        rintro e w8 ⟨rfl, hb⟩
        have B8 := Lib.hid (B7.out.trans (hb.mono B7.out.size))
        have D8 := Lib.hid (D7.out.trans (hb.mono D7.out.size))
        clear hb
        go_wp2_with fail
        refine (KS.out _ _ _ (A1.out.later D8.out) (A2.out.later D8.out)).mono ?_
        rintro e w9 ⟨rfl, hb⟩
        have B9 := Lib.hid (B8.out.trans (hb.mono B8.out.size))
        have D9 := Lib.hid (D8.out.trans (hb.mono D8.out.size))
        clear hb
        go_wp2_with fail
        refine (KS'.out _ _ _ (A3.out.later D9.out) (M4.out.later D9.out)).mono ?_
        rintro e wa ⟨rfl, hb⟩
        have Ba := Lib.hid (B9.out.trans (hb.mono B9.out.size))
        clear hb
        go_wp2_with fail
        go_ret
        exact ⟨rfl, Ba.out⟩
end Go.Proofs.YtepoaobjcpgilaaDoor
namespace Go.Proofs.YtepoaobjcpgilaaDoor
open Go.ChangeShapes Go.WideShapes Go.ChangeAt Go.RowKit Go.Joins Go.Deep
open WM RM CH
set_option linter.unusedVariables false
set_option linter.unusedSimpArgs false
set_option maxRecDepth 100000

theorem co_cellsS : Tryd.prog.cellsOf 9 = 1 := by kernel_rfl
/-- How long a cell's parts may be. -/
def CeOk (c : Ce) : Prop := c.p.length ≤ 9223372036854775807 ∧ c.m.a.length ≤ 9223372036854775807
/-- The cells of a cell. -/
def co_ceC (W : World) (c : Ce) (cs : List Value) : Prop := ∃ v, cs = [.string (bA c.p), .int .u8 c.m.c.toNat, v] ∧ Ints W v c.m.a ∧ NilOr v
theorem co_ceC_len {W : World} {c : Ce} {cs : List Value} (h : co_ceC W c cs) : cs.length = 3 := by obtain ⟨v, rfl, _⟩ := h; rfl
theorem co_ceC_at {W : World} {c : Ce} {cs : List Value} {b o : Nat} (h : co_ceC W c cs) (hc : ∀ j, j < 3 → W.cell? ⟨b, o + j, none⟩ = cs[j]?) :
    W.cell? ⟨b, o, none⟩ = some (.string (bA c.p)) ∧ W.cell? ⟨b, o + 1, none⟩ = some (.int .u8 c.m.c.toNat) ∧ ∃ v, W.cell? ⟨b, o + 2, none⟩ = some v ∧ Ints W v c.m.a ∧ NilOr v := by
  obtain ⟨v, rfl, hi, hn⟩ := h
  exact ⟨hc 0 (by omega), hc 1 (by omega), v, hc 2 (by omega), hi, hn⟩
theorem co_ce_struct : ∃ fs : Array Field, Tryd.prog.underlying 50 = some (.struct fs) ∧ fs.map (fun f : Field => (f.offset, f.type)) = [(0, 9), (1, 25)].toArray := ⟨_, Tryd.underlying50, by simp⟩
theorem co_ce_cells : Tryd.prog.cellsOf 50 = 3 := by kernel_rfl
section
variable {H : Type} {enc : TypeId × Value → H} {W : World} {base : Nat} {spare : Nat → Bool} {held : Bool}
theorem co_ce_one {fuel : Nat} {cs : List Value} {x : DataW H × List MemPlace} (h : DataW.trod enc Tryd.prog W base spare held fuel 50 cs = some x) :
    ∃ c : Ce, CeOk c ∧ co_ceC W c cs := by
  obtain ⟨fs, hu, hf⟩ := co_ce_struct
  obtain ⟨xs, n, rfl, ex, hl, hxl, hx⟩ := DataW.trod_struct hu h
  have F := wo_fields hf
  rw [co_ce_cells] at hl
  obtain ⟨c0, c1, c2, rfl⟩ : ∃ c0 c1 c2, cs = [c0, c1, c2] := by
    match cs, hl with
    | [c0, c1, c2], _ => exact ⟨c0, c1, c2, rfl⟩
  have hsz : fs.size = 2 := by have := congrArg Array.size hf; simpa using this
  have get : ∀ i, i < 2 → ∃ y, xs[i]? = some y := fun i hi => ⟨xs[i]'(by omega), List.getElem?_eq_getElem (by omega)⟩
  have step : ∀ (i o : Nat) (t : TypeId) (y : DataW H × List MemPlace), ([(0, 9), (1, 25)] : List (Nat × TypeId))[i]? = some (o, t) → xs[i]? = some y → DataW.trod enc Tryd.prog W base spare held n t (([c0, c1, c2].drop o).take (Tryd.prog.cellsOf t)) = some y := by
    intro i o t y h1 h2
    obtain ⟨f, h3, rfl, rfl⟩ := F i o t h1
    rw [hx i f h3, h2]
  obtain ⟨y0, g0⟩ := get 0 (by omega)
  have h0 := step 0 _ _ _ rfl g0
  rw [co_cellsS] at h0
  simp only [List.drop_zero, List.drop_succ_cons, List.take_succ_cons, List.take_zero] at h0
  obtain ⟨s, e0, -, w0⟩ := DataW.trod_string Tryd.underlying9 h0
  simp only [List.cons.injEq, and_true] at e0
  subst e0
  obtain ⟨y1, g1⟩ := get 1 (by omega)
  have h1 := step 1 _ _ _ rfl g1
  rw [wo_cellsM] at h1
  simp only [List.drop_zero, List.drop_succ_cons, List.take_succ_cons, List.take_zero] at h1
  obtain ⟨m, v, e1, h2, h3, h4⟩ := wo_mod h1
  simp only [List.cons.injEq, and_true] at e1
  obtain ⟨rfl, rfl⟩ := e1
  refine ⟨⟨lA s, m⟩, ⟨by show (lA s).length ≤ _; rw [lA_len]; unfold maxLen at w0; omega, h2⟩, c2, rfl, h3, h4⟩
theorem co_cells {fuel : Nat} {cs : List Value} {x : DataW H × List MemPlace} (h : DataW.trod enc Tryd.prog W base spare held fuel 46 cs = some x) :
    ∃ (v : Value) (l : List Ce), cs = [v] ∧ l.length ≤ 9223372036854775807 ∧ (∀ m ∈ l, CeOk m) ∧ Ces W v l := by
  rcases DataW.trod_slice Tryd.underlying46 h with ⟨hcs, -⟩ | ⟨ad, len, cap, elems, rest, n, _, hcs, _, _, hlc, hcm, hel, hx, -⟩
  · exact ⟨_, [], hcs, by simp, by simp, .none _ _⟩
  · have one : ∀ i, i < len → ∃ p : Ce × List Value, (∃ b off, ad.add (i * 3) = ⟨b, off, none⟩ ∧ b < W.heap.size ∧ p.2.length = 3 ∧ ∀ j, j < 3 → W.cell? ⟨b, off + j, none⟩ = p.2[j]?) ∧ CeOk p.1 ∧ co_ceC W p.1 p.2 := by
      intro i hi
      have h1 := hx i hi
      rw [co_ce_cells, List.getElem?_eq_getElem (by omega)] at h1
      obtain ⟨cs', h2, h3⟩ := Option.bind_eq_some_iff.1 h1
      obtain ⟨m, h4, h5⟩ := co_ce_one h3
      obtain ⟨hlen, _, hc⟩ := World.cells?_some h2
      obtain ⟨b, off, path, he⟩ : ∃ b off path, ad.add (i * 3) = ⟨b, off, path⟩ := ⟨_, _, _, rfl⟩
      rw [he] at hc
      have c0 := hc 0 (by omega)
      have hl' := co_ceC_len h5
      rw [List.getElem?_eq_getElem (by omega)] at c0
      have hp : path = none := by simpa [Addr.add] using World.cell?_spot c0
      subst hp
      have hlt : b < W.heap.size := by
        rcases Nat.lt_or_ge b W.heap.size with h | h
        · exact h
        · simp [World.cell?, Addr.add, Array.getElem?_eq_none h] at c0
      refine ⟨(m, cs'), ⟨b, off, he, hlt, hl', fun j hj => ?_⟩, h4, h5⟩
      have := hc j (by omega)
      rw [wo_add] at this
      exact this
    have : Inhabited (Ce × List Value) := ⟨(⟨[], ⟨0, []⟩⟩, [])⟩
    obtain ⟨f, hf⟩ := choose_lt one
    refine ⟨_, (List.range len).map fun i => (f i).1, hcs, ?_, ?_, ?_⟩
    · unfold maxLen at hcm
      simp; omega
    · intro m hm
      rw [List.mem_map] at hm
      obtain ⟨i, hi, rfl⟩ := hm
      exact (hf i (by simpa using hi)).2.1
    · rcases Nat.eq_zero_or_pos len with h0 | hpos
      · subst h0; exact .none _ _
      · obtain ⟨⟨b, off, e0, hlt, _⟩, _⟩ := hf 0 hpos
        have ea : ad = ⟨b, off, none⟩ := by simpa [Addr.add] using e0
        subst ea
        have hll : ((List.range len).map fun i => (f i).1).length = len := by simp
        have := Ces.some (w := W) b off cap ((List.range len).map fun i => (f i).1) (by omega) hlt (by
          intro i hi
          rw [hll] at hi
          obtain ⟨⟨b', off', e, _, hl', hc⟩, _, hC⟩ := hf i hi
          rw [wo_add] at e
          injection e with e1 e2 _
          subst e1 e2
          simp only [List.getElem_map, List.getElem_range]
          exact co_ceC_at hC hc)
        rwa [hll] at this
/-- .. as an argument. -/
theorem cesOpen {v : Value} {d : DataW H} {p : List MemPlace} {a0 : Option Addr} {len cap : Nat} (hv : v = .slice a0 len cap) (h : DataW.Trod enc Tryd.prog W base spare held 46 v d p) :
    ∃ l : List Ce, l.length ≤ 9223372036854775807 ∧ (∀ c ∈ l, CeOk c) ∧ Ces W v l := by
  obtain ⟨fuel, hf⟩ := h
  subst hv
  obtain ⟨v', l, e, h1, h2, h3⟩ := co_cells (by simpa [Value.cells] using hf)
  simp at e
  subst e
  exact ⟨l, h1, h2, h3⟩
theorem rwsNil {v : Value} {d : DataW H} {p : List MemPlace} {a0 : Option Addr} {len cap : Nat} (hv : v = .slice a0 len cap) (h : DataW.Trod enc Tryd.prog W base spare held 26 v d p) : NilOr v := by
  obtain ⟨fuel, hf⟩ := h
  subst hv
  rcases DataW.trod_slice Tryd.underlying26 (by simpa [Value.cells] using hf) with ⟨hcs, -⟩ | ⟨ad, len', cap', elems, rest, n, _, hcs, _⟩
  · simp only [List.cons.injEq, and_true] at hcs
    exact .inl hcs
  · simp only [List.cons.injEq, and_true] at hcs
    exact .inr ⟨_, _, _, hcs⟩
end
theorem readableC : Tryd.prog.readableRec 46 = true := by kernel_rfl
theorem smallC : 46 < Tryd.prog.types.size := of_decide_eq_true (by kernel_rfl)
end Go.Proofs.YtepoaobjcpgilaaDoor
namespace Go.Proofs.YtepoaobjcpgilaaDoor.ChCard
set_option maxRecDepth 100000
set_option linter.unusedVariables false
set_option linter.unusedSimpArgs false
open Go.ChangeShapes Go.WideShapes Go.ChangeAt Go.RowKit Go.Joins Go.Deep

theorem own : ownKnob Tryd.prog.godebug = none := by kernel_rfl
theorem laid : laidOutB Tryd.prog = true := by kernel_rfl
theorem gType : (Tryd.prog.globals[0]?).map (·.type) = some 177 := by kernel_rfl
theorem cellsTab : Tryd.prog.cellsOf 177 = 20 := by kernel_rfl
theorem cellsU : Tryd.prog.cellsOf 154 = 1 := by kernel_rfl
theorem table {W : World} (h : laidMetH Tryd.prog Rows.chanceCellsRow.laid W) : Tab W :=
  Lib.tabIs_of_head (rest := []) tab_named gType Tryd.underlying177 Tryd.underlying154 cellsU cellsTab (laidMet.tail (laidMet.tail h))
/-- A world for the witness: the settled one, the three tables holding what their initialisers lay. -/
noncomputable def laidWorld (os : Os) : World :=
  { World.holding Tryd.prog os ⟨#[], #[], []⟩ with heap := (((World.holding Tryd.prog os ⟨#[], #[], []⟩).heap.modify 2 (fun o => match o with | .cells _ t frozen => .cells #[.int .u8 0, .int .u8 1, .int .u8 28, .int .u8 2, .int .u8 29, .int .u8 14, .int .u8 24, .int .u8 3, .int .u8 30, .int .u8 22, .int .u8 20, .int .u8 15, .int .u8 25, .int .u8 17, .int .u8 4, .int .u8 8, .int .u8 31, .int .u8 27, .int .u8 13, .int .u8 23, .int .u8 21, .int .u8 19, .int .u8 16, .int .u8 7, .int .u8 26, .int .u8 12, .int .u8 18, .int .u8 6, .int .u8 11, .int .u8 5, .int .u8 10, .int .u8 9] t frozen | o => o)).modify 3 (fun o => match o with | .cells _ t frozen => .cells #[.int .u8 0, .int .u8 1, .int .u8 56, .int .u8 2, .int .u8 57, .int .u8 49, .int .u8 28, .int .u8 3, .int .u8 61, .int .u8 58, .int .u8 42, .int .u8 50, .int .u8 38, .int .u8 29, .int .u8 17, .int .u8 4, .int .u8 62, .int .u8 47, .int .u8 59, .int .u8 36, .int .u8 45, .int .u8 43, .int .u8 51, .int .u8 22, .int .u8 53, .int .u8 39, .int .u8 33, .int .u8 30, .int .u8 24, .int .u8 18, .int .u8 12, .int .u8 5, .int .u8 63, .int .u8 55, .int .u8 48, .int .u8 27, .int .u8 60, .int .u8 41, .int .u8 37, .int .u8 16, .int .u8 46, .int .u8 35, .int .u8 44, .int .u8 21, .int .u8 52, .int .u8 32, .int .u8 23, .int .u8 11, .int .u8 54, .int .u8 26, .int .u8 40, .int .u8 15, .int .u8 34, .int .u8 20, .int .u8 31, .int .u8 10, .int .u8 25, .int .u8 14, .int .u8 19, .int .u8 9, .int .u8 13, .int .u8 8, .int .u8 7, .int .u8 6] t frozen | o => o)).modify 0 (fun o => match o with | .cells _ t frozen => .cells #[.int .u64 1, .int .u64 10, .int .u64 100, .int .u64 1000, .int .u64 10000, .int .u64 100000, .int .u64 1000000, .int .u64 10000000, .int .u64 100000000, .int .u64 1000000000, .int .u64 10000000000, .int .u64 100000000000, .int .u64 1000000000000, .int .u64 10000000000000, .int .u64 100000000000000, .int .u64 1000000000000000, .int .u64 10000000000000000, .int .u64 100000000000000000, .int .u64 1000000000000000000, .int .u64 10000000000000000000] t frozen | o => o) }
theorem i64_rng {k : Int} (h : (Lit.int .i64 k).wf = true) : -9223372036854775808 ≤ k ∧ k ≤ 9223372036854775807 := by
  have e1 : IntKind.i64.min = -9223372036854775808 := by decide
  have e2 : IntKind.i64.max = 9223372036854775807 := by decide
  simp [Lit.wf, e1, e2] at h; omega
theorem u64_rng {k : Int} (h : (Lit.int .u64 k).wf = true) : 0 ≤ k ∧ k ≤ 18446744073709551615 := by
  have e1 : IntKind.u64.min = 0 := by decide
  have e2 : IntKind.u64.max = 18446744073709551615 := by decide
  simp [Lit.wf, e1, e2] at h; omega
theorem u8_rng {k : Int} (h : (Lit.int .u8 k).wf = true) : 0 ≤ k ∧ k ≤ 255 := by
  have e1 : IntKind.u8.min = 0 := by decide
  have e2 : IntKind.u8.max = 255 := by decide
  simp [Lit.wf, e1, e2] at h; omega
end Go.Proofs.YtepoaobjcpgilaaDoor.ChCard
