/-
  What the package's loose hands back.
-/
import Derived.Test.YtjjjopopalcokaaDoorWordLs
import Derived.Test.YtjjjopopalcokaaDoorWordUni
namespace Go.Proofs.YtjjjopopalcokaaDoor
open Go.RowKit
open WM
set_option linter.unusedVariables false
set_option linter.unusedSimpArgs false

/-- Where loose stands. -/
structure LsAt (w : World) (s : Bs) (d : List Md) (r : ByteArray) (v : Value) (wr : World) : Prop where
  eq : looseM s = d ++ looseM (lA r)
  few : d.length + r.size ≤ s.length
  below : Below w.heap.size w wr
  own : ∃ vs, ModFr wr w.heap.size v d vs
/-- How loose ends. -/
def LsEnd (l : List Md) (w : World) (e : Ending) (w' : World) : Prop := ∃ v vs, e = .returned v ∧ Below w.heap.size w w' ∧ ModFr w' w.heap.size v l vs
set_option maxRecDepth 100000 in
set_option maxHeartbeats 3200000 in
theorem loose_any (s : ByteArray) (hs : s.size ≤ 50000) (w : World) (he : Env w) :
    Calls Tryd.prog 29 #[.string s] w (LsEnd (looseM (lA s)) w) := by
  have HEn := Lib.hid he
  obtain ⟨j0, hj, hy0, hy1, hy2⟩ := info_parts info_mod
  have HM : Hid (maxLen = 9223372036854775807) := Lib.hid rfl
  have S0 : Hid (LsAt w (lA s) [] s (.slice none 0 0) w) := Lib.hid ⟨rfl, by rw [lA_len]; simp, Below.refl _ _, [], modFr_nil _ _⟩
  have hL := lA_len s
  have hL2 : (lA s).length ≤ 50000 := by omega
  generalize lA s = L at S0 hL2 ⊢
  clear he hL hs
  go_enter Tryd.func29, Tryd.ntmps29
  go_wp2_with fail
  go_loopw [0, 3] (fun x v wr => ∃ d r, x = .string r ∧ LsAt w L d r v wr) (fun x _ _ => match x with | .string r => r.size | _ => 0)
  case atStart => exact ⟨[], s, rfl, S0.out⟩
  case round =>
    obtain ⟨d, r, rfl, hS⟩ := hrel
    have HS := Lib.hid hS
    have n1 := hS.few
    have hsz := hS.below.size
    clear hS
    rcases hr : lA r with _ | ⟨c, t⟩
    · obtain rfl : r = ⟨#[]⟩ := lA_inj (by rw [hr]; rfl)
      have HF : Hid (LsEnd (looseM L) w (.returned u3) wr) := Lib.hid (by
        obtain ⟨vs, hm⟩ := HS.out.own
        have e := HS.out.eq
        rw [hr, looseM_nil, List.append_nil] at e
        exact ⟨_, vs, rfl, HS.out.below, by rw [e]; exact hm⟩)
      go_wp2_with fail
      go_ret
      exact HF.out
    · have hsz1 := lA_len r
      rw [hr] at hsz1
      have h0 : 0 < r.size := by rw [← hsz1]; simp
      have hc : r[0] = c := by
        have := lA_get r 0 h0 (by rw [hr]; simp)
        rw [← this]
        simp [hr]
      have hne : r.toList.isEmpty = false := by
        rw [ByteArray.toList_eq]
        have : r.data.toList = c :: t := hr
        rw [this]; rfl
      have ht : lA (r.extract 1 r.size) = t := by
        unfold lA at hr ⊢
        have h9 : r.size - 1 = t.length := by
          have : (c :: t).length = r.size := hsz1
          simp at this; omega
        rw [ByteArray.data_extract, Array.toList_extract, List.extract_eq_take_drop, hr, h9]
        show (List.drop 1 (c :: t)).take t.length = t
        simp
      have hsz2 : (r.extract 1 r.size).size = t.length := by rw [← lA_len, ht]
      have htl : t.length + 1 = r.size := by simpa using hsz1
      obtain ⟨vs, hM⟩ := HS.out.own
      have HMF := Lib.hid hM
      have HEq := Lib.hid HS.out.eq
      rw [hr] at HEq
      obtain ⟨W1, hW1⟩ : ∃ W, W = wr.alloc (.cells #[.int .u8 c.toNat, .slice none 0 0] 27) := ⟨_, rfl⟩
      have N1 : W1.heap[wr.heap.size]? = some (.cells #[.int .u8 c.toNat, .slice none 0 0] 27 (0, 0)) := by rw [hW1]; exact heap_alloc_new _ _
      have B1 : Below wr.heap.size wr W1 := by rw [hW1]; exact (Below.refl _ _).alloc (Nat.le_refl _) _
      have Z1 : W1.heap.size = wr.heap.size + 1 := by rw [hW1]; simp
      have HE1 := Lib.hid (HEn.out.later (HS.out.below.trans (B1.mono hsz)))
      have KP := Lib.hid (prefix_lib (r.extract 1 r.size) 40 W1)
      rw [ht] at KP
      by_cases hh : t.head? = some 40
      · rw [decide_eq_true hh, if_pos hh] at KP
        have HEq2 : Hid (looseM L = (d ++ [⟨c, looseA (Lib.cut t.tail [41]).1⟩]) ++ looseM (Lib.cut t.tail [41]).2.1) := Lib.hid (by rw [HEq.out, looseM_arg hh]; simp)
        have htt : t.tail.length ≤ t.length := by simp
        have hbt : (bA t.tail).size = t.tail.length := by rw [← lA_len, lA_bA]
        have KC := Lib.hid (cut_lib (bA t.tail) 41 (by omega) W1 HE1.out)
        rw [lA_bA] at KC
        have hcl := cut_len t.tail 41
        have hcr := cut_rest t.tail 41
        have hti : (bA (Lib.cut t.tail [41]).1).size ≤ 50000 := by rw [← lA_len, lA_bA]; omega
        have hto : (bA (Lib.cut t.tail [41]).2.1).size ≤ t.length := by rw [← lA_len, lA_bA]; omega
        have KA := Lib.hid (fun w he => largs_any (bA (Lib.cut t.tail [41]).1) hti w he)
        rw [lA_bA] at KA
        have HLo : Hid (lA (bA (Lib.cut t.tail [41]).2.1) = (Lib.cut t.tail [41]).2.1) := Lib.hid (lA_bA _)
        generalize (Lib.cut t.tail [41]).1 = si at HEq2 KC KA hti
        generalize (Lib.cut t.tail [41]).2.1 = so at HEq2 KC hto HLo
        generalize (Lib.cut t.tail [41]).2.2 = sb at KC
        generalize bA so = SO at KC hto HLo
        generalize bA si = SI at KC KA hti
        generalize bA t.tail = ST at KP KC
        clear hcl hcr hbt htt hM
        go_wp2_with fail
        rw [← hW1]
        clear hW1
        refine KP.out.mono ?_
        rintro e wx ⟨rfl, rfl⟩
        go_wp2_with fail
        refine KC.out.mono ?_
        rintro e W2 ⟨rfl, hb⟩
        have N2 := (hb.block wr.heap.size (by omega)).trans N1
        have B2 := Lib.hid (B1.trans (hb.mono B1.size))
        have HE2 := Lib.hid (HE1.out.later hb)
        have Z2 := hb.size
        clear hb
        go_wp2_with fail
        refine (KA.out _ HE2.out).mono ?_
        rintro e W3 ⟨v', rfl, hb, ho⟩
        have N3 := (hb.block wr.heap.size (by omega)).trans N2
        have B3 := Lib.hid (B2.out.trans (hb.mono B2.out.size))
        have Z3 := hb.size
        have HO3 := Lib.hid ho
        obtain ⟨p2, n2, c2, rfl⟩ : ∃ p n c, v' = .slice p n c := by
          rcases nilOr_of_owned ho with h | ⟨ad, n, c, h⟩
          · exact ⟨_, _, _, h⟩
          · exact ⟨_, _, _, h⟩
        have q0 := cell_two0 N3
        have q1 := cell_two1 N3
        have f1 : W3.frozen? ⟨wr.heap.size, 1, none⟩ = false := by simp [World.frozen?, N3]
        have l3 := lt_of_block N3
        have BX : Hid (Below wr.heap.size wr ((W3.setCell ⟨wr.heap.size, 1, none⟩ (.slice p2 n2 c2)).alloc (.cells #[.int .u8 c.toNat, .slice p2 n2 c2] 27))) := Lib.hid ((B3.out.setCell (Nat.le_refl _) _).alloc (by simp; exact B3.out.size) _)
        have P5 := Lib.hid (l_own_later HMF.out.row BX.out)
        have A5 : Hid (((W3.setCell ⟨wr.heap.size, 1, none⟩ (.slice p2 n2 c2)).alloc (.cells #[.int .u8 c.toNat, .slice p2 n2 c2] 27)).ownsRow wr.heap.size 3 1 (.slice p2 n2 c2) (looseA si).length (valsL (looseA si))) := Lib.hid (by
          refine ((ownsRow_setCell_other (owns_mono ho (by omega)) ?_ _).alloc _)
          intro e
          have := (owns_lt ho _ e).1
          simp at this; omega)
        have hdl : d.length ≤ 50000 := by omega
        clear hb ho N1 N2 N3 B1
        obtain ⟨n, hn⟩ : ∃ n, d.length = n := ⟨_, rfl⟩
        rw [hn] at hdl P5
        have HN := Lib.hid hn
        clear hn
        go_wp2_with (at_builtin; refine wpList_append_own_at _ rfl _ _ 30 rfl w.heap.size 27 j0 (.agg #[.int .u8 0, .slice none 0 0]) 2 32 Tryd.underlying30 hj hy0 hy1 hy2 rfl (by decide) u3 n (modC d vs) rfl P5.out ⟨W3.heap.size, 0, none⟩ 1 1 [.int .u8 c.toNat, .slice p2 n2 c2] rfl rfl (fun j u h => by have h9 := two_new (W3.setCell ⟨wr.heap.size, 1, none⟩ (.slice p2 n2 c2)) (.int .u8 c.toNat) (.slice p2 n2 c2) 27 j u h; simpa using h9) (by simp [Value.oneCell']) (by rw [HM.out]; omega) (by omega) (by simp; omega) ?_; intro v2 w5 ho2 hg2 hn2 hb2)
        have M5 := Lib.hid (modFr_snoc (m := ⟨c, looseA si⟩) HMF.out hsz BX.out A5.out (by rw [HN.out]; exact ho2) hg2 hb2)
        have BW : Hid (Below w.heap.size w w5) := Lib.hid ((HS.out.below.trans (BX.out.mono hsz)).grown hg2 (by have := BX.out.size; omega) (fun j e => (owns_lt HMF.out.row j e).1))
        have HT : Hid (LsAt w L (d ++ [⟨c, looseA si⟩]) SO v2 w5) := Lib.hid ⟨by rw [HEq2.out, HLo.out], by rw [List.length_append, List.length_singleton]; have := HN.out; omega, BW.out, _, M5.out⟩
        clear ho2 hg2 hn2 hb2
        go_wp2_with fail
        go_roundw
        case rel => exact ⟨_, SO, rfl, HT.out⟩
        case measure => simp; omega
      · have HEq2 : Hid (looseM L = (d ++ [⟨c, []⟩]) ++ looseM t) := Lib.hid (by rw [HEq.out, looseM_bare hh]; simp)
        rw [decide_eq_false hh, if_neg hh] at KP
        have HLo := Lib.hid ht
        have hto := hsz2
        have BX : Hid (Below wr.heap.size wr (W1.alloc (.cells #[.int .u8 c.toNat, .slice none 0 0] 27))) := Lib.hid (B1.alloc B1.size _)
        have P5 := Lib.hid (l_own_later HMF.out.row BX.out)
        have Z2 : wr.heap.size < W1.heap.size := by omega
        clear Z1
        have A5 : Hid ((W1.alloc (.cells #[.int .u8 c.toNat, .slice none 0 0] 27)).ownsRow wr.heap.size 3 1 (.slice none 0 0) 0 (valsL [])) := Lib.hid (World.ownsRow_nil _ _ _ _)
        have q0 := cell_two0 N1
        have q1 := cell_two1 N1
        have l1 := lt_of_block N1
        have hdl : d.length ≤ 50000 := by omega
        clear hM N1 B1
        obtain ⟨n, hn⟩ : ∃ n, d.length = n := ⟨_, rfl⟩
        rw [hn] at hdl P5
        have HN := Lib.hid hn
        clear hn
        go_wp2_with fail
        rw [← hW1]
        clear hW1
        refine KP.out.mono ?_
        rintro e wx ⟨rfl, hwx⟩
        rw [← hwx]
        clear hwx
        go_wp2_with (at_builtin; refine wpList_append_own_at _ rfl _ _ 30 rfl w.heap.size 27 j0 (.agg #[.int .u8 0, .slice none 0 0]) 2 32 Tryd.underlying30 hj hy0 hy1 hy2 rfl (by decide) u3 n (modC d vs) rfl P5.out ⟨W1.heap.size, 0, none⟩ 1 1 [.int .u8 c.toNat, .slice none 0 0] rfl rfl (two_new _ _ _ _) (by simp [Value.oneCell']) (by rw [HM.out]; omega) (by omega) (by simp; omega) ?_; intro v2 w5 ho2 hg2 hn2 hb2)
        have M5 := Lib.hid (modFr_snoc (m := ⟨c, []⟩) HMF.out hsz BX.out A5.out (by rw [HN.out]; exact ho2) hg2 hb2)
        have BW : Hid (Below w.heap.size w w5) := Lib.hid ((HS.out.below.trans (BX.out.mono hsz)).grown hg2 (by have := BX.out.size; omega) (fun j e => (owns_lt HMF.out.row j e).1))
        have HT : Hid (LsAt w L (d ++ [⟨c, []⟩]) (r.extract 1 r.size) v2 w5) := Lib.hid ⟨by rw [HEq2.out, HLo.out], by rw [List.length_append, List.length_singleton]; have := HN.out; omega, BW.out, _, M5.out⟩
        clear ho2 hg2 hn2 hb2
        go_wp2_with fail
        go_roundw
        case rel => exact ⟨_, r.extract 1 r.size, rfl, HT.out⟩
        case measure => simp; omega
end Go.Proofs.YtjjjopopalcokaaDoor
