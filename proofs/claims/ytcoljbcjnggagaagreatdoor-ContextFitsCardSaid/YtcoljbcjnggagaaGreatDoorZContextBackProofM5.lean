/-
  Texts of the proof, merged: ZWordLsB, ZWordTx, ZWordTxB, ZWordPs, ZRewMath.
-/
import Derived.Test.YtcoljbcjnggagaaGreatDoorZContextBackProofM4
import Derived.Test.YtcoljbcjnggagaaGreatDoorZContextBackProofM3
import Derived.Lib.FrozenHead2
import Derived.Test.YtcoljbcjnggagaaGreatDoorZContextBackProofM1
namespace Go.Proofs.YtcoljbcjnggagaaGreatDoor
open Go.RowKit
open WM
set_option linter.unusedVariables false
set_option linter.unusedSimpArgs false

/-- Where loose stands. -/
structure LsAt (w : World) (s : Bs) (d : List Md) (r : ByteArray) (v : Value) (wr : World) : Prop where
  eq : looseM s = d ++ looseM (lA r)
  few : d.length + r.size ≤ s.length
  below : Below w.heap.size w wr
  own : ∃ vs, ModFr wr w.heap.size v d vs
/-- How loose ends. -/
def LsEnd (l : List Md) (w : World) (e : Ending) (w' : World) : Prop := ∃ v vs, e = .returned v ∧ Below w.heap.size w w' ∧ ModFr w' w.heap.size v l vs
set_option maxRecDepth 100000 in
set_option maxHeartbeats 3200000 in
theorem loose_any (s : ByteArray) (hs : s.size ≤ 50000) (w : World) (he : Env w) :
    Calls Tryz.prog 25 #[.string s] w (LsEnd (looseM (lA s)) w) := by
  have HEn := Lib.hid he
  obtain ⟨j0, hj, hy0, hy1, hy2⟩ := info_parts info_mod
  have HM : Hid (maxLen = 9223372036854775807) := Lib.hid rfl
  have S0 : Hid (LsAt w (lA s) [] s (.slice none 0 0) w) := Lib.hid ⟨rfl, by rw [lA_len]; simp, Below.refl _ _, [], modFr_nil _ _⟩
  have hL := lA_len s
  have hL2 : (lA s).length ≤ 50000 := by omega
  generalize lA s = L at S0 hL2 ⊢
  clear he hL hs
  go_enter Tryz.func25, Tryz.ntmps25
  go_wp2_with fail
  go_loopw [0, 3] (fun x v wr => ∃ d r, x = .string r ∧ LsAt w L d r v wr) (fun x _ _ => match x with | .string r => r.size | _ => 0)
  case atStart => exact ⟨[], s, rfl, S0.out⟩
  case round =>
    obtain ⟨d, r, rfl, hS⟩ := hrel
    have HS := Lib.hid hS
    have n1 := hS.few
    have hsz := hS.below.size
    clear hS
    rcases hr : lA r with _ | ⟨c, t⟩
    · obtain rfl : r = ⟨#[]⟩ := lA_inj (by rw [hr]; rfl)
      have HF : Hid (LsEnd (looseM L) w (.returned u3) wr) := Lib.hid (by
        obtain ⟨vs, hm⟩ := HS.out.own
        have e := HS.out.eq
        rw [hr, looseM_nil, List.append_nil] at e
        exact ⟨_, vs, rfl, HS.out.below, by rw [e]; exact hm⟩)
      go_wp2_with fail
      go_ret
      exact HF.out
    · have hsz1 := lA_len r
      rw [hr] at hsz1
      have h0 : 0 < r.size := by rw [← hsz1]; simp
      have hc : r[0] = c := by
        have := lA_get r 0 h0 (by rw [hr]; simp)
        rw [← this]
        simp [hr]
      have hne : r.toList.isEmpty = false := by
        rw [ByteArray.toList_eq]
        have : r.data.toList = c :: t := hr
        rw [this]; rfl
      have ht : lA (r.extract 1 r.size) = t := by
        unfold lA at hr ⊢
        have h9 : r.size - 1 = t.length := by
          have : (c :: t).length = r.size := hsz1
          simp at this; omega
        rw [ByteArray.data_extract, Array.toList_extract, List.extract_eq_take_drop, hr, h9]
        show (List.drop 1 (c :: t)).take t.length = t
        simp
      have hsz2 : (r.extract 1 r.size).size = t.length := by rw [← lA_len, ht]
      have htl : t.length + 1 = r.size := by simpa using hsz1
      obtain ⟨vs, hM⟩ := HS.out.own
      have HMF := Lib.hid hM
      have HEq := Lib.hid HS.out.eq
      rw [hr] at HEq
      obtain ⟨W1, hW1⟩ : ∃ W, W = wr.alloc (.cells #[.int .u8 c.toNat, .slice none 0 0] 45) := ⟨_, rfl⟩
      have N1 : W1.heap[wr.heap.size]? = some (.cells #[.int .u8 c.toNat, .slice none 0 0] 45 (0, 0)) := by rw [hW1]; exact heap_alloc_new _ _
      have B1 : Below wr.heap.size wr W1 := by rw [hW1]; exact (Below.refl _ _).alloc (Nat.le_refl _) _
      have Z1 : W1.heap.size = wr.heap.size + 1 := by rw [hW1]; simp
      have HE1 := Lib.hid (HEn.out.later (HS.out.below.trans (B1.mono hsz)))
      have KP := Lib.hid (prefix_lib (r.extract 1 r.size) 40 W1)
      rw [ht] at KP
      by_cases hh : t.head? = some 40
      · rw [decide_eq_true hh, if_pos hh] at KP
        have HEq2 : Hid (looseM L = (d ++ [⟨c, looseA (Lib.cut t.tail [41]).1⟩]) ++ looseM (Lib.cut t.tail [41]).2.1) := Lib.hid (by rw [HEq.out, looseM_arg hh]; simp)
        have htt : t.tail.length ≤ t.length := by simp
        have hbt : (bA t.tail).size = t.tail.length := by rw [← lA_len, lA_bA]
        have KC := Lib.hid (cut_lib (bA t.tail) 41 (by omega) W1 HE1.out)
        rw [lA_bA] at KC
        have hcl := cut_len t.tail 41
        have hcr := cut_rest t.tail 41
        have hti : (bA (Lib.cut t.tail [41]).1).size ≤ 50000 := by rw [← lA_len, lA_bA]; omega
        have hto : (bA (Lib.cut t.tail [41]).2.1).size ≤ t.length := by rw [← lA_len, lA_bA]; omega
        have KA := Lib.hid (fun w he => largs_any (bA (Lib.cut t.tail [41]).1) hti w he)
        rw [lA_bA] at KA
        have HLo : Hid (lA (bA (Lib.cut t.tail [41]).2.1) = (Lib.cut t.tail [41]).2.1) := Lib.hid (lA_bA _)
        generalize (Lib.cut t.tail [41]).1 = si at HEq2 KC KA hti
        generalize (Lib.cut t.tail [41]).2.1 = so at HEq2 KC hto HLo
        generalize (Lib.cut t.tail [41]).2.2 = sb at KC
        generalize bA so = SO at KC hto HLo
        generalize bA si = SI at KC KA hti
        generalize bA t.tail = ST at KP KC
        clear hcl hcr hbt htt hM
        go_wp2_with fail
        rw [← hW1]
        clear hW1
        refine KP.out.mono ?_
        rintro e wx ⟨rfl, rfl⟩
        go_wp2_with fail
        refine KC.out.mono ?_
        rintro e W2 ⟨rfl, hb⟩
        have N2 := (hb.block wr.heap.size (by omega)).trans N1
        have B2 := Lib.hid (B1.trans (hb.mono B1.size))
        have HE2 := Lib.hid (HE1.out.later hb)
        have Z2 := hb.size
        clear hb
        go_wp2_with fail
        refine (KA.out _ HE2.out).mono ?_
        rintro e W3 ⟨v', rfl, hb, ho⟩
        have N3 := (hb.block wr.heap.size (by omega)).trans N2
        have B3 := Lib.hid (B2.out.trans (hb.mono B2.out.size))
        have Z3 := hb.size
        have HO3 := Lib.hid ho
        obtain ⟨p2, n2, c2, rfl⟩ : ∃ p n c, v' = .slice p n c := by
          rcases nilOr_of_owned ho with h | ⟨ad, n, c, h⟩
          · exact ⟨_, _, _, h⟩
          · exact ⟨_, _, _, h⟩
        have q0 := cell_two0 N3
        have q1 := cell_two1 N3
        have f1 : W3.frozen? ⟨wr.heap.size, 1, none⟩ = false := by simp [World.frozen?, N3]
        have l3 := lt_of_block N3
        have BX : Hid (Below wr.heap.size wr ((W3.setCell ⟨wr.heap.size, 1, none⟩ (.slice p2 n2 c2)).alloc (.cells #[.int .u8 c.toNat, .slice p2 n2 c2] 45))) := Lib.hid ((B3.out.setCell (Nat.le_refl _) _).alloc (by simp; exact B3.out.size) _)
        have P5 := Lib.hid (l_own_later HMF.out.row BX.out)
        have A5 : Hid (((W3.setCell ⟨wr.heap.size, 1, none⟩ (.slice p2 n2 c2)).alloc (.cells #[.int .u8 c.toNat, .slice p2 n2 c2] 45)).ownsRow wr.heap.size 3 1 (.slice p2 n2 c2) (looseA si).length (valsL (looseA si))) := Lib.hid (by
          refine ((ownsRow_setCell_other (owns_mono ho (by omega)) ?_ _).alloc _)
          intro e
          have := (owns_lt ho _ e).1
          simp at this; omega)
        have hdl : d.length ≤ 50000 := by omega
        clear hb ho N1 N2 N3 B1
        obtain ⟨n, hn⟩ : ∃ n, d.length = n := ⟨_, rfl⟩
        rw [hn] at hdl P5
        have HN := Lib.hid hn
        clear hn
        go_wp2_with (at_builtin; refine wpList_append_own_at _ rfl _ _ 30 rfl w.heap.size 45 j0 (.agg #[.int .u8 0, .slice none 0 0]) 2 32 Tryz.underlying30 hj hy0 hy1 hy2 rfl (by decide) u3 n (modC d vs) rfl P5.out ⟨W3.heap.size, 0, none⟩ 1 1 [.int .u8 c.toNat, .slice p2 n2 c2] rfl rfl (fun j u h => by have h9 := two_new (W3.setCell ⟨wr.heap.size, 1, none⟩ (.slice p2 n2 c2)) (.int .u8 c.toNat) (.slice p2 n2 c2) 45 j u h; simpa using h9) (by simp [Value.oneCell']) (by rw [HM.out]; omega) (by omega) (by simp; omega) ?_; intro v2 w5 ho2 hg2 hn2 hb2)
        have M5 := Lib.hid (modFr_snoc (m := ⟨c, looseA si⟩) HMF.out hsz BX.out A5.out (by rw [HN.out]; exact ho2) hg2 hb2)
        have BW : Hid (Below w.heap.size w w5) := Lib.hid ((HS.out.below.trans (BX.out.mono hsz)).grown hg2 (by have := BX.out.size; omega) (fun j e => (owns_lt HMF.out.row j e).1))
        have HT : Hid (LsAt w L (d ++ [⟨c, looseA si⟩]) SO v2 w5) := Lib.hid ⟨by rw [HEq2.out, HLo.out], by rw [List.length_append, List.length_singleton]; have := HN.out; omega, BW.out, _, M5.out⟩
        clear ho2 hg2 hn2 hb2
        go_wp2_with fail
        go_roundw
        case rel => exact ⟨_, SO, rfl, HT.out⟩
        case measure => simp; omega
      · have HEq2 : Hid (looseM L = (d ++ [⟨c, []⟩]) ++ looseM t) := Lib.hid (by rw [HEq.out, looseM_bare hh]; simp)
        rw [decide_eq_false hh, if_neg hh] at KP
        have HLo := Lib.hid ht
        have hto := hsz2
        have BX : Hid (Below wr.heap.size wr (W1.alloc (.cells #[.int .u8 c.toNat, .slice none 0 0] 45))) := Lib.hid (B1.alloc B1.size _)
        have P5 := Lib.hid (l_own_later HMF.out.row BX.out)
        have Z2 : wr.heap.size < W1.heap.size := by omega
        clear Z1
        have A5 : Hid ((W1.alloc (.cells #[.int .u8 c.toNat, .slice none 0 0] 45)).ownsRow wr.heap.size 3 1 (.slice none 0 0) 0 (valsL [])) := Lib.hid (World.ownsRow_nil _ _ _ _)
        have q0 := cell_two0 N1
        have q1 := cell_two1 N1
        have l1 := lt_of_block N1
        have hdl : d.length ≤ 50000 := by omega
        clear hM N1 B1
        obtain ⟨n, hn⟩ : ∃ n, d.length = n := ⟨_, rfl⟩
        rw [hn] at hdl P5
        have HN := Lib.hid hn
        clear hn
        go_wp2_with fail
        rw [← hW1]
        clear hW1
        refine KP.out.mono ?_
        rintro e wx ⟨rfl, hwx⟩
        rw [← hwx]
        clear hwx
        go_wp2_with (at_builtin; refine wpList_append_own_at _ rfl _ _ 30 rfl w.heap.size 45 j0 (.agg #[.int .u8 0, .slice none 0 0]) 2 32 Tryz.underlying30 hj hy0 hy1 hy2 rfl (by decide) u3 n (modC d vs) rfl P5.out ⟨W1.heap.size, 0, none⟩ 1 1 [.int .u8 c.toNat, .slice none 0 0] rfl rfl (two_new _ _ _ _) (by simp [Value.oneCell']) (by rw [HM.out]; omega) (by omega) (by simp; omega) ?_; intro v2 w5 ho2 hg2 hn2 hb2)
        have M5 := Lib.hid (modFr_snoc (m := ⟨c, []⟩) HMF.out hsz BX.out A5.out (by rw [HN.out]; exact ho2) hg2 hb2)
        have BW : Hid (Below w.heap.size w w5) := Lib.hid ((HS.out.below.trans (BX.out.mono hsz)).grown hg2 (by have := BX.out.size; omega) (fun j e => (owns_lt HMF.out.row j e).1))
        have HT : Hid (LsAt w L (d ++ [⟨c, []⟩]) (r.extract 1 r.size) v2 w5) := Lib.hid ⟨by rw [HEq2.out, HLo.out], by rw [List.length_append, List.length_singleton]; have := HN.out; omega, BW.out, _, M5.out⟩
        clear ho2 hg2 hn2 hb2
        go_wp2_with fail
        go_roundw
        case rel => exact ⟨_, r.extract 1 r.size, rfl, HT.out⟩
        case measure => simp; omega
end Go.Proofs.YtcoljbcjnggagaaGreatDoor
namespace Go.Proofs.YtcoljbcjnggagaaGreatDoor
open Go.RowKit
open WM
set_option linter.unusedVariables false
set_option linter.unusedSimpArgs false

/-- A builder under way. -/
def Bon (b : Nat) (acc : Bs) (w : World) : Prop := Lib.IsBuilderF 61 5 b b (Lib.byteCells acc) w
theorem Bon.of {b : Nat} {acc : Bs} {w : World} (h : Bld b b (Lib.byteCells acc) w) : Bon b acc w := .inr h
theorem Bon.fresh (w : World) : Bon w.heap.size [] (w.alloc (.cells #[.pointer none, .slice none 0 0] 61)) := Lib.IsBuilderF.of (Lib.fresh_isBuilder 61 5 w)
theorem ownsF_later {w w1 : World} {base n size : Nat} {e : TypeId} {v : Value} {xs : List Value} (h : w.ownsRowF base e size v n xs) (hb : Below w.heap.size w w1) : w1.ownsRowF base e size v n xs := by
  refine ⟨h.1, ?_⟩
  rcases h.2 with h1 | ⟨g, cap, cur, fz, h1, h2, h3, h4⟩
  · exact .inl h1
  · exact .inr ⟨g, cap, cur, fz, h1, h2, (hb.block g (lt_of_block h3)).trans h3, h4⟩
theorem Bon.later {b : Nat} {acc : Bs} {w w1 : World} (h : Bon b acc w) (hb : Below w.heap.size w w1) : Bon b acc w1 := by
  rcases h with ⟨h0, v, h1, h2, h3⟩ | ⟨h0, v, h1, h2, h3⟩
  · exact .inl ⟨h0, v, (hb.block b (lt_of_block h1)).trans h1, ownsF_later h2 hb, h3⟩
  · exact .inr ⟨h0, v, (hb.block b (lt_of_block h1)).trans h1, ownsF_later h2 hb, h3⟩
theorem Bon.lt {b : Nat} {acc : Bs} {w : World} (h : Bon b acc w) : b < w.heap.size := by
  rcases h with ⟨h0, v, h1, _⟩ | ⟨h0, v, h1, _⟩ <;> exact lt_of_block h1
theorem wbyte (b : Nat) (acc : Bs) (c : UInt8) (w : World) (h : Bon b acc w) (hl : acc.length ≤ 1000000) :
    Calls Tryz.prog 27 #[.pointer (some ⟨b, 0, none⟩), .int .u8 c.toNat] w fun e w' => e = .returned .nilIface ∧ Bon b (acc ++ [c]) w' ∧ Below b w w' :=
  (byte_any b b (Lib.byteCells acc) c.toNat w h (by rw [Lib.byteCells_length]; exact hl) (Nat.le_of_lt h.lt)).mono fun e w' ⟨he, h1, h2⟩ => ⟨he, Bon.of (by rw [Lib.byteCells_append]; exact h1), h2.1⟩
theorem wstr (b : Nat) (acc s : Bs) (w : World) (h : Bon b acc w) (hl : acc.length + s.length ≤ 1000000) :
    Calls Tryz.prog 28 #[.pointer (some ⟨b, 0, none⟩), .string (bA s)] w fun e w' => (∃ x, e = .returned x) ∧ Bon b (acc ++ s) w' ∧ Below b w w' := by
  have hs : (bA s).size = s.length := by rw [← lA_len, lA_bA]
  refine (wstr_any b b (Lib.byteCells acc) (bA s) w h (by rw [Lib.byteCells_length, hs]; omega) (Nat.le_of_lt h.lt)).mono fun e w' ⟨he, h1, h2⟩ => ⟨⟨_, he⟩, Bon.of ?_, h2⟩
  rw [Lib.byteCells_append]
  exact h1
theorem wlen (b : Nat) (acc : Bs) (w : World) (h : Bon b acc w) :
    Calls Tryz.prog 30 #[.pointer (some ⟨b, 0, none⟩)] w fun e w' => e = .returned (.int .i64 acc.length) ∧ w' = w :=
  (Tryz.Builder_Len_f b b (Lib.byteCells acc) w h).mono fun e w' ⟨he, h1⟩ => ⟨by rw [he, Lib.byteCells_length], h1⟩
theorem wstring (b : Nat) (acc : Bs) (w : World) (h : Bon b acc w) :
    Calls Tryz.prog 31 #[.pointer (some ⟨b, 0, none⟩)] w fun e w' => e = .returned (.string (bA acc)) ∧ Below b w w' :=
  (Tryz.Builder_String_any_f b b acc w h (Nat.le_of_lt h.lt)).mono fun e w' ⟨he, _, h2⟩ => ⟨he, h2⟩
/-- Numerals as the cells of a row of strings. -/
def strC (l : List Int) : List Value := l.map fun x => .string (bA (Lib.itoa x))
theorem strC_snoc {l : List Int} {k : Nat} (h : k < l.length) : strC (l.take (k + 1)) = strC (l.take k) ++ [.string (bA (Lib.itoa l[k]))] := by
  unfold strC; rw [List.take_succ_eq_append_getElem h, List.map_append]; rfl
theorem str_info : (Tryz.prog.info? 9).map (fun i => (i.zero, i.size, i.bytes)) = some (some (.string ⟨#[]⟩), 1, 16) := by kernel_rfl
theorem join_lib {base : Nat} {w : World} {x : Int} {l : List Int} {v : Value} (h : w.ownsRow base 9 1 v (x :: l).length (strC (x :: l))) (hl : l.length ≤ 10) (hr : ∀ y ∈ x :: l, -1000000000 ≤ y ∧ y ≤ 1000000000) :
    Calls Tryz.prog 59 #[v, .string ⟨#[44]⟩] w fun e w' => e = .returned (.string (bA (Lib.itoa x ++ argsT l))) ∧ Below w.heap.size w w' := by
  rcases h.2 with ⟨rfl, h0⟩ | ⟨g, cap, cur, rfl, hb, hg, hn, hm, hs, ht⟩
  · simp at h0
  · have hc : ∀ (j : Nat) (y : ByteArray), ((x :: l).map fun x => bA (Lib.itoa x))[j]? = some y → w.cell? ⟨g, 0 + j, none⟩ = some (.string y) := by
      intro j y hy
      have e : (strC (x :: l))[j]? = some (.string y) := by
        unfold strC
        rw [List.getElem?_map] at hy ⊢
        cases hl : (x :: l)[j]? with
        | none => rw [hl] at hy; simp at hy
        | some z => rw [hl] at hy; simp only [Option.map_some, Option.some.injEq] at hy ⊢; rw [hy]
      rw [← ht, List.getElem?_take] at e
      split at e
      · simpa [World.cell?, hg] using e
      · simp at e
    have e1 : ((x :: l).map fun x => bA (Lib.itoa x)).map (·.data.toList) = (x :: l).map Lib.itoa := by
      rw [List.map_map]; rfl
    have e2 : Lib.join (((x :: l).map fun x => bA (Lib.itoa x)).map (·.data.toList)) (ByteArray.mk #[44]).data.toList = Lib.itoa x ++ argsT l := by
      rw [e1]; exact join_args x l
    have hlen : (Lib.itoa x ++ argsT l).length ≤ 1000 := by
      have := itoa_len x (hr x (by simp))
      have := argsT_len l fun y hy => hr y (by simp [hy])
      rw [List.length_append]; omega
    have K := Tryz.strings_Join g 0 cap ((x :: l).map fun x => bA (Lib.itoa x)) ⟨#[44]⟩ w hc (lt_of_block hg) (by rw [List.length_map, List.length_cons]; omega) (by rw [List.length_map]; exact hn) (by rw [e2]; omega)
    rw [e2, List.length_map] at K
    exact K.mono fun e w' h => ⟨h.1, h.2⟩
/-- Where written stands. -/
structure WrAt (w : World) (a : List Int) (k : Nat) (v : Value) (wr : World) : Prop where
  hi : k ≤ a.length
  below : Below w.heap.size w wr
  own : wr.ownsRow w.heap.size 9 1 v k (strC (a.take k))
theorem own_later {w w1 : World} {base n size : Nat} {e : TypeId} {v : Value} {xs : List Value} (h : w.ownsRow base e size v n xs) (hb : Below w.heap.size w w1) : w1.ownsRow base e size v n xs := by
  refine ⟨h.1, ?_⟩
  rcases h.2 with h1 | ⟨g, cap, cur, h1, h2, h3, h4⟩
  · exact .inl h1
  · exact .inr ⟨g, cap, cur, h1, h2, (hb.block g (lt_of_block h3)).trans h3, h4⟩
set_option maxRecDepth 100000 in
set_option maxHeartbeats 1600000 in
theorem written_any (x : Int) (l : List Int) (v : Value) (hl : l.length ≤ 10) (hr : ∀ y ∈ x :: l, -1000000000 ≤ y ∧ y ≤ 1000000000) (w : World) (hv : Ints w v (x :: l)) (he : Env w) :
    Calls Tryz.prog 29 #[v] w fun e w' => e = .returned (.string (bA (Lib.itoa x ++ argsT l))) ∧ Below w.heap.size w w' := by
  obtain ⟨p, cap, rfl⟩ := hv.slice
  have KJ := Lib.hid (fun base w v h => join_lib (base := base) (w := w) (v := v) h hl hr)
  have HV := Lib.hid hv
  have HE := Lib.hid he
  have HR := Lib.hid hr
  obtain ⟨i0, hi, hz0, hz1, hz2⟩ := info_parts str_info
  have HM : Hid (maxLen = 9223372036854775807) := Lib.hid rfl
  obtain ⟨a, ha⟩ : ∃ a, x :: l = a := ⟨_, rfl⟩
  have hal : a.length ≤ 11 := by rw [← ha]; simp; omega
  rw [ha] at KJ HV HR ⊢
  clear hv he hr ha
  go_enter Tryz.func29, Tryz.ntmps29
  go_wp2_with fail
  go_loopw [3, 8] (fun v i wr => ∃ k : Nat, i = .int .i64 k ∧ WrAt w a k v wr) (fun _ i _ => a.length - (intOf i).toNat)
  case atStart => exact ⟨0, rfl, Nat.zero_le _, Below.refl _ _, World.ownsRow_nil _ _ _ _⟩
  case round =>
    obtain ⟨k, rfl, hS⟩ := hrel
    have HS := Lib.hid hS
    have n1 := hS.hi
    have hsz := hS.below.size
    clear hS
    by_cases hlt : k < a.length
    · obtain ⟨b, off, cap', hp, e1, lb⟩ := (HV.out.later HS.out.below).at hlt
      obtain rfl : p = some ⟨b, off, none⟩ := by cases hp; rfl
      have k1 : (k : Int) < (a.length : Int) := by omega
      have hrk := HR.out a[k] (List.getElem_mem hlt)
      have KI := Lib.hid (itoa_lib a[k] (by omega) (by omega) wr (HE.out.later HS.out.below))
      have HX := Lib.hid (strC_snoc hlt)
      generalize a[k] = y at e1 KI HX hrk
      clear hp
      go_wp2_with fail
      refine KI.out.mono ?_
      rintro e w1 ⟨rfl, hb⟩
      have P5 := Lib.hid ((own_later HS.out.own hb).alloc (.cells #[.string (bA (Lib.itoa y))] 9))
      have B1 := Lib.hid (HS.out.below.trans (hb.mono hsz))
      have z1 := B1.out.size
      clear hb
      generalize bA (Lib.itoa y) = ys at P5 HX
      go_wp2_with (at_builtin; refine wpList_append_own _ rfl _ _ 98 rfl w.heap.size 9 i0 (.string ⟨#[]⟩) 1 16 Tryz.underlying98 hi hz0 hz1 hz2 rfl (by decide) u3 k (strC (a.take k)) rfl P5.out ⟨w1.heap.size, 0, none⟩ 1 1 [.string ys] rfl rfl (cell_one_new _ _ _) (by simp [Value.oneCell']) (by rw [HM.out]; omega) (by omega) (by simp; omega) ?_; intro v2 w3 ho2 hg2 hn2)
      have T1 : Hid (WrAt w a (k + 1) v2 w3) := Lib.hid ⟨hlt, (B1.out.alloc z1 _).grown hg2 (by simp; omega) (fun j e => (owns_lt P5.out j e).1), by rw [HX.out]; exact ho2⟩
      clear ho2 hg2 hn2
      go_wp2_with fail
      go_roundw
      case rel => exact ⟨k + 1, by go_num, T1.out⟩
      case measure => simp [intOf]; omega
    · have hk : k = a.length := by omega
      have KJ2 := Lib.hid (KJ.out w.heap.size wr u3 (by have := HS.out.own; rw [hk, List.take_length] at this; exact this))
      have k1 : ¬ (k : Int) < (a.length : Int) := by omega
      clear hk
      go_wp2_with fail
      refine KJ2.out.mono ?_
      rintro e w2 ⟨rfl, hb⟩
      have B2 := Lib.hid (HS.out.below.trans (hb.mono hsz))
      clear hb
      go_wp2_with fail
      go_ret
      exact ⟨rfl, B2.out⟩
end Go.Proofs.YtcoljbcjnggagaaGreatDoor
namespace Go.Proofs.YtcoljbcjnggagaaGreatDoor
open Go.RowKit
open WM
set_option linter.unusedVariables false
set_option linter.unusedSimpArgs false

/-- Text's error and text. -/
def tC (l : List Md) : Int := if chk l ≠ 0 then chk l else if 50000 < (txt l).length then 4 else 0
def tS (l : List Md) : Bs := if tC l = 0 then txt l else []
theorem tC_no {l : List Md} (h : chk l ≠ 0) : tC l = chk l ∧ tS l = [] := by
  have e : tC l = chk l := by unfold tC; rw [if_pos h]
  exact ⟨e, by unfold tS; rw [e, if_neg h]⟩
theorem tC_many {l : List Md} (h : chk l = 0) (h2 : 50000 < (txt l).length) : tC l = 4 ∧ tS l = [] := by
  have e : tC l = 4 := by unfold tC; rw [if_neg (by simp [h]), if_pos h2]
  exact ⟨e, by unfold tS; rw [e, if_neg (by decide)]⟩
theorem tC_yes {l : List Md} (h : chk l = 0) (h2 : ¬ 50000 < (txt l).length) : tC l = 0 ∧ tS l = txt l := by
  have e : tC l = 0 := by unfold tC; rw [if_neg (by simp [h]), if_neg h2]
  exact ⟨e, by unfold tS; rw [if_pos e]⟩
theorem bA_nil : bA [] = ByteArray.empty := rfl
theorem ptext_no (v : Value) (l : List Md) (hmax : l.length ≤ 9223372036854775807) (hargs : ∀ m ∈ l, m.a.length ≤ 9223372036854775807) (h0 : chk l ≠ 0) (w : World) (hv : Mods w v l) :
    Calls Tryz.prog 11 #[v] w fun e w' => e = .returned (.tuple #[.string (bA (tS l)), .int .i64 (tC l)]) ∧ Below w.heap.size w w' := by
  have HV := Lib.hid hv
  have HC := Lib.hid (fun w hv => pcheck_any v l hmax hargs w hv)
  rw [(tC_no h0).1, (tC_no h0).2, bA_nil]
  obtain ⟨c, hc⟩ : ∃ c, chk l = c := ⟨_, rfl⟩
  rw [hc] at HC h0 ⊢
  have h1 : (c != 0) = true := by rw [bne_iff_ne]; exact h0
  clear hv hargs h0 hc
  go_enter Tryz.func11, Tryz.ntmps11
  go_wp2_with fail
  refine (HC.out _ HV.out).mono ?_
  rintro e w1 ⟨rfl, hb⟩
  have B1 := Lib.hid hb
  clear hb
  go_wp2_with fail
  go_ret2
  exact ⟨rfl, B1.out⟩
theorem sandwich (s : Bs) : (⟨#[40]⟩ : ByteArray) ++ bA s ++ ⟨#[41]⟩ = bA (40 :: (s ++ [41])) := by
  apply lA_inj
  rw [lA_bA]
  simp [lA, bA, ByteArray.data_append]
theorem txt_pre {l : List Md} (h : ∀ m ∈ l, fineB m = true) (hl : l.length ≤ 2000) (k : Nat) : (txt (l.take k)).length ≤ 120000 := by
  have := txt_len (l.take k) fun m hm => h m (List.mem_of_mem_take hm)
  rw [List.length_take] at this; omega
theorem modT_nil {m : Md} (h : m.a = []) : modT m = [m.c] := by unfold modT; rw [h]
theorem modT_cons {m : Md} {x : Int} {a : List Int} (h : m.a = x :: a) : modT m = [m.c] ++ (40 :: ((Lib.itoa x ++ argsT a) ++ [41])) := by unfold modT; rw [h]; simp
set_option maxRecDepth 100000 in
set_option maxHeartbeats 3200000 in
theorem ptext_yes (v : Value) (l : List Md) (h0 : chk l = 0) (w : World) (hv : Mods w v l) (he : Env w) :
    Calls Tryz.prog 11 #[v] w fun e w' => e = .returned (.tuple #[.string (bA (tS l)), .int .i64 (tC l)]) ∧ Below w.heap.size w w' := by
  have hmax : l.length ≤ 2000 := (chk_zero.1 h0).1
  have hfine : ∀ m ∈ l, fineB m = true := by have := (chk_zero.1 h0).2.1; simpa using this
  have hargs : ∀ m ∈ l, m.a.length ≤ 4 ∧ rngB m.a = true := fun m hm => by
    have := hfine m hm
    unfold fineB at this
    simp only [Bool.and_eq_true, decide_eq_true_eq] at this
    exact ⟨this.1.1.2, this.2⟩
  obtain ⟨p, cap, rfl⟩ := hv.slice
  have HV := Lib.hid hv
  have HEn := Lib.hid he
  have HC := Lib.hid (fun w hv => pcheck_any (.slice p l.length cap) l (by omega) (fun m hm => by have := (hargs m hm).1; omega) w hv)
  have HA := Lib.hid hargs
  have HP := Lib.hid (fun k => txt_pre hfine hmax k)
  have HML := Lib.hid (fun m hm => modT_len (hfine m hm))
  have HY := Lib.hid (fun h => tC_yes h0 h)
  have HN := Lib.hid (fun h => tC_many h0 h)
  rw [h0] at HC
  clear hv he hargs hfine h0
  go_enter Tryz.func11, Tryz.ntmps11
  go_wp2_with fail
  refine (HC.out _ HV.out).mono ?_
  rintro e w1 ⟨rfl, hb⟩
  have B1 := Lib.hid hb
  have HV1 := Lib.hid (HV.out.later hb)
  have HE1 := Lib.hid (HEn.out.later hb)
  have HF := Lib.hid (Bon.fresh w1)
  have HFB : Hid (Below w1.heap.size w1 (w1.alloc (.cells #[.pointer none, .slice none 0 0] 61))) := Lib.hid ((Below.refl _ _).alloc (Nat.le_refl _) _)
  clear hb
  go_wp2_with fail
  go_loopw [14] (fun i wr => ∃ k : Nat, i = .int .i64 k ∧ k ≤ l.length ∧ Below w1.heap.size w1 wr ∧ Bon w1.heap.size (txt (l.take k)) wr) (fun i _ => l.length - (intOf i).toNat)
  case atStart => exact ⟨0, rfl, Nat.zero_le _, HFB.out, HF.out⟩
  case round =>
    obtain ⟨k, rfl, hk, hB, hO⟩ := hrel
    have HB := Lib.hid hB
    have HO := Lib.hid hO
    have lb := hO.lt
    clear hB hO
    by_cases hlt : k < l.length
    · obtain ⟨b, off, cap', q, c, hp, e1, e2, hin, lb1⟩ := HV1.out.at hlt
      obtain rfl : p = some ⟨b, off, none⟩ := by cases hp; rfl
      have e1 := (HB.out.cell (p := ⟨b, off + k * 2, none⟩) lb1).trans e1
      have e2 := (HB.out.cell (p := ⟨b, off + k * 2 + 1, none⟩) lb1).trans e2
      have lbr := Nat.lt_of_lt_of_le lb1 HB.out.size
      have k1 : (k : Int) < (l.length : Int) := by omega
      have hml := HML.out _ (List.getElem_mem hlt)
      have hpl := HP.out k
      have KB := Lib.hid (wbyte w1.heap.size (txt (l.take k)) l[k].c wr HO.out (by omega))
      have HS := Lib.hid (txt_snoc hlt)
      have ha := HA.out _ (List.getElem_mem hlt)
      clear hp
      cases hcase : l[k].a with
      | nil =>
        have hm := modT_nil hcase
        rw [hm] at HS
        have hz : l[k].a.length = 0 := by rw [hcase]; rfl
        rw [hz] at e2
        clear hcase hm hz hin ha hml
        generalize l[k].c = cc at e1 KB HS
        go_wp2_with fail
        refine KB.out.mono ?_
        rintro e w2 ⟨rfl, ho, hb⟩
        have HO2 := Lib.hid ho
        have HB2 := Lib.hid (HB.out.trans hb)
        have e2 := (hb.cell (p := ⟨b, off + k * 2 + 1, none⟩) lb1).trans e2
        have lb2 := Nat.lt_of_lt_of_le lbr hb.size
        clear ho hb
        go_wp2_with fail
        go_roundw
        case rel => exact ⟨k + 1, by go_num, by omega, HB2.out, by rw [HS.out]; exact HO2.out⟩
        case measure => simp [intOf]; omega
      | cons x a =>
        have hm := modT_cons hcase
        rw [hm] at HS hml
        have hz : l[k].a.length = a.length + 1 := by rw [hcase]; rfl
        have hrg := rngB_iff.1 ha.2
        rw [hcase] at hrg
        have hal := ha.1
        rw [hz] at e2 hal hin
        rw [hcase] at hin
        have HIn := Lib.hid hin
        have HW := Lib.hid (fun w2 hv he => written_any x a (.slice q (a.length + 1) c) (by omega) hrg w2 hv he)
        have z0 : (0 : Int) < ((a.length + 1 : Nat) : Int) := by omega
        have HSw := Lib.hid (sandwich (Lib.itoa x ++ argsT a))
        clear hcase hm hz hin ha hrg
        generalize l[k].c = cc at e1 KB HS hml
        obtain ⟨s, hs⟩ : ∃ s, Lib.itoa x ++ argsT a = s := ⟨_, rfl⟩
        rw [hs] at HW HS HSw hml
        have hsl : s.length ≤ 60 := by simp at hml; omega
        obtain ⟨S, hS⟩ : ∃ S, bA s = S := ⟨_, rfl⟩
        have hSz : S.size ≤ 60 := by rw [← hS, ← lA_len, lA_bA]; exact hsl
        rw [hS] at HW HSw
        clear hs hS
        generalize a.length + 1 = an at e2 HW z0 HIn hal
        go_wp2_with fail
        refine KB.out.mono ?_
        rintro e w2 ⟨rfl, ho, hb⟩
        have HO2 := Lib.hid ho
        have HB2 := Lib.hid (HB.out.trans hb)
        have e2 := (hb.cell (p := ⟨b, off + k * 2 + 1, none⟩) lb1).trans e2
        have lb2 := Nat.lt_of_lt_of_le lbr hb.size
        clear ho
        go_wp2_with fail
        refine (HW.out w2 (HIn.out.later HB2.out) (HE1.out.later HB2.out)).mono ?_
        rintro e w3 ⟨rfl, hb⟩
        have HO3 := Lib.hid (HO2.out.later hb)
        have HB3 := Lib.hid (HB2.out.trans (hb.mono HB2.out.size))
        have KS := Lib.hid (wstr w1.heap.size (txt (l.take k) ++ [cc]) (40 :: (s ++ [41])) w3 HO3.out (by simp; omega))
        rw [← HSw.out] at KS
        clear hb HSw
        go_wp2_with fail
        refine KS.out.mono ?_
        rintro e w4 ⟨⟨xx, rfl⟩, ho, hb⟩
        have HO4 := Lib.hid ho
        have HB4 := Lib.hid (HB3.out.trans hb)
        clear ho hb
        go_wp2_with fail
        go_roundw
        case rel => exact ⟨k + 1, by go_num, by omega, HB4.out, by rw [HS.out, ← List.append_assoc]; exact HO4.out⟩
        case measure => simp [intOf]; omega
    · have hkl : k = l.length := by omega
      have k1 : ¬ (k : Int) < (l.length : Int) := by omega
      rw [hkl, List.take_length] at HO
      have KL := Lib.hid (wlen w1.heap.size (txt l) wr HO.out)
      have KS := Lib.hid (wstring w1.heap.size (txt l) wr HO.out)
      have HB2 := Lib.hid (B1.out.trans (HB.out.mono B1.out.size))
      have hpl := HP.out l.length
      rw [List.take_length] at hpl
      clear hkl HP
      by_cases hlen : 50000 < (txt l).length
      · have HE2 := Lib.hid (HN.out hlen)
        have c1 : (50000 : Int) < ((txt l).length : Int) := by omega
        clear hlen
        generalize (txt l).length = tl at KL c1 hpl
        go_wp2_with fail
        refine KL.out.mono ?_
        rintro e wx ⟨rfl, rfl⟩
        go_wp2_with fail
        go_ret2
        refine ⟨?_, HB2.out⟩
        rw [HE2.out.1, HE2.out.2]; rfl
      · have HE2 := Lib.hid (HY.out hlen)
        have c1 : ¬ (50000 : Int) < ((txt l).length : Int) := by omega
        clear hlen
        generalize (txt l).length = tl at KL c1 hpl
        go_wp2_with fail
        refine KL.out.mono ?_
        rintro e wx ⟨rfl, rfl⟩
        go_wp2_with fail
        refine KS.out.mono ?_
        rintro e w2 ⟨rfl, hb⟩
        have HB3 := Lib.hid (HB2.out.trans (hb.mono (Nat.le_trans B1.out.size (Nat.le_refl _))))
        clear hb
        go_wp2_with fail
        go_ret2
        refine ⟨?_, HB3.out⟩
        rw [HE2.out.1, HE2.out.2]; rfl
theorem ptext_any (v : Value) (l : List Md) (hmax : l.length ≤ 9223372036854775807) (hargs : ∀ m ∈ l, m.a.length ≤ 9223372036854775807) (w : World) (hv : Mods w v l) (he : Env w) :
    Calls Tryz.prog 11 #[v] w fun e w' => e = .returned (.tuple #[.string (bA (tS l)), .int .i64 (tC l)]) ∧ Below w.heap.size w w' := by
  by_cases h0 : chk l = 0
  · exact ptext_yes v l h0 w hv he
  · exact ptext_no v l hmax hargs h0 w hv
end Go.Proofs.YtcoljbcjnggagaaGreatDoor
namespace Go.Proofs.YtcoljbcjnggagaaGreatDoor
open Go.RowKit
open WM
set_option linter.unusedVariables false
set_option linter.unusedSimpArgs false

theorem looseM_len : ∀ (n : Nat) (s : Bs), s.length ≤ n → (looseM s).length ≤ s.length ∧ ∀ m ∈ looseM s, m.a.length ≤ s.length + 1 := by
  intro n
  induction n with
  | zero =>
    intro s hs
    have : s = [] := List.length_eq_zero_iff.1 (by omega)
    subst this; rw [looseM_nil]; simp
  | succ n ih =>
    intro s hs
    cases s with
    | nil => rw [looseM_nil]; simp
    | cons c t =>
      simp at hs
      by_cases h : t.head? = some 40
      · rw [looseM_arg h]
        have h1 := cut_rest t.tail 41
        have h2 := cut_len t.tail 41
        have h3 : t.tail.length ≤ t.length := by simp
        obtain ⟨i1, i2⟩ := ih (Lib.cut t.tail [41]).2.1 (by omega)
        refine ⟨by simp; omega, fun m hm => ?_⟩
        rcases List.mem_cons.1 hm with e | e
        · subst e
          have h4 := pcs_len (Lib.cut t.tail [41]).1
          show (looseA (Lib.cut t.tail [41]).1).length ≤ _
          rw [looseA_length]; simp; omega
        · have := i2 m e; simp; omega
      · rw [looseM_bare h]
        obtain ⟨i1, i2⟩ := ih t (by omega)
        refine ⟨by simp; omega, fun m hm => ?_⟩
        rcases List.mem_cons.1 hm with e | e
        · subst e; simp
        · have := i2 m e; simp; omega
/-- Parse's error and word. -/
def pC (s : Bs) : Int := if 50000 < s.length then 12 else if (prs s).isSome = true then 0 else 12
def pL (s : Bs) : List Md := if 50000 < s.length then [] else (prs s).getD []
theorem pC_long {s : Bs} (h : 50000 < s.length) : pC s = 12 ∧ pL s = [] := by
  unfold pC pL; rw [if_pos h, if_pos h]; exact ⟨rfl, rfl⟩
theorem pC_none {s : Bs} (h : ¬ 50000 < s.length) (h2 : prs s = none) : pC s = 12 ∧ pL s = [] := by
  unfold pC pL; rw [if_neg h, if_neg h, h2]; exact ⟨rfl, rfl⟩
theorem pC_some {s : Bs} {w : List Md} (h : ¬ 50000 < s.length) (h2 : prs s = some w) : pC s = 0 ∧ pL s = w := by
  unfold pC pL; rw [if_neg h, if_neg h, h2]; exact ⟨rfl, rfl⟩
theorem prs_loose {s : Bs} (h1 : tC (looseM s) = 0) (h2 : txt (looseM s) = s) : prs s = some (looseM s) := by
  refine prs_iff.2 ⟨?_, h2⟩
  by_cases h : chk (looseM s) = 0
  · exact h
  · rw [(tC_no h).1] at h1; exact absurd h1 h
theorem prs_not {s : Bs} (hs : ¬ 50000 < s.length) (h : tC (looseM s) ≠ 0 ∨ txt (looseM s) ≠ s) : prs s = none := by
  cases hp : prs s with
  | none => rfl
  | some w =>
    exfalso
    have e := loose_prs hp
    obtain ⟨h1, h2⟩ := prs_iff.1 hp
    rw [e] at h
    rcases h with h | h
    · rw [(tC_yes h1 (by rw [h2]; exact hs)).1] at h; exact h rfl
    · exact h h2
/-- How Parse ends. -/
def PsEnd (s : Bs) (w : World) (e : Ending) (w' : World) : Prop := ∃ v vs, e = .returned (.tuple #[v, .int .i64 (pC s)]) ∧ Below w.heap.size w w' ∧ ModFr w' w.heap.size v (pL s) vs
set_option maxRecDepth 100000 in
set_option maxHeartbeats 1600000 in
theorem pparse_any (s : ByteArray) (hs : s.size ≤ 9223372036854775807) (w : World) (he : Env w) :
    Calls Tryz.prog 9 #[.string s] w (PsEnd (lA s) w) := by
  by_cases hlong : 50000 < s.size
  · have hl : 50000 < (lA s).length := by rw [lA_len]; exact hlong
    have HE : Hid (PsEnd (lA s) w (.returned (.tuple #[.slice none 0 0, .int .i64 12])) w) := Lib.hid ⟨_, [], by rw [(pC_long hl).1], Below.refl _ _, by rw [(pC_long hl).2]; exact modFr_nil _ _⟩
    have c1 : (50000 : Int) < (s.size : Int) := by omega
    clear hl
    go_enter Tryz.func9, Tryz.ntmps9
    go_wp2_with fail
    go_ret2
    exact HE.out
  · have hl : ¬ 50000 < (lA s).length := by rw [lA_len]; exact hlong
    have c1 : ¬ (50000 : Int) < (s.size : Int) := by omega
    have KL := Lib.hid (loose_any s (by omega) w he)
    have HEn := Lib.hid he
    obtain ⟨b1, b2⟩ := looseM_len _ (lA s) (Nat.le_refl _)
    have KT := Lib.hid (fun v w hv he => ptext_any v (looseM (lA s)) (by omega) (fun m hm => by have := b2 m hm; omega) w hv he)
    have HNo : Hid (∀ w', Below w.heap.size w w' → (tC (looseM (lA s)) ≠ 0 ∨ txt (looseM (lA s)) ≠ lA s) → PsEnd (lA s) w (.returned (.tuple #[.slice none 0 0, .int .i64 12])) w') := Lib.hid (fun w' hb h => by
      have hp := prs_not hl h
      exact ⟨_, [], by rw [(pC_none hl hp).1], hb, by rw [(pC_none hl hp).2]; exact modFr_nil _ _⟩)
    have HYes : Hid (∀ w' v vs, Below w.heap.size w w' → tC (looseM (lA s)) = 0 → txt (looseM (lA s)) = lA s → ModFr w' w.heap.size v (looseM (lA s)) vs → PsEnd (lA s) w (.returned (.tuple #[v, .int .i64 0])) w') := Lib.hid (fun w' v vs hb h1 h2 hm => by
      have hp := prs_loose h1 h2
      exact ⟨v, vs, by rw [(pC_some hl hp).1], hb, by rw [(pC_some hl hp).2]; exact hm⟩)
    have HTS : Hid (tC (looseM (lA s)) = 0 → tS (looseM (lA s)) = txt (looseM (lA s))) := Lib.hid (fun h => by unfold tS; rw [if_pos h])
    clear he b1 b2 hl hlong
    generalize looseM (lA s) = L at KL KT HNo HYes HTS
    obtain ⟨x, hx⟩ : ∃ x, tC L = x := ⟨_, rfl⟩
    rw [hx] at KT HNo HYes HTS
    clear hx
    by_cases h0 : x = 0
    · subst h0
      rw [HTS.out rfl] at KT
      have HNo := Lib.hid (fun w' hb h => HNo.out w' hb (.inr h))
      have HYes := Lib.hid (fun w' v vs hb h hm => HYes.out w' v vs hb rfl h hm)
      by_cases ht : txt L = lA s
      · have hbt : bA (txt L) = s := by rw [ht]; rfl
        rw [hbt] at KT
        have HY := Lib.hid (fun w' v vs hb hm => HYes.out w' v vs hb ht hm)
        have hq : (!(s.toList == s.toList)) = false := by simp
        clear ht hbt HNo HYes
        go_enter Tryz.func9, Tryz.ntmps9
        go_wp2_with fail
        refine KL.out.mono ?_
        rintro e w1 ⟨v, vs, rfl, hb, hm⟩
        have B1 := Lib.hid hb
        have M1 := Lib.hid hm
        have HE1 := Lib.hid (HEn.out.later hb)
        clear hb hm
        go_wp2_with fail
        refine (KT.out _ _ M1.out.mods HE1.out).mono ?_
        rintro e w2 ⟨rfl, hb⟩
        have B2 := Lib.hid (B1.out.trans (hb.mono B1.out.size))
        have M2 := Lib.hid (M1.out.later hb)
        clear hb
        go_wp2_with fail
        go_ret2
        exact HY.out _ _ _ B2.out M2.out
      · have hq : (!((bA (txt L)).toList == s.toList)) = true := by
          have : (bA (txt L)).toList ≠ s.toList := fun e => by
            rw [ByteArray.toList_eq, ByteArray.toList_eq] at e
            apply ht
            have e2 : (bA (txt L)).data.toList = txt L := lA_bA _
            rw [← e2]; exact e
          simpa using this
        have HN := Lib.hid (fun w' hb => HNo.out w' hb ht)
        clear ht HNo HYes
        generalize bA (txt L) = S at KT hq
        go_enter Tryz.func9, Tryz.ntmps9
        go_wp2_with fail
        refine KL.out.mono ?_
        rintro e w1 ⟨v, vs, rfl, hb, hm⟩
        have B1 := Lib.hid hb
        have M1 := Lib.hid hm
        have HE1 := Lib.hid (HEn.out.later hb)
        clear hb hm
        go_wp2_with fail
        refine (KT.out _ _ M1.out.mods HE1.out).mono ?_
        rintro e w2 ⟨rfl, hb⟩
        have B2 := Lib.hid (B1.out.trans (hb.mono B1.out.size))
        clear hb
        go_wp2_with fail
        go_ret2
        exact HN.out _ B2.out
    · have h1 : (x != 0) = true := by rw [bne_iff_ne]; exact h0
      have HN := Lib.hid (fun w' hb => HNo.out w' hb (.inl h0))
      clear h0 HNo HYes HTS
      go_enter Tryz.func9, Tryz.ntmps9
      go_wp2_with fail
      refine KL.out.mono ?_
      rintro e w1 ⟨v, vs, rfl, hb, hm⟩
      have B1 := Lib.hid hb
      have M1 := Lib.hid hm
      have HE1 := Lib.hid (HEn.out.later hb)
      clear hb hm
      go_wp2_with fail
      refine (KT.out _ _ M1.out.mods HE1.out).mono ?_
      rintro e w2 ⟨rfl, hb⟩
      have B2 := Lib.hid (B1.out.trans (hb.mono B1.out.size))
      clear hb
      go_wp2_with fail
      go_ret2
      exact HN.out _ B2.out
end Go.Proofs.YtcoljbcjnggagaaGreatDoor
namespace Go.Proofs.YtcoljbcjnggagaaGreatDoor
open WM
set_option linter.unusedVariables false
set_option linter.unusedSimpArgs false
namespace RM

structure Fm where
  k : Int
  cs : List Int
  deriving DecidableEq
structure Sh where
  c : UInt8
  a : List Fm
  deriving DecidableEq
structure Rw where
  c : UInt8
  ar : Int
  l : UInt8
  r : UInt8
  gs : List Fm
  wt : Int
  out : List Sh
  deriving DecidableEq
def coefB (x : Int) : Bool := decide (-1000000 ≤ x) && decide (x ≤ 1000000)
theorem coefB_iff {x : Int} : coefB x = true ↔ -1000000 ≤ x ∧ x ≤ 1000000 := by simp [coefB]
/-- Is a form valid for a number of arguments? -/
def formB (f : Fm) (n : Int) : Bool := coefB f.k && decide ((f.cs.length : Int) = n) && f.cs.all coefB
/-- The module that a shape is like, its args 0. -/
def shM (s : Sh) : Md := ⟨s.c, List.replicate s.a.length 0⟩
def shB (s : Sh) (n : Int) : Bool := fineB (shM s) && s.a.all (formB · n)
/-- Is a rule valid in what the layers share? -/
def ruleB (r : Rw) : Bool := letB r.c && !(braB r.c) && decide (0 ≤ r.ar) && decide (r.ar ≤ 4) && r.gs.all (formB · r.ar) && r.out.all (shB · r.ar) && decide (chk (r.out.map shM) = 0)
def plainB (r : Rw) : Bool := r.l == 0 && r.r == 0 && decide (r.wt = 0)
def manyB (l : List Rw) : Bool := decide (40 < l.length) || l.any fun r => decide (4 < r.gs.length) || decide (20 < r.out.length)
/-- Check. -/
def rchk (l : List Rw) : Int := if manyB l = true then 4 else if l.all (fun r => ruleB r && plainB r) = true then 0 else 8
def wor : Int → List Int → List Int → Int
  | n, _, [] => n
  | n, [], _ :: _ => n
  | n, c :: cs, x :: xs => wor (n + c * x) cs xs
/-- A form's value. -/
def worth (f : Fm) (x : List Int) : Int := wor f.k f.cs x
theorem wor_snoc : ∀ (n : Int) (cs xs : List Int) (c x : Int), cs.length = xs.length → wor n (cs ++ [c]) (xs ++ [x]) = wor n cs xs + c * x
  | n, [], [], c, x, _ => by simp [wor]
  | n, c' :: cs, x' :: xs, c, x, h => by
    simp only [List.cons_append, wor]
    exact wor_snoc _ cs xs c x (by simpa using h)
  | n, [], _ :: _, _, _, h => by simp at h
  | n, _ :: _, [], _, _, h => by simp at h
theorem take_snoc {l : List Int} {k : Nat} (h : k < l.length) : l.take (k + 1) = l.take k ++ [l[k]] := List.take_succ_eq_append_getElem h
theorem wor_take {n : Int} {cs xs : List Int} (hl : cs.length = xs.length) {k : Nat} (h : k < xs.length) : wor n (cs.take (k + 1)) (xs.take (k + 1)) = wor n (cs.take k) (xs.take k) + cs[k]'(by omega) * xs[k] := by
  rw [take_snoc (l := cs) (by omega), take_snoc h]
  exact wor_snoc _ _ _ _ _ (by rw [List.length_take, List.length_take]; omega)
theorem mul_rng {c x : Int} (hc : -1000000 ≤ c ∧ c ≤ 1000000) (hx : -1000000000 ≤ x ∧ x ≤ 1000000000) : -1000000000000000 ≤ c * x ∧ c * x ≤ 1000000000000000 := by
  have key : ∀ a b : Int, -1000000 ≤ a → a ≤ 1000000 → 0 ≤ b → b ≤ 1000000000 → -1000000000000000 ≤ a * b ∧ a * b ≤ 1000000000000000 := by
    intro a b h1 h2 h3 h4
    have e1 : a * b ≤ 1000000 * b := Int.mul_le_mul_of_nonneg_right h2 h3
    have e2 : -1000000 * b ≤ a * b := Int.mul_le_mul_of_nonneg_right h1 h3
    omega
  by_cases h : 0 ≤ x
  · exact key c x hc.1 hc.2 h hx.2
  · have := key c (-x) hc.1 hc.2 (by omega) (by omega)
    rw [Int.mul_neg] at this
    omega
/-- The sum stays small at each step. -/
theorem wor_rng {n : Int} {cs xs : List Int} (hl : cs.length = xs.length) (hn : coefB n = true) (hc : cs.all coefB = true) (hx : ∀ x ∈ xs, -1000000000 ≤ x ∧ x ≤ 1000000000) :
    ∀ k, k ≤ xs.length → -1000000 - k * 1000000000000000 ≤ wor n (cs.take k) (xs.take k) ∧ wor n (cs.take k) (xs.take k) ≤ 1000000 + k * 1000000000000000 := by
  intro k
  induction k with
  | zero => intro _; have := coefB_iff.1 hn; simp [wor]; omega
  | succ k ih =>
    intro hk
    have h1 := ih (by omega)
    rw [wor_take hl (by omega)]
    have h2 := mul_rng (coefB_iff.1 (List.all_eq_true.1 hc _ (List.getElem_mem (show k < cs.length by omega)))) (hx _ (List.getElem_mem (show k < xs.length by omega)))
    omega
/-- Does a rule fit a module? -/
def fitB (r : Rw) (m : Md) : Bool := r.c == m.c && decide (r.ar = (m.a.length : Int)) && r.gs.all fun g => decide (0 ≤ worth g m.a)
/-- The first rule that fits from an index on, or -1. -/
def firstF : List Rw → Md → Int → Int
  | [], _, _ => -1
  | r :: l, m, i => if fitB r m = true then i else firstF l m (i + 1)
def first (l : List Rw) (m : Md) : Int := firstF l m 0
theorem firstF_rng : ∀ (l : List Rw) (m : Md) (i : Int), firstF l m i = -1 ∨ (i ≤ firstF l m i ∧ firstF l m i < i + l.length)
  | [], _, _ => .inl rfl
  | r :: l, m, i => by
    unfold firstF
    split
    · right; simp; omega
    · rcases firstF_rng l m (i + 1) with h | h
      · exact .inl h
      · right; simp; omega
theorem firstF_drop {l : List Rw} {m : Md} {k : Nat} (hk : k < l.length) : firstF (l.drop k) m (k : Int) = if fitB l[k] m = true then (k : Int) else firstF (l.drop (k + 1)) m ((k + 1 : Nat) : Int) := by
  rw [List.drop_eq_getElem_cons hk, firstF]
  rfl
theorem firstF_end {l : List Rw} {m : Md} {k : Nat} (hk : l.length ≤ k) : firstF (l.drop k) m (k : Int) = -1 := by
  rw [List.drop_of_length_le hk]; rfl
/-- Find's error and index. -/
def finC (l : List Rw) (m : Md) : Int := if rchk l ≠ 0 then rchk l else if fineB m = true then 0 else 8
def finV (l : List Rw) (m : Md) : Int := if finC l m = 0 then first l m else 0
/-- Value's error and number. -/
def vaC (f : Fm) (x : List Int) : Int :=
  if 4 < x.length ∨ formB f (x.length : Int) = false ∨ fineB ⟨70, x⟩ = false then 8 else if -1000000000 ≤ worth f x ∧ worth f x ≤ 1000000000 then 0 else 16
def vaV (f : Fm) (x : List Int) : Int := if vaC f x = 0 then worth f x else 0
/-- What a shape becomes. -/
def mkM (s : Sh) (x : List Int) : Md := ⟨s.c, s.a.map (worth · x)⟩
def argB (x : Int) : Bool := decide (-1000000000 ≤ x) && decide (x ≤ 1000000000)
def mkB (s : Sh) (x : List Int) : Bool := s.a.all fun f => argB (worth f x)
/-- What a rule makes of a module. -/
def made (r : Rw) (m : Md) : Option (List Md) := if r.out.all (mkB · m.a) = true then some (r.out.map (mkM · m.a)) else none
/-- A module's successor. -/
def succM (l : List Rw) (m : Md) : Option (List Md) := if h : 0 ≤ first l m then (match l[(first l m).toNat]? with | some r => made r m | none => none) else some [m]
/-- A word's successor, before its length is looked at. -/
def stepL (l : List Rw) : List Md → Option (List Md)
  | [] => some []
  | m :: w => match succM l m, stepL l w with
    | some a, some b => some (a ++ b)
    | _, _ => none
theorem stepL_app (l : List Rw) : ∀ a b : List Md, stepL l (a ++ b) = (match stepL l a, stepL l b with | some x, some y => some (x ++ y) | _, _ => none)
  | [], b => by
    simp only [List.nil_append, stepL]
    cases stepL l b <;> rfl
  | m :: a, b => by
    simp only [List.cons_append, stepL]
    rw [stepL_app l a b]
    cases succM l m <;> cases stepL l a <;> cases stepL l b <;> simp
theorem stepL_one (l : List Rw) (m : Md) : stepL l [m] = succM l m := by
  simp only [stepL]
  cases succM l m <;> simp
/-- Step's error and word. -/
def stC (l : List Rw) (w : List Md) : Int := if rchk l ≠ 0 then rchk l else if chk w ≠ 0 then chk w else match stepL l w with
  | none => 16
  | some v => if 2000 < v.length then 4 else 0
def stL (l : List Rw) (w : List Md) : List Md := if stC l w = 0 then (stepL l w).getD [] else []
/-- Run's error and word. -/
def runF (l : List Rw) : Nat → List Md → Int × List Md
  | 0, w => (0, w)
  | n + 1, w => if stC l w ≠ 0 then (stC l w, []) else runF l n (stL l w)
def ruC (l : List Rw) (w : List Md) (n : Int) : Int := if rchk l ≠ 0 then rchk l else if chk w ≠ 0 then chk w else if n < 0 ∨ 30 < n then 2 else (runF l n.toNat w).1
def ruL (l : List Rw) (w : List Md) (n : Int) : List Md := if ruC l w n = 0 then (runF l n.toNat w).2 else []
def greatR (l : List Rw) : Bool := decide (50 < l.length) || l.any fun r => decide (10 < r.gs.length) || decide (30 < r.out.length) || r.gs.any (fun g => decide (10 < g.cs.length)) || r.out.any (fun s => decide (10 < s.a.length) || s.a.any (fun g => decide (10 < g.cs.length)))
end RM
end Go.Proofs.YtcoljbcjnggagaaGreatDoor
