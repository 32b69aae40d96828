/-
  What Make and Text of package ratio hand back.
-/
import Derived.Test.YtakjgjhjndiggaaGreatDoorZRatDoorAll
import Derived.Test.YtakjgjhjndiggaaGreatDoorRatLaw
import Derived.Test.YtakjgjhjndiggaaGreatDoorShelf
import Derived.Lib.AppendIntMem
import Derived.Lib.LaidTab
import Derived.Lib.ItoaLen
namespace Go.Proofs.YtakjgjhjndiggaaGreatDoor
open Go.RowKit
open RM
set_option linter.unusedVariables false
set_option linter.unusedSimpArgs false

set_option maxHeartbeats 400000 in
theorem make_step (c pn pd : Nat) (n d : Int) (hn : -9223372036854775808 ≤ n) (hn2 : n ≤ 9223372036854775807) (hd : -9223372036854775808 ≤ d) (hd2 : d ≤ 9223372036854775807) (w : World)
    (hc : w.heap[c]? = some (.cells #[.int .i64 0] 114 (0, 0))) (en : w.heap[pn]? = some (.cells #[.int .i64 n] 2 (0, 0))) (ed : w.heap[pd]? = some (.cells #[.int .i64 d] 2 (0, 0))) :
    Calls Tryz.prog 61 #[.pointer (some ⟨c, 0, none⟩), .pointer (some ⟨pn, 0, none⟩), .pointer (some ⟨pd, 0, none⟩)] w (Reduced c n d w) := by
  have q1 := cell_of_one en
  have q2 := cell_of_one ed
  have l1 := lt_of_block en
  have l2 := lt_of_block ed
  have l3 := lt_of_block hc
  have Hc := Lib.hid hc
  clear hc en ed
  go_enter Tryz.func61, Tryz.ntmps61
  go_wp2_with fail
  refine (reduce_any c _ _ hn hn2 hd hd2 _ (by exact heap_alloc_old Hc.out _)).mono ?_
  rintro e w1 ⟨rfl, h1, h2⟩
  have H1 := Lib.hid h1
  have H2 := Lib.hid h2
  have hz : w.heap.size + 1 ≤ w1.heap.size := by simpa using h2.size
  have e0 : w1.heap[w.heap.size]? = some (.cells #[.int .i64 0, .int .i64 0] 25 (0, 0)) := (h2.block _ (by simp) (by omega)).trans (heap_alloc_new _ _)
  have q5 := cell_two0 e0
  have q6 := cell_two1 e0
  have q7 := free_two0 e0
  have q8 := free_two1 e0
  clear h1 h2 e0
  go_wp2_with fail
  refine bodyPost_ret (v := .agg #[.int .i64 (mkN n d), .int .i64 (mkD n d)]) (by simp [results, Tryz.results61, go_sem, q5, q6]) rfl ⟨rfl, ?_, ?_⟩
  · exact heap_set_other (heap_set_other H1.out (by show c ≠ w.heap.size; omega) _) (by show c ≠ w.heap.size; omega) _
  · exact (((Kept.refl c w).alloc _).trans H2.out).setCell (.inr (Nat.le_refl _)) _ |>.setCell (.inr (Nat.le_refl _)) _

theorem out_none (X Y : Int) : outN [] (mkN X Y) (mkE X Y) = mkN X Y ∧ outN [] (mkD X Y) (mkE X Y) = mkD X Y ∧ outE [] (mkE X Y) = mkE X Y := by
  by_cases hE : mkE X Y = 0
  · simp [outN, outE, errAll_nil, hE]
  · have := mkN_err hE
    simp [outN, outE, errAll_nil, this]

set_option maxHeartbeats 400000 in
theorem make_any (n d : Int) (hn : -9223372036854775808 ≤ n) (hn2 : n ≤ 9223372036854775807) (hd : -9223372036854775808 ≤ d) (hd2 : d ≤ 9223372036854775807) (w : World) :
    Calls Tryz.prog 40 #[.int .i64 n, .int .i64 d] w fun e w' =>
      e = .returned (.tuple #[.agg #[.int .i64 (mkN n d), .int .i64 (mkD n d)], .int .i64 (mkE n d)]) ∧ Below w.heap.size w w' := by
  have hmf : ∀ (fn : Fn) (first cap : Array Value) (w : World), (Instr.makeFunc fn first cap).run Tryz.prog w = .ok (.func fn first cap) w := fun _ _ _ _ => rfl
  go_enter Tryz.func40, Tryz.ntmps40
  go_wp2_with fail
  obtain ⟨W, hW⟩ : ∃ W, W = ((w.alloc (.cells #[.int .i64 n] 2)).alloc (.cells #[.int .i64 d] 2)).alloc (.cells #[.int .i64 0, .int .i64 0] 25) := ⟨_, rfl⟩
  have eN : W.heap[w.heap.size]? = some (.cells #[.int .i64 n] 2 (0, 0)) := by rw [hW]; exact heap_alloc_old (heap_alloc_old (heap_alloc_new _ _) _) _
  have eD : W.heap[w.heap.size + 1]? = some (.cells #[.int .i64 d] 2 (0, 0)) := by
    rw [hW]; refine heap_alloc_old ?_ _
    have := heap_alloc_new (w.alloc (.cells #[.int .i64 n] 2)) (.cells #[.int .i64 d] 2)
    simpa using this
  have eR : W.heap[w.heap.size + 1 + 1]? = some (.cells #[.int .i64 0, .int .i64 0] 25 (0, 0)) := by
    have := heap_alloc_new ((w.alloc (.cells #[.int .i64 n] 2)).alloc (.cells #[.int .i64 d] 2)) (.cells #[.int .i64 0, .int .i64 0] 25)
    rw [hW]; simpa using this
  have eB : Below w.heap.size w W := by rw [hW]; exact (((Below.refl _ _).alloc (Nat.le_refl _) _).alloc (by simp) _).alloc (by simp; omega) _
  rw [← hW]
  refine (calcR_none 61 #[.pointer (some ⟨w.heap.size, 0, none⟩), .pointer (some ⟨w.heap.size + 1, 0, none⟩)] (mkN n d) (mkD n d) (mkE n d) W (fun us v => by simp [go_sem]) ?_).mono ?_
  · intro _ wr hcalc
    refine (make_step (W.heap.size + 1 + 1) _ _ n d hn hn2 hd hd2 wr hcalc.hc ((hcalc.below.block _ (lt_of_block eN)).trans eN) ((hcalc.below.block _ (lt_of_block eD)).trans eD)).mono ?_
    rintro e w2 ⟨rfl, h1, h2⟩
    exact ⟨rfl, hcalc.of_kept h2 h1⟩
  rintro e w1 ⟨rfl, hb1⟩
  have HB := Lib.hid (eB.trans (hb1.mono eB.size))
  have e0 := below_new hb1 eR
  have l1 := lt_of_block e0
  have q5 := cell_two0 e0
  have q6 := cell_two1 e0
  have q7 := free_two0 e0
  have q8 := free_two1 e0
  obtain ⟨o1, o2, o3⟩ := out_none n d
  rw [o1, o2, o3]
  clear hb1 eN eD eR eB e0 hW o1 o2 o3
  go_wp2_with fail
  refine bodyPost_ret (v := .tuple #[.agg #[.int .i64 (mkN n d), .int .i64 (mkD n d)], .int .i64 (mkE n d)]) (by simp [results, Tryz.results40, go_sem, q5, q6]) rfl ⟨rfl, ?_⟩
  exact (HB.out.setCell (by show w.heap.size ≤ w.heap.size + 1 + 1; omega) _).setCell (by show w.heap.size ≤ w.heap.size + 1 + 1; omega) _

/-- The table of powers of ten that the library's decimals are made with. -/
def Tab (w : World) : Prop := Lib.TabIs Tryz.prog w "internal/strconv.uint64pow10" .u64 Lib.pow10Tab
theorem tab_named : Tryz.prog.globalNamed "internal/strconv.uint64pow10" = some 1 := by kernel_rfl
theorem Tab.later {w w1 : World} (h : Tab w) (hb : Below w.heap.size w w1) : Tab w1 := by
  have hlt : 1 < w.heap.size := by
    unfold Tab Lib.TabIs World.var? at h
    simp only [tab_named, Option.bind_some] at h
    rcases Nat.lt_or_ge 1 w.heap.size with h' | h'
    · exact h'
    · simp [Array.getElem?_eq_none h'] at h
  exact var?_below hb tab_named hlt h

theorem ret_str {a b : ByteArray} (h : a = b) : Ending.returned (.string a) = .returned (.string b) := by rw [h]
/-- A ratio's text. -/
def textL (n d : Int) : List UInt8 := if d = 1 then Lib.itoa n else Lib.itoa n ++ 47 :: Lib.itoa d
def textB (n d : Int) : ByteArray := ⟨(textL n d).toArray⟩

theorem format_any (n : Int) (h1 : -9223372036854775808 ≤ n) (h2 : n ≤ 9223372036854775807) (w : World) (ht : Tab w) :
    Calls Tryz.prog 94 #[.int .i64 n, .int .i64 10] w fun e w' => e = .returned (.string ⟨(Lib.itoa n).toArray⟩) ∧ Below w.heap.size w w' := by
  refine (Tryz.strconv_FormatInt_10 n h1 h2 w ht).mono ?_
  rintro e w' ⟨he, k, os, rfl⟩
  exact ⟨he, Lib.below_grow _ w (Nat.le_refl _) k os⟩

set_option maxHeartbeats 400000 in
theorem text_step (c pa : Nat) (an ad : Int) (h1 : -1000000000 ≤ an) (h2 : an ≤ 1000000000) (h3 : 1 ≤ ad) (h4 : ad ≤ 1000000000) (w : World) (ht : Tab w)
    (ea : w.heap[pa]? = some (.cells #[.int .i64 an, .int .i64 ad] 25 (0, 0))) :
    Calls Tryz.prog 93 #[.pointer (some ⟨c, 0, none⟩), .pointer (some ⟨pa, 0, none⟩)] w fun e w' => e = .returned (.string (textB an ad)) ∧ Below w.heap.size w w' := by
  have q1 := cell_two0 ea
  have q2 := cell_two1 ea
  have l1 := lt_of_block ea
  have EA := Lib.hid ea
  have HT := Lib.hid ht
  clear ea ht
  by_cases hd : ad = 1
  · have hz : (ad != 1) = false := by rw [hd]; rfl
    have HX : Hid ((⟨(Lib.itoa an).toArray⟩ : ByteArray) = textB an ad) := by show _ = _; simp [textB, textL, hd]
    clear hd
    go_enter Tryz.func93, Tryz.ntmps93
    go_wp2_with fail
    refine (format_any an (by omega) (by omega) _ HT.out).mono ?_
    rintro e w1 ⟨rfl, hb⟩
    have HB := Lib.hid hb
    have e1 := below_new hb EA.out
    have l2 := lt_of_block e1
    have p2 := cell_two1 e1
    clear hb e1
    go_wp2_with fail
    go_ret
    exact ⟨ret_str HX.out, HB.out⟩
  · have hz : (ad != 1) = true := by rw [bne_iff_ne]; exact hd
    have HX : Hid ((⟨(Lib.itoa an).toArray⟩ : ByteArray) ++ ((⟨#[47]⟩ : ByteArray) ++ ⟨(Lib.itoa ad).toArray⟩) = textB an ad) := by
      show _ = _
      simp only [textB, textL, if_neg hd]
      apply ByteArray.ext
      simp [ByteArray.data_append]
    have s1 := Lib.itoa_length_le an (by omega) (by omega)
    have s2 := Lib.itoa_length_le ad (by omega) (by omega)
    clear hd
    go_enter Tryz.func93, Tryz.ntmps93
    go_wp2_with fail
    refine (format_any an (by omega) (by omega) _ HT.out).mono ?_
    rintro e w1 ⟨rfl, hb⟩
    have HB := Lib.hid hb
    have HT1 := Lib.hid (HT.out.later hb)
    have e1 := below_new hb EA.out
    have l2 := lt_of_block e1
    have p2 := cell_two1 e1
    clear hb e1
    go_wp2_with fail
    refine (format_any ad (by omega) (by omega) _ HT1.out).mono ?_
    rintro e w2 ⟨rfl, hb⟩
    have HB2 := Lib.hid hb
    clear hb
    go_wp2_with fail
    go_ret
    exact ⟨ret_str HX.out, HB.out.trans (HB2.out.mono HB.out.size)⟩

set_option maxHeartbeats 400000 in
theorem text_any (an ad : Int) (w : World) (ht : Tab w) :
    Calls Tryz.prog 66 #[.agg #[.int .i64 an, .int .i64 ad]] w fun e w' =>
      e = .returned (.tuple #[.string (outS [(an, ad)] (textB an ad) 0), .int .i64 (okE (vld an ad))]) ∧ Below w.heap.size w w' := by
  have hmf : ∀ (fn : Fn) (first cap : Array Value) (w : World), (Instr.makeFunc fn first cap).run Tryz.prog w = .ok (.func fn first cap) w := fun _ _ _ _ => rfl
  have HT := Lib.hid ht
  clear ht
  go_enter Tryz.func66, Tryz.ntmps66
  go_wp2_with fail
  obtain ⟨W, hW⟩ : ∃ W, W = (w.alloc (.cells #[.int .i64 an, .int .i64 ad] 25)).alloc (.cells #[.int .i64 an, .int .i64 ad] 25) := ⟨_, rfl⟩
  have eA : W.heap[w.heap.size]? = some (.cells #[.int .i64 an, .int .i64 ad] 25 (0, 0)) := by rw [hW]; exact heap_alloc_old (heap_alloc_new _ _) _
  have eS : W.heap[w.heap.size + 1]? = some (.cells #[.int .i64 an, .int .i64 ad] 25 (0, 0)) := by
    have := heap_alloc_new (w.alloc (.cells #[.int .i64 an, .int .i64 ad] 25)) (.cells #[.int .i64 an, .int .i64 ad] 25)
    rw [hW]; simpa using this
  have eB : Below w.heap.size w W := by rw [hW]; exact ((Below.refl _ _).alloc (Nat.le_refl _) _).alloc (by simp) _
  have eT := HT.out.later eB
  rw [← hW]
  refine (calcS_some 93 #[.pointer (some ⟨w.heap.size, 0, none⟩)] (w.heap.size + 1) 1 [(an, ad)]
    (textB an ad) 0 W (by simp) (operands_one _ an ad _ eS) (fun us v => by simp [go_sem]) ?_).mono ?_
  · intro herr wr hcalc
    have hv : vld an ad = true := by rw [errAll_one] at herr; revert herr; split <;> simp_all
    obtain ⟨a1, a2, a3, a4, a5⟩ := vld_iff.1 hv
    refine (text_step _ _ an ad a3 a4 a1 a2 wr (eT.later hcalc.below) ((hcalc.below.block _ (lt_of_block eA)).trans eA)).mono ?_
    rintro e w2 ⟨rfl, h2⟩
    exact ⟨rfl, hcalc.later h2⟩
  rintro e w1 ⟨rfl, hb1⟩
  have HB := Lib.hid (eB.trans (hb1.mono eB.size))
  obtain ⟨_, o2⟩ := out_ok1 an ad 0
  rw [o2]
  clear hb1 eA eS eB eT hW o2
  go_wp2_with fail
  go_ret2
  exact ⟨rfl, HB.out⟩
end Go.Proofs.YtakjgjhjndiggaaGreatDoor
