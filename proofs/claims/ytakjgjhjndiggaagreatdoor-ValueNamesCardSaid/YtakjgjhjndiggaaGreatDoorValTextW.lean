/-
  What text and Text of package value hand back.
-/
import Derived.Test.YtakjgjhjndiggaaGreatDoorValQuote
import Derived.Test.YtakjgjhjndiggaaGreatDoorValCheck
import Derived.Deep.RegionLaw
import Derived.Lib.ItoaLen
namespace Go.Proofs.YtakjgjhjndiggaaGreatDoor
open Go.RowKit Go.Shelf
open VM
open RM (vld vld_iff)
set_option linter.unusedVariables false
set_option linter.unusedSimpArgs false

theorem textL_len {n d : Int} (h : vld n d = true) : (textL n d).length ≤ 43 := by
  obtain ⟨h1, h2, h3, h4, _⟩ := vld_iff.1 h
  have a := Lib.itoa_length_le n (by omega) (by omega)
  have b := Lib.itoa_length_le d (by omega) (by omega)
  unfold textL
  split
  · omega
  · rw [List.length_append, List.length_cons]; omega
theorem fine_num {a : Nd} {l : List V} (h : fineB (.mk a l) = true) (hk : a.k = 1) : vld a.n a.d = true := by
  rw [fine_leaf (by omega)] at h
  simp only [sndB, hk, if_true, Bool.and_eq_true] at h
  exact h.1
theorem fine_pr {a : Nd} {l : List V} (h : fineB (.mk a l) = true) (hk : a.k = 3) : prB a.s = true := by
  rw [fine_str hk] at h
  simp only [Bool.and_eq_true] at h
  exact h.2.2.1
theorem fine_kind {a : Nd} {l : List V} (h : fineB (.mk a l) = true) : a.k = 1 ∨ a.k = 2 ∨ a.k = 3 ∨ a.k = 4 := by
  by_cases h1 : a.k = 1
  · exact .inl h1
  by_cases h2 : a.k = 2
  · exact .inr (.inl h2)
  by_cases h3 : a.k = 3
  · exact .inr (.inr (.inl h3))
  by_cases h4 : a.k = 4
  · exact .inr (.inr (.inr h4))
  rw [fine_other h1 h2 h3 h4] at h; exact absurd h (by simp)
theorem fine_mem {a : Nd} {l : List V} (h : fineB (.mk a l) = true) (hk : a.k = 4) {x : V} (hx : x ∈ l) : fineB x = true := by
  rw [fine_list hk] at h
  simp only [Bool.and_eq_true, List.all_eq_true] at h
  exact h.2 x hx
theorem txt_1 {a : Nd} {l : List V} (hk : a.k = 1) : txt (.mk a l) = textL a.n a.d := by rw [txt_eq]; simp [hk]
theorem txt_2 {a : Nd} {l : List V} (hk : a.k = 2) : txt (.mk a l) = truL a.t := by rw [txt_eq]; simp [hk]
theorem txt_3 {a : Nd} {l : List V} (hk : a.k = 3) : txt (.mk a l) = quoL (lA a.s) := by rw [txt_eq]; simp [hk]
theorem txt_4 {a : Nd} {l : List V} (hk : a.k = 4) : txt (.mk a l) = 91 :: bod l := by rw [txt_eq]; simp [hk]
theorem tlL_len {l : List V} (h : ∀ x ∈ l, (txt x).length + 2 ≤ 132 * parts x) : (tlL l).length ≤ 132 * partsL l + 1 := by
  induction l with
  | nil => simp [tlL_nil]
  | cons x l ih =>
    have h1 := h x (by simp)
    have h2 := ih fun y hy => h y (List.mem_cons_of_mem x hy)
    rw [tlL_cons]
    simp only [List.length_cons, List.length_append, partsL]; omega
theorem bod_len {l : List V} (h : ∀ x ∈ l, (txt x).length + 2 ≤ 132 * parts x) : (bod l).length ≤ 132 * partsL l + 1 := by
  cases l with
  | nil => simp [bod_nil]
  | cons x l =>
    have h1 := h x (by simp)
    have h2 := tlL_len fun y hy => h y (List.mem_cons_of_mem x hy)
    rw [bod_cons]
    simp only [List.length_append, partsL]; omega
theorem txt_len (v : V) : fineB v = true → (txt v).length + 2 ≤ 132 * parts v := by
  induction v using V.ind with
  | h a l ih =>
    intro hf
    have hp := parts_pos (.mk a l)
    rcases fine_kind hf with hk | hk | hk | hk
    · rw [txt_1 hk]; have := textL_len (fine_num hf hk); omega
    · rw [txt_2 hk]; have := truL_len a.t; omega
    · rw [txt_3 hk]
      have h1 := quoL_len (lA a.s)
      have h2 := prB_size (fine_pr hf hk)
      rw [lA_len] at h1; omega
    · rw [txt_4 hk, parts_eq]
      have := bod_len fun x hx => ih x hx (fine_mem hf hk hx)
      simp only [V.nd_mk, hk, if_true, V.list_mk, List.length_cons]; omega
theorem text_fine {n d : Int} (h : vld n d = true) : outS [(n, d)] (textB n d) 0 = textB n d ∧ okE (vld n d) = 0 := by
  constructor
  · unfold outS; rw [errAll_one, if_pos (by rw [if_pos h]; simp)]
  · unfold okE; simp [h]
theorem tru_form (b : Bool) : Lib.formatBool b = truL b := by cases b <;> decide +kernel
/-- The texts of elements, as the cells of a row of strings. -/
def cellsT (l : List V) : List Value := l.map fun x => .string (bA (txt x))
theorem cellsT_snoc {l : List V} {k : Nat} (h : k < l.length) : cellsT (l.take (k + 1)) = cellsT (l.take k) ++ [.string (bA (txt l[k]))] := by
  unfold cellsT; rw [List.take_succ_eq_append_getElem h, List.map_append]; rfl
theorem string_info : (Tryz.prog.info? 9).map (fun i => (i.zero, i.size, i.bytes)) = some (some (.string ⟨#[]⟩), 1, 16) := by kernel_rfl

theorem jn_lens (l : List V) : Lib.join ((l.map fun x => bA (txt x)).map (·.data.toList)) [44, 32] = jnL l := by
  rw [List.map_map]; rfl
theorem join_text {base : Nat} {w : World} {l : List V} {v : Value} (h : w.ownsRow base 9 1 v l.length (cellsT (l.take l.length))) (hj : (jnL l).length ≤ 10000000) (hl : l.length ≤ 20000) :
    Calls Tryz.prog 69 #[v, .string ⟨#[44, 32]⟩] w fun e w' => e = .returned (.string (bA (jnL l))) ∧ Below w.heap.size w w' := by
  rw [List.take_length] at h
  obtain ⟨h4, h2⟩ := h
  rcases h2 with ⟨rfl, h0⟩ | ⟨g, cap, cur, rfl, hb, hg, hn, hm, hs, ht⟩
  · obtain rfl : l = [] := List.length_eq_zero_iff.1 h0
    clear hj hl h4 h0
    refine (Tryz.strings_Join_none none 0 ⟨#[44, 32]⟩ w).mono ?_
    rintro e w' ⟨rfl, rfl⟩
    exact ⟨rfl, Below.refl _ _⟩
  · have hc : ∀ (j : Nat) (x : ByteArray), (l.map fun x => bA (txt x))[j]? = some x → w.cell? ⟨g, 0 + j, none⟩ = some (.string x) := by
      intro j x hx
      have e : (cellsT l)[j]? = some (.string x) := by
        unfold cellsT
        rw [List.getElem?_map] at hx ⊢
        cases hl : l[j]? with
        | none => rw [hl] at hx; simp at hx
        | some y => rw [hl] at hx; simp only [Option.map_some, Option.some.injEq] at hx ⊢; rw [hx]
      rw [← ht, List.getElem?_take] at e
      split at e
      · simpa [World.cell?, hg] using e
      · simp at e
    have hj2 : (Lib.join ((l.map fun x => bA (txt x)).map (·.data.toList)) (ByteArray.mk #[44, 32]).data.toList).length ≤ 140737488355328 := by
      show (Lib.join ((l.map fun x => bA (txt x)).map (·.data.toList)) [44, 32]).length ≤ _
      rw [jn_lens]; exact Nat.le_trans hj (by decide)
    have K := Tryz.strings_Join g 0 cap (l.map fun x => bA (txt x)) ⟨#[44, 32]⟩ w hc (lt_of_block hg) (by rw [List.length_map]; omega) (by rw [List.length_map]; omega) hj2
    rw [List.length_map] at K
    have e2 : Lib.join ((l.map fun x => bA (txt x)).map (·.data.toList)) (ByteArray.mk #[44, 32]).data.toList = jnL l := jn_lens l
    rw [e2] at K
    clear hj hj2 hl hc
    refine K.mono ?_
    rintro e w' h
    exact ⟨h.1, h.2⟩

set_option maxHeartbeats 2000000 in
theorem text_v (v : V) : ∀ (sl : Value) (w : World), Small v → parts v ≤ 50000 → fineB v = true → Tab w → RepL (· < w.heap.size) w v.list sl →
    Calls Tryz.prog 45 #[.agg #[.int .u8 v.nd.k, .int .i64 v.nd.n, .int .i64 v.nd.d, .bool v.nd.t, .string v.nd.s, sl]] w fun e w' => e = .returned (.string (bA (txt v))) ∧ Below w.heap.size w w' := by
  induction v using V.ind with
  | h a l ih =>
    intro sl w hs hpt hf ht hr
    obtain ⟨p, cap, rfl⟩ := hr.slice
    dsimp only [V.nd_mk, V.list_mk] at hr ⊢
    have HT := Lib.hid ht
    have HPt := Lib.hid hpt
    clear hpt
    have hB0 : Below w.heap.size w (w.alloc (.cells #[.int .u8 a.k, .int .i64 a.n, .int .i64 a.d, .bool a.t, .string a.s, .slice p l.length cap] 28)) := (Below.refl _ _).alloc (Nat.le_refl _) _
    have HB0 := Lib.hid hB0
    rcases fine_kind hf with hk | hk | hk | hk
    · have HV := Lib.hid (fine_num hf hk)
      have HE := Lib.hid (txt_1 (l := l) hk)
      have HF := Lib.hid (text_fine HV.out)
      have k1 : (a.k == 1) = true := by simp [hk]
      clear hk hf hr ih hs ht hB0
      go_enter Tryz.func45, Tryz.ntmps45
      go_wp2_with fail
      refine (text_any _ _ _ (HT.out.later HB0.out)).mono ?_
      rintro e w1 ⟨rfl, hb⟩
      have HB1 := Lib.hid (HB0.out.trans (hb.mono HB0.out.size))
      rw [HF.out.1]
      clear hb
      go_wp2_with fail
      go_ret
      exact ⟨by rw [HE.out]; rfl, HB1.out⟩
    · have HE := Lib.hid (txt_2 (l := l) hk)
      have k1 : (a.k == 1) = false := by simp [hk]
      have k2 : (a.k == 2) = true := by simp [hk]
      clear hk hf hr ih hs ht hB0
      go_enter Tryz.func45, Tryz.ntmps45
      go_wp2_with fail
      refine (Tryz.strconv_FormatBool _ _).mono ?_
      rintro e w1 ⟨rfl, rfl⟩
      go_wp2_with fail
      go_ret
      exact ⟨by rw [HE.out, ← tru_form]; rfl, HB0.out⟩
    · have HV := Lib.hid (fine_pr hf hk)
      have HE := Lib.hid (txt_3 (l := l) hk)
      have k1 : (a.k == 1) = false := by simp [hk]
      have k2 : (a.k == 2) = false := by simp [hk]
      have k3 : (a.k == 3) = true := by simp [hk]
      clear hk hf hr ih hs ht hB0
      go_enter Tryz.func45, Tryz.ntmps45
      go_wp2_with fail
      refine (quoted_any _ HV.out _).mono ?_
      rintro e w1 ⟨rfl, hb⟩
      have HB1 := Lib.hid (HB0.out.trans (hb.mono HB0.out.size))
      clear hb
      go_wp2_with fail
      go_ret
      exact ⟨by rw [HE.out]; rfl, HB1.out⟩
    · have HE := Lib.hid (txt_4 (l := l) hk)
      have HI := Lib.hid ih
      have HS := Lib.hid hs
      have HR := Lib.hid hr
      have HFm : Hid (∀ x ∈ l, fineB x = true) := Lib.hid fun x hx => fine_mem hf hk hx
      have hll : l.length ≤ 20000 := hs.wf.len
      have k1 : (a.k == 1) = false := by simp [hk]
      have k2 : (a.k == 2) = false := by simp [hk]
      have k3 : (a.k == 3) = false := by simp [hk]
      have HN0 : Hid ((w.alloc (.cells #[.int .u8 a.k, .int .i64 a.n, .int .i64 a.d, .bool a.t, .string a.s, .slice p l.length cap] 28)).ownsRow w.heap.size 9 1 (.slice none 0 0) 0 (cellsT (l.take 0))) := Lib.hid (World.ownsRow_nil _ _ _ _)
      have HPl : Hid (partsL l ≤ 50000) := Lib.hid (by have := HPt.out; rw [parts_eq] at this; simp only [V.nd_mk, hk, if_true, V.list_mk] at this; omega)
      have HLn : Hid ((jnL l).length ≤ 132 * partsL l + 1) := Lib.hid (by
        have := bod_len (l := l) fun x hx => txt_len x (fine_mem hf hk hx)
        rw [bod_join, List.length_append] at this; omega)
      clear hk hf hr ih hs ht hB0
      go_enter Tryz.func45, Tryz.ntmps45
      go_wp2_with fail
      go_loopw [5, 32] (fun es i wr => ∃ (j : Nat) (v : Value), j ≤ l.length ∧ i = .int .i64 j ∧ v = es ∧ wr.ownsRow w.heap.size 9 1 v j (cellsT (l.take j)) ∧ Below w.heap.size w wr) (fun _ i _ => l.length - (intOf i).toNat)
      case atStart => exact ⟨0, _, Nat.zero_le _, rfl, rfl, HN0.out, HB0.out⟩
      case round =>
        obtain ⟨j, v, hj, rfl, rfl, hown, hB⟩ := hrel
        have HO := Lib.hid hown
        have HB := Lib.hid hB
        clear hown hB
        by_cases hlt : j < l.length
        · obtain ⟨b, off, S, rfl, hq, hb, R, hR⟩ := (HR.out.kept HB.out).at hlt
          obtain ⟨p', cap', rfl⟩ := hR.slice
          have r0 := R.c0
          have r1 := R.c1
          have r2 := R.c2
          have r3 := R.c3
          have r4 := R.c4
          have r5 := R.c5
          clear R hq
          have HR2 := Lib.hid hR
          clear hR
          obtain ⟨W1, hW1⟩ : ∃ W1, W1 = wr.alloc (.cells #[.int .u8 l[j].nd.k, .int .i64 l[j].nd.n, .int .i64 l[j].nd.d, .bool l[j].nd.t, .string l[j].nd.s, .slice p' l[j].list.length cap'] 28) := ⟨_, rfl⟩
          have hbw : Below wr.heap.size wr W1 := by rw [hW1]; exact (Below.refl _ _).alloc (Nat.le_refl _) _
          have HB1 := Lib.hid (HB.out.trans (hbw.mono HB.out.size))
          have HO1 : Hid (W1.ownsRow w.heap.size 9 1 v j (cellsT (l.take j))) := Lib.hid (by rw [hW1]; exact HO.out.alloc _)
          have HC := Lib.hid (HI.out l[j] (List.getElem_mem hlt) _ W1 (HS.out.get hlt) (by have := parts_step hlt; have := HPl.out; omega) (HFm.out _ (List.getElem_mem hlt)) (HT.out.later HB1.out) ((HR2.out.later hbw).bound))
          have HSn := Lib.hid (cellsT_snoc hlt)
          clear hbw
          obtain ⟨tx, htx⟩ : ∃ tx, bA (txt l[j]) = tx := ⟨_, rfl⟩
          rw [htx] at HC HSn
          rw [hW1] at HC
          clear htx
          go_wp2_with fail
          refine HC.out.mono ?_
          rw [← hW1]
          clear hW1 HC
          rintro e w1 ⟨rfl, hb1⟩
          have HB2 := Lib.hid (HB1.out.trans (hb1.mono HB1.out.size))
          have HO2 := Lib.hid (HO1.out.kept (below_grows hb1 none) (by cases hv : v.ownBlock <;> simp))
          have HLt : Hid (∀ k, v.ownBlock = some k → w.heap.size ≤ k) := Lib.hid fun k hk => (HO2.out.lt k hk).1
          clear hb1
          obtain ⟨i0, hi, hz0, hz1, hz2⟩ := info_parts string_info
          go_wp2_with (at_builtin; refine wpList_append_own _ rfl _ _ 98 rfl w.heap.size 9 i0 (.string ⟨#[]⟩) 1 16 Tryz.underlying98 hi hz0 hz1 hz2 rfl (by decide) _ _ _ rfl (HO2.out.alloc _) ⟨w1.heap.size, 0, none⟩ 1 1 [.string tx] rfl rfl (cell_one_new _ _ _) (by simp [Value.oneCell']) (by unfold maxLen; omega) (by omega) (by have := HB2.out.size; simp; omega) ?_)
          intro v' w2 hown' hgrow _
          have HB3 := Lib.hid ((HB2.out.alloc HB2.out.size (.cells #[.string tx] 9)).grown hgrow (by have := HB2.out.size; simp; omega) HLt.out)
          rw [← HSn.out] at hown'
          have HO3 := Lib.hid hown'
          clear hown' hgrow
          go_wp2_with fail
          go_roundw
          case rel => exact ⟨j + 1, v', by omega, by go_num, rfl, HO3.out, HB3.out⟩
          case measure => simp [intOf]; omega
        · obtain rfl : j = l.length := by omega
          have HJ : Hid (∀ (es : Value), es = v → Calls Tryz.prog 69 #[es, .string ⟨#[44, 32]⟩] wr fun e w' => e = .returned (.string (bA (jnL l))) ∧ Below wr.heap.size wr w') := Lib.hid (fun es he => he ▸ join_text HO.out (by have := HLn.out; have := HPl.out; omega) (by omega))
          go_wp2_with fail
          refine (HJ.out _ rfl).mono ?_
          rintro e w1 ⟨rfl, hb⟩
          have HB1 := Lib.hid (HB.out.trans (hb.mono HB.out.size))
          have HE2 : Hid (bA (91 :: bod l) = (⟨#[91]⟩ : ByteArray) ++ bA (jnL l) ++ (⟨#[93]⟩ : ByteArray)) := Lib.hid (by
            rw [bod_join]; exact (by rw [show (⟨#[91]⟩ : ByteArray) = bA [91] from rfl, show (⟨#[93]⟩ : ByteArray) = bA [93] from rfl, bA_app, bA_app]; rfl))
          have hx1 : (bA (jnL l)).size ≤ 10000000 := by rw [bA_size]; have := HLn.out; have := HPl.out; omega
          obtain ⟨x, hx⟩ : ∃ x, bA (jnL l) = x := ⟨_, rfl⟩
          rw [hx] at HE2 hx1 ⊢
          have z1 : ¬ (9223372036854775807 : Int) < 1 + (x.size : Int) := by omega
          have z2 : ¬ (9223372036854775807 : Int) < 1 + (x.size : Int) + 1 := by omega
          have z3 : ¬ 9223372036854775807 < 1 + x.size := by omega
          have z4 : ¬ 9223372036854775807 < 1 + x.size + 1 := by omega
          clear hb hx hx1
          go_wp2_with fail
          go_ret
          exact ⟨by rw [HE.out, HE2.out]; rfl, HB1.out⟩
end Go.Proofs.YtakjgjhjndiggaaGreatDoor
