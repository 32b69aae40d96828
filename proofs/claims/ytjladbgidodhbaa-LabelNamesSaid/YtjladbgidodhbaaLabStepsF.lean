/-
  What Steps of package label hands back.
-/
import Derived.Test.YtjladbgidodhbaaLabComp
namespace Go.Proofs.Ytjladbgidodhbaa
open Go.RowKit Go.Shelf
open LM
set_option linter.unusedVariables false
set_option linter.unusedSimpArgs false
attribute [local go_sem] Oper.semAt_some

theorem info_strs : (Try.prog.info? 9).map (fun i => (i.zero, i.size, i.bytes)) = some (some (.string ByteArray.empty), 1, 16) := by kernel_rfl
def StepsEnd (c : Int) (xs : List Bs) (w : World) (e : Ending) (w' : World) : Prop := (∃ a cap, e = .returned (.tuple #[.slice a xs.length cap, .int .i64 c]) ∧ Sl w' a cap xs) ∧ Below w.heap.size w w'
theorem sl_of_owned {w : World} {base : Nat} {v : Value} {xs : List Bs} (h : w.ownsRow base 9 1 v xs.length (xs.map sV)) (hn : v = .slice none 0 0 ↔ xs = []) : ∃ a cap, v = .slice a xs.length cap ∧ Sl w a cap xs := by
  by_cases h0 : xs = []
  · subst h0; exact ⟨none, 0, hn.2 rfl, Sl.nil _⟩
  · obtain ⟨g, cap, hv, _, hR⟩ := row_of_owned h (fun e => h0 (List.length_eq_zero_iff.1 e))
    exact ⟨some ⟨g, 0, none⟩, cap, hv, .inr ⟨g, rfl, hR⟩⟩
/-- An append at a step of a region that draws its order, inside a fence. -/
theorem stepIn_append_own {F : Fence} {n : Nat} {P : Program} (w : World) {ops : Array Oper} {o : Oper} {a : Act} {K : Act → World → Prop} {Q : Exit → Act → World → Prop} {E : Prop}
    (hg : o.guard = none) (s x : Operand) (t : TypeId) (hop : o.op = Op.call { callee := Callee.builtin Builtin.append, args := #[s, x], argTypes := #[t, t] })
    (base : Nat) (e : TypeId) (i : TypeInfo) (z : Value) (size bytes : Nat) (h1 : P.underlying t = some (.slice e)) (h2 : P.info? e = some i) (h3 : i.zero = some z) (h4 : i.size = size) (h5 : i.bytes = bytes) (h6 : z.cells.size = size) (h7 : 0 < size)
    (v : Value) (k : Nat) (xs : List Value) (hs : a.eval s = v) (hown : w.ownsRow base e size v k xs) (ad : Addr) (m c : Nat) (news : List Value) (hx : a.eval x = .slice (some ad) m c) (hn : news.length = m * size)
    (hc : ∀ j u, news[j]? = some u → w.cell? (ad.add j) = some u) (h1c : ∀ u ∈ news, u.oneCell' = true) (b1 : k + m ≤ maxLen) (b2 : (k + m) * bytes ≤ 140737488355328) (b3 : base ≤ w.heap.size)
    (hK : ∀ v' w', w'.ownsRow base e size v' (k + m) (xs ++ news) → w.grownBy w' v.ownBlock → (v' = .slice none 0 0 ↔ v = .slice none 0 0 ∧ m = 0) → K (a.put o.dst v') w') :
    if Region.wanted o (yielded ops a.tmps) = true then Oper.wpIn F n P o a w K Q else E := by
  have hw : Region.wanted o (yielded ops a.tmps) = true := by simp [Region.wanted, hg]
  rw [if_pos hw]
  obtain ⟨v', w', hrun, r1, r2, r3⟩ := run_append_own (P := P) w base t o.type e i z size bytes h1 h2 h3 h4 h5 h6 h7 v k xs hown ad m c news hn hc h1c b1 b2 b3
  unfold Oper.wpIn
  refine ⟨?_, ?_⟩
  · simp [Oper.about, hop, resolve, Target.leads, Sem.run_pure]
  · rw [Oper.semAt_plain F _ _ (by rw [hop]; intro c hc'; cases hc')]
    simp [execOp, hop, resolve, invoke, builtin, hs, hx, hrun, Result.andThen]
    exact hK _ _ r1 r2 r3

set_option maxRecDepth 100000 in
set_option maxHeartbeats 2000000 in
theorem steps_err (s : ByteArray) (hs : s.size ≤ 100000) (c : Int) (hc : chk (lA s) = c) (h0 : c ≠ 0) (w : World) (hl : Len w) :
    Calls Try.prog 11 #[.string s] w (StepsEnd c [] w) := by
  have K1 := Lib.hid (fun w hl => check_v s hs c hc w hl)
  have HL := Lib.hid hl
  have h1 : (c != 0) = true := bne_iff_ne.2 h0
  clear hc hl
  go_enter Try.func11, Try.ntmps11
  go_wp2_with fail
  refine (K1.out _ HL.out).mono ?_
  rintro e w1 ⟨rfl, hb⟩
  have HB := Lib.hid hb
  clear hb
  go_wp2_with fail
  refine bodyPost_ret (v := .tuple #[.slice none 0 0, .int .i64 c]) (by simp [results, Try.results11, go_sem]) rfl ⟨⟨none, 0, rfl, Sl.nil _⟩, HB.out⟩

set_option maxRecDepth 100000 in
set_option maxHeartbeats 2000000 in
theorem steps_fine (s : ByteArray) (hs : s.size ≤ 100000) (hc : chk (lA s) = 0) (w : World) (hl : Len w) :
    Calls Try.prog 11 #[.string s] w (StepsEnd 0 (cutL (lA s)) w) := by
  have K1 := Lib.hid (fun w hl => check_v s hs 0 hc w hl)
  have HL := Lib.hid hl
  have HN : Hid ((cutL (lA s)).length ≤ 200000) := Lib.hid (cutL_few hs)
  obtain ⟨i0, hi, hz0, hz1, hz2⟩ := info_parts info_strs
  have HI := Lib.hid hi
  have HZ0 := Lib.hid hz0
  have HZ1 := Lib.hid hz1
  have HZ2 := Lib.hid hz2
  clear hc hl hi hz0 hz1 hz2
  refine (callsIn_wide (n := 8)).1 ?_
  refine callsIn_of_wp_marks Try.func11 rfl trivial ?_ rfl
  simp only [Try.ntmps11, List.size_toArray, List.length_cons, List.length_nil, Nat.reduceAdd, Nat.reduceSub, Array.replicate_succ, Array.replicate_zero, List.push_toArray, List.append_toArray, List.nil_append, List.cons_append]
  gi_wp2_with fail
  refine ⟨trivial, ?_⟩
  refine (callsIn_wide.2 (K1.out _ HL.out)).mono ?_
  rintro e w1 ⟨rfl, hb⟩
  have HB1 := Lib.hid hb
  have HL1 := Lib.hid (HL.out.later hb)
  clear hb
  gi_wp2_with fail
  refine ⟨trivial, ?_⟩
  refine (callsIn_wide.2 (steps_any s _)).mono ?_
  rintro e ws ⟨rfl, rfl⟩
  gi_wp2_with fail
  obtain ⟨W0, hW0⟩ : ∃ W0, W0 = (w1.alloc (.cells #[.slice none 0 0] 22)).alloc (.cells #[.string s] 58) := ⟨_, rfl⟩
  have hsz : W0.heap.size = w1.heap.size + 2 := by rw [hW0]; simp
  have HB0 : Hid (Below w.heap.size w W0) := Lib.hid (by rw [hW0]; exact (HB1.out.alloc HB1.out.size _).alloc (by have := HB1.out.size; simp; omega) _)
  have HV0 : Hid (Boxed W0 w1.heap.size 22 (.slice none 0 0)) := Lib.hid (by rw [hW0]; exact (Boxed.new w1 22 (.slice none 0 0)).alloc _)
  have HP0 : Hid (W0.cell? ⟨w1.heap.size + 1, 0, none⟩ = some (.string s)) := Lib.hid (by rw [hW0]; simp)
  rw [← hW0]
  clear hW0
  have HSz := Lib.hid hsz
  clear hsz
  refine wpIn_rangeFunc_ownG rfl (by omega) (gf := 53 ) (lb := #[.pointer (some ⟨w1.heap.size + 1, 0, none⟩)]) rfl trivial (enters_of Try.func53 (by kernel_rfl) rfl)
    (steps_stops 7 (w1.heap.size + 1) w.heap.size s hs HL.out.lt W0 HB0.out.size (by rw [HSz.out]; omega) HP0.out (HL.out.later HB0.out)) belowK_t (belowK_b HB0.out.size) (Below.refl _ _) (fun _ => rfl)
    (fun pre W => (∃ v, Boxed W w1.heap.size 22 v ∧ W.ownsRow w.heap.size 9 1 v pre.length ((pre.map clip).map sV) ∧ (v = .slice none 0 0 ↔ pre = [])) ∧ Below w.heap.size w W)
    (fun _ _ _ => False)
    (OwnFrom.and (Own.from (holdsRow_own w.heap.size w1.heap.size 22 9 1 (fun pre => pre.length) (fun pre => (pre.map clip).map sV) (fun pre v => (v = .slice none 0 0 ↔ pre = []))) _) (ownFrom_below (Nat.le_refl _) HB0.out.size))
    (fun c => ownFrom_pure _ _)
    ⟨⟨_, HV0.out, World.ownsRow_nil _ _ _ _, by simp⟩, HB0.out⟩
    (fun x => { tmps := #[.string s, undef, .slice none 0 0, .int .i64 0, .int .i64 0, .pointer (some ⟨w1.heap.size, 0, none⟩), sV (clip x), .string s, .int .i64 0, .int .i64 0, .bool false, undef, .string s, .func (.func 53 ) #[] #[.pointer (some ⟨w1.heap.size + 1, 0, none⟩)], sV (clip x), undef, undef, undef, undef, undef, undef], defers := [] }) ?assign ?body ?done ?stop
  case assign =>
    intro l x W K hK
    gi_wp2
    exact hK
  case body =>
    rintro l pre x W ⟨⟨v, hv, hr, hG⟩, hB⟩ hlt
    have HV := Lib.hid hv
    have HR := Lib.hid hr
    have HG := Lib.hid hG
    have HB := Lib.hid hB
    have HLt : Hid (pre.length < 200000) := Lib.hid (Nat.lt_of_lt_of_le hlt HN.out)
    clear hv hr hG hB hlt
    have hc0 := HV.out.cell
    have hf0 := HV.out.frozen
    have hlt0 := HV.out.lt
    gi_wp2_with fail
    refine wpIn_region_any (by kernel_rfl) ?_
    change wpAnyIn _ _ _ _ _ _ _ _ _ (World.drew _)
    refine wpAnyIn_ready (rs := [0, 1]) (by kernel_rfl) (by simp) ?_
    refine AllReadyIn.cons rfl (fun K hK => ?_) ?_
    · go_simp
      refine hK _ _ ?_
      clear hK K
      refine wpAnyIn_ready (rs := [1]) (by kernel_rfl) (by simp) ?_
      refine AllReadyIn.cons rfl (fun K hK => ?_) ?_
      · go_simp
        refine hK _ _ ?_
        clear hK K
        refine wpAnyIn_ready (rs := [2]) (by kernel_rfl) (by simp) ?_
        refine AllReadyIn.cons rfl (fun K hK => ?_) ?_
        · gi_wp2_with fail
          refine ⟨trivial, ?_⟩
          refine (CallsIn.inRound l (callsIn_wide.2 (clone_lib (bA (clip x)) (by rw [bA_size]; exact clip_len x) _))).mono ?_
          rintro e w2 ⟨rfl, hb⟩
          have HV2 := Lib.hid (boxed_below (W := W.drew) HV.out hb)
          have HR2 := Lib.hid (owns_below2 (w := W.drew) HR.out hb)
          have HK2 := Lib.hid ((KeepsOthers.drew W).from W0.heap.size |>.trans (keeps_of_below hb W0.heap.size))
          have HBW := Lib.hid ((Below.refl w.heap.size W).drew.trans (hb.mono HB.out.size))
          have HB2 := Lib.hid (HB.out.trans HBW.out)
          have hc2 := HV2.out.cell
          have hf2 := HV2.out.frozen
          have hlt2 := HV2.out.lt
          clear hb
          gi_wp2_with fail
          refine wpAnyIn_ready (rs := [3]) (by kernel_rfl) (by simp) ?_
          refine AllReadyIn.cons rfl (fun K hK => ?_) ?_
          · go_simp
            refine hK _ _ ?_
            clear hK K
            refine wpAnyIn_ready (rs := [4]) (by kernel_rfl) (by simp) ?_
            refine AllReadyIn.cons rfl (fun K hK => ?_) ?_
            · refine stepIn_append_own _ rfl _ _ 22 rfl w.heap.size 9 i0 (.string ByteArray.empty) 1 16 Try.underlying22 HI.out HZ0.out HZ1.out HZ2.out rfl (by decide) _ _ _ rfl (HR2.out.alloc _) ⟨w2.heap.size, 0, none⟩ 1 1 [sV (clip x)] rfl rfl (cell_one_new _ _ _) (by simp [Value.oneCell']) (by have := HLt.out; unfold maxLen; omega) (by have := HLt.out; omega) (by have := HB2.out.size; simp; omega) ?_
              intro v' w3 hown' hgrow _
              obtain ⟨g', cap', rfl⟩ := ownsRow_succ hown'
              obtain ⟨hv1, hv2, hr2, hk2, hb2⟩ := HV2.out.appended (by decide) HR2.out HB2.out.size HB1.out.size hown' hgrow
              have hc3 := hv1.cell
              have hf3 := hv1.frozen
              have hl3 := hv1.lt
              have HV3 := Lib.hid hv2
              have HR3 := Lib.hid hr2
              have HK3 := Lib.hid hk2
              have HB3 := Lib.hid hb2
              clear hv1 hv2 hr2 hk2 hb2 hown' hgrow
              refine hK _ _ ?_
              clear hK K
              refine wpAnyIn_ready (rs := [5]) (by kernel_rfl) (by simp) ?_
              refine AllReadyIn.cons rfl (fun K hK => ?_) ?_
              · go_simp
                refine hK _ _ ?_
                clear hK K
                refine wpAnyIn_done (by kernel_rfl) ?_ _
                try gi_wp2_with fail
                refine ⟨HK2.out.trans (HK3.out.from _), HBW.out.trans HB3.out, ⟨_, HV3.out, ?_, by simp⟩, HB2.out.trans HB3.out⟩
                have := HR3.out
                rw [List.map_append, List.map_append, List.length_append]
                exact this
              exact AllReadyIn.nil
            exact AllReadyIn.nil
          exact AllReadyIn.nil
        exact AllReadyIn.nil
      exact AllReadyIn.nil
    refine AllReadyIn.cons rfl (fun K hK => ?_) ?_
    · go_simp
      refine hK _ _ ?_
      clear hK K
      refine wpAnyIn_ready (rs := [0, 2]) (by kernel_rfl) (by simp) ?_
      refine AllReadyIn.cons rfl (fun K hK => ?_) ?_
      · go_simp
        refine hK _ _ ?_
        clear hK K
        refine wpAnyIn_ready (rs := [2]) (by kernel_rfl) (by simp) ?_
        refine AllReadyIn.cons rfl (fun K hK => ?_) ?_
        · gi_wp2_with fail
          refine ⟨trivial, ?_⟩
          refine (CallsIn.inRound l (callsIn_wide.2 (clone_lib (bA (clip x)) (by rw [bA_size]; exact clip_len x) _))).mono ?_
          rintro e w2 ⟨rfl, hb⟩
          have HV2 := Lib.hid (boxed_below (W := W.drew) HV.out hb)
          have HR2 := Lib.hid (owns_below2 (w := W.drew) HR.out hb)
          have HK2 := Lib.hid ((KeepsOthers.drew W).from W0.heap.size |>.trans (keeps_of_below hb W0.heap.size))
          have HBW := Lib.hid ((Below.refl w.heap.size W).drew.trans (hb.mono HB.out.size))
          have HB2 := Lib.hid (HB.out.trans HBW.out)
          have hc2 := HV2.out.cell
          have hf2 := HV2.out.frozen
          have hlt2 := HV2.out.lt
          clear hb
          gi_wp2_with fail
          refine wpAnyIn_ready (rs := [3]) (by kernel_rfl) (by simp) ?_
          refine AllReadyIn.cons rfl (fun K hK => ?_) ?_
          · go_simp
            refine hK _ _ ?_
            clear hK K
            refine wpAnyIn_ready (rs := [4]) (by kernel_rfl) (by simp) ?_
            refine AllReadyIn.cons rfl (fun K hK => ?_) ?_
            · refine stepIn_append_own _ rfl _ _ 22 rfl w.heap.size 9 i0 (.string ByteArray.empty) 1 16 Try.underlying22 HI.out HZ0.out HZ1.out HZ2.out rfl (by decide) _ _ _ rfl (HR2.out.alloc _) ⟨w2.heap.size, 0, none⟩ 1 1 [sV (clip x)] rfl rfl (cell_one_new _ _ _) (by simp [Value.oneCell']) (by have := HLt.out; unfold maxLen; omega) (by have := HLt.out; omega) (by have := HB2.out.size; simp; omega) ?_
              intro v' w3 hown' hgrow _
              obtain ⟨g', cap', rfl⟩ := ownsRow_succ hown'
              obtain ⟨hv1, hv2, hr2, hk2, hb2⟩ := HV2.out.appended (by decide) HR2.out HB2.out.size HB1.out.size hown' hgrow
              have hc3 := hv1.cell
              have hf3 := hv1.frozen
              have hl3 := hv1.lt
              have HV3 := Lib.hid hv2
              have HR3 := Lib.hid hr2
              have HK3 := Lib.hid hk2
              have HB3 := Lib.hid hb2
              clear hv1 hv2 hr2 hk2 hb2 hown' hgrow
              refine hK _ _ ?_
              clear hK K
              refine wpAnyIn_ready (rs := [5]) (by kernel_rfl) (by simp) ?_
              refine AllReadyIn.cons rfl (fun K hK => ?_) ?_
              · go_simp
                refine hK _ _ ?_
                clear hK K
                refine wpAnyIn_done (by kernel_rfl) ?_ _
                try gi_wp2_with fail
                refine ⟨HK2.out.trans (HK3.out.from _), HBW.out.trans HB3.out, ⟨_, HV3.out, ?_, by simp⟩, HB2.out.trans HB3.out⟩
                have := HR3.out
                rw [List.map_append, List.map_append, List.length_append]
                exact this
              exact AllReadyIn.nil
            exact AllReadyIn.nil
          exact AllReadyIn.nil
        exact AllReadyIn.nil
      refine AllReadyIn.cons rfl (fun K hK => ?_) ?_
      · gi_wp2_with fail
        refine ⟨trivial, ?_⟩
        refine (CallsIn.inRound l (callsIn_wide.2 (clone_lib (bA (clip x)) (by rw [bA_size]; exact clip_len x) _))).mono ?_
        rintro e w2 ⟨rfl, hb⟩
        have HV2 := Lib.hid (boxed_below (W := W.drew) HV.out hb)
        have HR2 := Lib.hid (owns_below2 (w := W.drew) HR.out hb)
        have HK2 := Lib.hid ((KeepsOthers.drew W).from W0.heap.size |>.trans (keeps_of_below hb W0.heap.size))
        have HBW := Lib.hid ((Below.refl w.heap.size W).drew.trans (hb.mono HB.out.size))
        have HB2 := Lib.hid (HB.out.trans HBW.out)
        have hc2 := HV2.out.cell
        have hf2 := HV2.out.frozen
        have hlt2 := HV2.out.lt
        clear hb
        gi_wp2_with fail
        refine wpAnyIn_ready (rs := [0, 3]) (by kernel_rfl) (by simp) ?_
        refine AllReadyIn.cons rfl (fun K hK => ?_) ?_
        · go_simp
          refine hK _ _ ?_
          clear hK K
          refine wpAnyIn_ready (rs := [3]) (by kernel_rfl) (by simp) ?_
          refine AllReadyIn.cons rfl (fun K hK => ?_) ?_
          · go_simp
            refine hK _ _ ?_
            clear hK K
            refine wpAnyIn_ready (rs := [4]) (by kernel_rfl) (by simp) ?_
            refine AllReadyIn.cons rfl (fun K hK => ?_) ?_
            · refine stepIn_append_own _ rfl _ _ 22 rfl w.heap.size 9 i0 (.string ByteArray.empty) 1 16 Try.underlying22 HI.out HZ0.out HZ1.out HZ2.out rfl (by decide) _ _ _ rfl (HR2.out.alloc _) ⟨w2.heap.size, 0, none⟩ 1 1 [sV (clip x)] rfl rfl (cell_one_new _ _ _) (by simp [Value.oneCell']) (by have := HLt.out; unfold maxLen; omega) (by have := HLt.out; omega) (by have := HB2.out.size; simp; omega) ?_
              intro v' w3 hown' hgrow _
              obtain ⟨g', cap', rfl⟩ := ownsRow_succ hown'
              obtain ⟨hv1, hv2, hr2, hk2, hb2⟩ := HV2.out.appended (by decide) HR2.out HB2.out.size HB1.out.size hown' hgrow
              have hc3 := hv1.cell
              have hf3 := hv1.frozen
              have hl3 := hv1.lt
              have HV3 := Lib.hid hv2
              have HR3 := Lib.hid hr2
              have HK3 := Lib.hid hk2
              have HB3 := Lib.hid hb2
              clear hv1 hv2 hr2 hk2 hb2 hown' hgrow
              refine hK _ _ ?_
              clear hK K
              refine wpAnyIn_ready (rs := [5]) (by kernel_rfl) (by simp) ?_
              refine AllReadyIn.cons rfl (fun K hK => ?_) ?_
              · go_simp
                refine hK _ _ ?_
                clear hK K
                refine wpAnyIn_done (by kernel_rfl) ?_ _
                try gi_wp2_with fail
                refine ⟨HK2.out.trans (HK3.out.from _), HBW.out.trans HB3.out, ⟨_, HV3.out, ?_, by simp⟩, HB2.out.trans HB3.out⟩
                have := HR3.out
                rw [List.map_append, List.map_append, List.length_append]
                exact this
              exact AllReadyIn.nil
            exact AllReadyIn.nil
          exact AllReadyIn.nil
        refine AllReadyIn.cons rfl (fun K hK => ?_) ?_
        · go_simp
          refine hK _ _ ?_
          clear hK K
          refine wpAnyIn_ready (rs := [0]) (by kernel_rfl) (by simp) ?_
          refine AllReadyIn.cons rfl (fun K hK => ?_) ?_
          · go_simp
            refine hK _ _ ?_
            clear hK K
            refine wpAnyIn_ready (rs := [4]) (by kernel_rfl) (by simp) ?_
            refine AllReadyIn.cons rfl (fun K hK => ?_) ?_
            · refine stepIn_append_own _ rfl _ _ 22 rfl w.heap.size 9 i0 (.string ByteArray.empty) 1 16 Try.underlying22 HI.out HZ0.out HZ1.out HZ2.out rfl (by decide) _ _ _ rfl (HR2.out.alloc _) ⟨w2.heap.size, 0, none⟩ 1 1 [sV (clip x)] rfl rfl (cell_one_new _ _ _) (by simp [Value.oneCell']) (by have := HLt.out; unfold maxLen; omega) (by have := HLt.out; omega) (by have := HB2.out.size; simp; omega) ?_
              intro v' w3 hown' hgrow _
              obtain ⟨g', cap', rfl⟩ := ownsRow_succ hown'
              obtain ⟨hv1, hv2, hr2, hk2, hb2⟩ := HV2.out.appended (by decide) HR2.out HB2.out.size HB1.out.size hown' hgrow
              have hc3 := hv1.cell
              have hf3 := hv1.frozen
              have hl3 := hv1.lt
              have HV3 := Lib.hid hv2
              have HR3 := Lib.hid hr2
              have HK3 := Lib.hid hk2
              have HB3 := Lib.hid hb2
              clear hv1 hv2 hr2 hk2 hb2 hown' hgrow
              refine hK _ _ ?_
              clear hK K
              refine wpAnyIn_ready (rs := [5]) (by kernel_rfl) (by simp) ?_
              refine AllReadyIn.cons rfl (fun K hK => ?_) ?_
              · go_simp
                refine hK _ _ ?_
                clear hK K
                refine wpAnyIn_done (by kernel_rfl) ?_ _
                try gi_wp2_with fail
                refine ⟨HK2.out.trans (HK3.out.from _), HBW.out.trans HB3.out, ⟨_, HV3.out, ?_, by simp⟩, HB2.out.trans HB3.out⟩
                have := HR3.out
                rw [List.map_append, List.map_append, List.length_append]
                exact this
              exact AllReadyIn.nil
            exact AllReadyIn.nil
          exact AllReadyIn.nil
        exact AllReadyIn.nil
      exact AllReadyIn.nil
    exact AllReadyIn.nil
  case done =>
    rintro D ys W hD rfl ⟨⟨v, hv, hr, hG⟩, hB⟩ hK
    have HV := Lib.hid hv
    have HB := Lib.hid hB
    have HK := Lib.hid hK
    have hD2 : w.heap.size ≤ D := Nat.le_trans HB0.out.size hD
    have hr2 := ownsRow_putObj hr (.deferred none) hK rfl
    rw [clips (fun x hx => Nat.le_trans (cutL_len hx) (by rw [lA_len]; omega))] at hr2
    obtain ⟨a, cap, rfl, hS⟩ := sl_of_owned hr2 hG
    have HS := Lib.hid hS
    have hlt1 := hv.lt
    have hc1 := hv.cell
    have hf1 := hv.frozen
    clear hB hK hv hG hr hD hr2 hS
    gi_wp2_with fail
    refine ⟨by simp, .inl ⟨_, _, rfl, run_takeDeferred HK.out, ?_⟩⟩
    refine ⟨.tuple #[.slice a (cutL (lA s)).length cap, .int .i64 0], by simp [results, Try.f11, go_sem], ⟨⟨a, cap, rfl, HS.out⟩, ?_⟩⟩
    exact HB.out.trans (belowK_b (w := w) (Nat.le_refl _) _ D _ _ hD2 HK.out rfl rfl)
  case stop =>
    rintro D cc pre W hD hpre h hK
    exact h.elim
theorem steps_api (s : ByteArray) (hs : s.size ≤ 100000) (c : Int) (hc : chk (lA s) = c) (xs : List Bs) (n : Nat) (hx : stpR (lA s) = xs) (hn : xs.length = n) (w : World) (hl : Len w) :
    Calls Try.prog 11 #[.string s] w fun e w' => (∃ a cap, e = .returned (.tuple #[.slice a n cap, .int .i64 c]) ∧ Sl w' a cap xs) ∧ Below w.heap.size w w' := by
  subst hn
  by_cases h0 : c = 0
  · subst h0
    obtain rfl : cutL (lA s) = xs := by rw [← hx, stpR, if_pos hc]
    exact steps_fine s hs hc w hl
  · obtain rfl : xs = [] := by rw [← hx, stpR, if_neg (fun e => h0 (hc.symm.trans e))]
    exact steps_err s hs c hc h0 w hl
end Go.Proofs.Ytjladbgidodhbaa
