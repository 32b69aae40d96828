/-
  What parsed of package label hands back.
-/
import Derived.Test.YtjladbgidodhbaaLabCmp
import Derived.Maps.AppendAt
namespace Go.Proofs.Ytjladbgidodhbaa
open Go.RowKit Go.Shelf
open LM
set_option linter.unusedVariables false
set_option linter.unusedSimpArgs false
attribute [local go_sem] Oper.semAt_some

/-- The two cells of a step's parts. -/
def sP (x : Bs) : List Value := [.string (bA (stN x)), .int .i64 (stI x)]
def sPs (xs : List Bs) : List Value := xs.flatMap sP
theorem sPs_snoc (xs : List Bs) (x : Bs) : sPs (xs ++ [x]) = sPs xs ++ sP x := by simp [sPs]
theorem sPs_len (xs : List Bs) : (sPs xs).length = xs.length * 2 := by
  induction xs with
  | nil => rfl
  | cons x xs ih =>
    have : sPs (x :: xs) = sP x ++ sPs xs := rfl
    rw [this, List.length_append, ih]; simp [sP]; omega
def ParsedEnd (xs : List Bs) (w : World) (e : Ending) (w' : World) : Prop := ∃ v, e = .returned v ∧ w'.ownsRow w.heap.size 66 2 v xs.length (sPs xs) ∧ (v = .slice none 0 0 ↔ xs = []) ∧ Below w.heap.size w w'
theorem info_step : (Try.prog.info? 66).map (fun i => (i.zero, i.size, i.bytes)) = some (some (.agg #[.string ByteArray.empty, .int .i64 0]), 2, 24) := by kernel_rfl
theorem pair_new (w : World) (x y : Value) (t : TypeId) : ∀ j u, [x, y][j]? = some u → (w.alloc (.cells #[x, y] t)).cell? ((⟨w.heap.size, 0, none⟩ : Addr).add j) = some u := by
  intro j u h
  match j, h with
  | 0, h =>
    simp at h; subst h
    exact cell_two0 (heap_alloc_new w _)
  | 1, h =>
    simp at h; subst h
    exact cell_two1 (heap_alloc_new w _)
  | j + 2, h => simp at h
theorem clips {xs : List Bs} (h : ∀ x ∈ xs, x.length ≤ 200000) : xs.map clip = xs := by
  induction xs with
  | nil => rfl
  | cons x xs ih => simp [clip_eq (h x (by simp)), ih (fun y hy => h y (by simp [hy]))]

theorem owns_below2 {w w1 : World} {base n size : Nat} {e : TypeId} {v : Value} {xs : List Value} (h : w.ownsRow base e size v n xs) (hb : Below w.heap.size w w1) : w1.ownsRow base e size v n xs :=
  h.kept (below_grows hb none) (by cases hv : v.ownBlock <;> simp)

set_option maxRecDepth 100000 in
set_option maxHeartbeats 2000000 in
theorem parsed_any (s : ByteArray) (hs : s.size ≤ 100000) (w : World) (hl : Len w) :
    Calls Try.prog 64 #[.string s] w (ParsedEnd (cutL (lA s)) w) := by
  have HL := Lib.hid hl
  have HN : Hid ((cutL (lA s)).length ≤ 200000) := Lib.hid (cutL_few hs)
  obtain ⟨i0, hi, hz0, hz1, hz2⟩ := info_parts info_step
  have HI := Lib.hid hi
  have HZ0 := Lib.hid hz0
  have HZ1 := Lib.hid hz1
  have HZ2 := Lib.hid hz2
  clear hl hi hz0 hz1 hz2
  refine (callsIn_wide (n := 8)).1 ?_
  refine callsIn_of_wp_marks Try.func64 rfl trivial ?_ rfl
  simp only [Try.ntmps64, List.size_toArray, List.length_cons, List.length_nil, Nat.reduceAdd, Nat.reduceSub, Array.replicate_succ, Array.replicate_zero, List.push_toArray, List.append_toArray, List.nil_append, List.cons_append]
  gi_wp2_with fail
  refine ⟨trivial, ?_⟩
  refine (callsIn_wide.2 (steps_any s _)).mono ?_
  rintro e ws ⟨rfl, rfl⟩
  gi_wp2_with fail
  obtain ⟨W0, hW0⟩ : ∃ W0, W0 = (w.alloc (.cells #[.slice none 0 0] 88)).alloc (.cells #[.string s] 58) := ⟨_, rfl⟩
  have hsz : W0.heap.size = w.heap.size + 2 := by rw [hW0]; simp
  have HB0 : Hid (Below w.heap.size w W0) := Lib.hid (by rw [hW0]; exact ((Below.refl _ _).alloc (Nat.le_refl _) _).alloc (by simp) _)
  have HV0 : Hid (Boxed W0 w.heap.size 88 (.slice none 0 0)) := Lib.hid (by rw [hW0]; exact (Boxed.new w 88 (.slice none 0 0)).alloc _)
  have HP0 : Hid (W0.cell? ⟨w.heap.size + 1, 0, none⟩ = some (.string s)) := Lib.hid (by rw [hW0]; simp)
  rw [← hW0]
  clear hW0
  have HSz := Lib.hid hsz
  clear hsz
  refine wpIn_rangeFunc_ownG rfl (by omega) (gf := 53 ) (lb := #[.pointer (some ⟨w.heap.size + 1, 0, none⟩)]) rfl trivial (enters_of Try.func53 (by kernel_rfl) rfl)
    (steps_stops 7 (w.heap.size + 1) w.heap.size s hs HL.out.lt W0 HB0.out.size (by rw [HSz.out]; omega) HP0.out (HL.out.later HB0.out)) belowK_t (belowK_b HB0.out.size) (Below.refl _ _) (fun _ => rfl)
    (fun pre W => (∃ v, Boxed W w.heap.size 88 v ∧ W.ownsRow w.heap.size 66 2 v pre.length (sPs (pre.map clip)) ∧ (v = .slice none 0 0 ↔ pre = [])) ∧ Below w.heap.size w W)
    (fun _ _ _ => False)
    (OwnFrom.and (Own.from (holdsRow_own w.heap.size w.heap.size 88 66 2 (fun pre => pre.length) (fun pre => sPs (pre.map clip)) (fun pre v => (v = .slice none 0 0 ↔ pre = []))) _) (ownFrom_below (Nat.le_refl _) HB0.out.size))
    (fun c => ownFrom_pure _ _)
    ⟨⟨_, HV0.out, World.ownsRow_nil _ _ _ _, by simp⟩, HB0.out⟩
    (fun x => { tmps := #[.string s, undef, .slice none 0 0, .pointer (some ⟨w.heap.size, 0, none⟩), sV (clip x), undef, undef, .string s, .func (.func 53 ) #[] #[.pointer (some ⟨w.heap.size + 1, 0, none⟩)], sV (clip x), undef, undef, undef, undef, undef, undef, undef, undef, undef, undef], defers := [] }) ?assign ?body ?done ?stop
  case assign =>
    intro l x W K hK
    gi_wp2
    exact hK
  case body =>
    rintro l pre x W ⟨⟨v, hv, hr, hG⟩, hB⟩ hlt
    have HV := Lib.hid hv
    have HR := Lib.hid hr
    have HG := Lib.hid hG
    have HB := Lib.hid hB
    have HLt : Hid (pre.length < 200000) := Lib.hid (Nat.lt_of_lt_of_le hlt HN.out)
    clear hv hr hG hB hlt
    have HLW := Lib.hid (HL.out.later HB.out)
    gi_wp2_with fail
    refine ⟨trivial, ?_⟩
    refine (CallsIn.inRound l (callsIn_wide.2 (parse_l (clip x) (clip_len x) W HLW.out))).mono ?_
    rintro e w1 ⟨rfl, hb⟩
    obtain ⟨a, ha⟩ : ∃ a, stN (clip x) = a := ⟨_, rfl⟩
    obtain ⟨n, hn⟩ : ∃ n, stI (clip x) = n := ⟨_, rfl⟩
    have HX : Hid (sP (clip x) = [.string (bA a), .int .i64 n]) := Lib.hid (by rw [← ha, ← hn]; rfl)
    rw [ha, hn]
    clear ha hn
    obtain ⟨ob, hob⟩ : ∃ ob, ob = Obj.cells #[.string (bA a), .int .i64 n] 66 := ⟨_, rfl⟩
    have HV1 := Lib.hid ((boxed_below HV.out hb).alloc ob)
    have HR1 := Lib.hid ((owns_below2 HR.out hb).alloc ob)
    have HK1 := Lib.hid ((keeps_of_below hb W0.heap.size).trans ((KeepsOthers.alloc w1 ob).from _))
    have HBW := Lib.hid ((hb.mono HB.out.size).alloc (Nat.le_trans HB.out.size hb.size) ob)
    have HB1 := Lib.hid (HB.out.trans HBW.out)
    have hc1 := (boxed_below HV.out hb).cell
    have hf1 := (boxed_below HV.out hb).frozen
    have hlt1 := (boxed_below HV.out hb).lt
    have HNw := Lib.hid (pair_new (w1.alloc ob) (.string (bA a)) (.int .i64 n) 66)
    have hs1 : (w1.alloc ob).heap.size = w1.heap.size + 1 := by simp
    rw [hs1] at HNw
    rw [hob] at HV1 HR1 HK1 HBW HB1 HNw
    clear hb hob hs1
    gi_wp2_with (gi_at_builtin; refine wpListIn_append_own _ rfl _ _ 88 rfl w.heap.size 66 i0 (.agg #[.string ByteArray.empty, .int .i64 0]) 2 24 Try.underlying88 HI.out HZ0.out HZ1.out HZ2.out rfl (by decide) _ _ _ rfl (HR1.out.alloc _) ⟨w1.heap.size + 1, 0, none⟩ 1 1 [.string (bA a), .int .i64 n] rfl rfl HNw.out (by simp [Value.oneCell']) (by have := HLt.out; unfold maxLen; omega) (by have := HLt.out; omega) (by have := HB1.out.size; simp at this ⊢; omega) ?_; intro v' w2 hown' hgrow _; obtain ⟨g', cap', rfl⟩ := ownsRow_succ hown'; obtain ⟨hv1, hv2, hr2, hk2, hb2⟩ := HV1.out.appended (by decide) HR1.out HB1.out.size (Nat.le_refl _) hown' hgrow; have hc2 := hv1.cell; have hf2 := hv1.frozen; have hl2 := hv1.lt; have HV2 := Lib.hid hv2; have HR2 := Lib.hid hr2; have HK2 := Lib.hid hk2; have HB2 := Lib.hid hb2; clear hv1 hv2 hr2 hk2 hb2 hown' hgrow)
    refine ⟨HK1.out.trans (HK2.out.from _), HBW.out.trans HB2.out, ⟨_, HV2.out, ?_, by simp⟩, HB1.out.trans HB2.out⟩
    have := HR2.out
    rw [List.map_append, List.map_cons, List.map_nil, sPs_snoc, HX.out, List.length_append]
    exact this
  case done =>
    rintro D ys W hD rfl ⟨⟨v, hv, hr, hG⟩, hB⟩ hK
    have HV := Lib.hid hv
    have HB := Lib.hid hB
    have HK := Lib.hid hK
    have HG := Lib.hid hG
    have HR := Lib.hid hr
    have hD2 : w.heap.size ≤ D := Nat.le_trans HB0.out.size hD
    clear hB hK hv hG hr hD
    have hlt1 := HV.out.lt
    have hc1 := HV.out.cell
    have hf1 := HV.out.frozen
    gi_wp2_with fail
    refine ⟨by simp, .inl ⟨_, _, rfl, run_takeDeferred HK.out, ?_⟩⟩
    refine ⟨v, by simp [results, Try.f64, go_sem], ⟨v, rfl, ?_, HG.out, ?_⟩⟩
    · have := ownsRow_putObj HR.out (.deferred none) HK.out rfl
      rwa [clips (fun x hx => Nat.le_trans (cutL_len hx) (by rw [lA_len]; omega))] at this
    · exact HB.out.trans (belowK_b (w := w) (Nat.le_refl _) _ D _ _ hD2 HK.out rfl rfl)
  case stop =>
    rintro D cc pre W hD hpre h hK
    exact h.elim
end Go.Proofs.Ytjladbgidodhbaa
