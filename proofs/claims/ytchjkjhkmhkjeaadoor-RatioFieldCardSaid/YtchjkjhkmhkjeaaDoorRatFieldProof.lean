/-
  RatioField: for any two pairs of numbers, if both are valid: sums and products do not depend on the order, a difference added and a quotient multiplied give the number again. No condition but the laid tables, which the card ties.
-/
import Derived.Test.YtchjkjhkmhkjeaaDoorRatField
import Derived.Test.YtchjkjhkmhkjeaaDoorRatCard
namespace Go.Proofs.YtchjkjhkmhkjeaaDoor.ratioFieldDone
open Go.ChangeShapes Go.WideShapes Go.ChangeAt Go.RowKit Go.Joins Go.Deep
set_option maxRecDepth 100000
open RatCard RM
set_option linter.unusedVariables false
set_option linter.unusedSimpArgs false

theorem walk (an ad bn bd : Int) (w : World) (ht : Tab w) :
    Calls Tryd.prog 5 #[.agg #[.int .i64 an, .int .i64 ad], .agg #[.int .i64 bn, .int .i64 bd]] w fun e w' => e = .returned (.bool true) ∧ Below w.heap.size w w' := by
  cases hab : (vld an ad && vld bn bd) with
  | false => exact field_unfit an ad bn bd hab w ht
  | true =>
    rw [Bool.and_eq_true] at hab
    obtain ⟨ha, hb⟩ := hab
    have hb1 := (vld_iff.1 hb).1
    have ha1 := (vld_iff.1 ha).1
    have A2 := fun w => add_valid hb ha w
    rw [show bn * ad + an * bd = an * bd + bn * ad by grind, show bd * ad = ad * bd by grind] at A2
    have M2 := fun w => mul_valid hb ha w
    rw [show bn * an = an * bn by grind, show bd * ad = ad * bd by grind] at M2
    have S1 := fun w => sub_valid ha hb w
    have D1 := fun w => div_valid ha hb w
    have go : ∀ (kn kd ke on od oe mn md me qn qd qe : Int),
        (∀ w, Calls Tryd.prog 24 #[.agg #[.int .i64 an, .int .i64 ad], .agg #[.int .i64 bn, .int .i64 bd]] w fun e w' => e = .returned (.tuple #[.agg #[.int .i64 kn, .int .i64 kd], .int .i64 ke]) ∧ Below w.heap.size w w') →
        (∀ w, Calls Tryd.prog 18 #[.agg #[.int .i64 kn, .int .i64 kd], .agg #[.int .i64 bn, .int .i64 bd]] w fun e w' => e = .returned (.tuple #[.agg #[.int .i64 mn, .int .i64 md], .int .i64 me]) ∧ Below w.heap.size w w') →
        (∀ w, Calls Tryd.prog 16 #[.agg #[.int .i64 an, .int .i64 ad], .agg #[.int .i64 bn, .int .i64 bd]] w fun e w' => e = .returned (.tuple #[.agg #[.int .i64 on, .int .i64 od], .int .i64 oe]) ∧ Below w.heap.size w w') →
        (∀ w, Calls Tryd.prog 23 #[.agg #[.int .i64 on, .int .i64 od], .agg #[.int .i64 bn, .int .i64 bd]] w fun e w' => e = .returned (.tuple #[.agg #[.int .i64 qn, .int .i64 qd], .int .i64 qe]) ∧ Below w.heap.size w w') →
        (ke = 0 → mn = an ∧ md = ad ∧ me = 0) → (bn = 0 ∧ oe = 18 ∨ bn ≠ 0 ∧ oe = 0 ∧ qn = an ∧ qd = ad ∧ qe = 0 ∨ bn ≠ 0 ∧ oe = 16) →
        Calls Tryd.prog 5 #[.agg #[.int .i64 an, .int .i64 ad], .agg #[.int .i64 bn, .int .i64 bd]] w fun e w' => e = .returned (.bool true) ∧ Below w.heap.size w w' := by
      intro kn kd ke on od oe mn md me qn qd qe h5 h6 h7 h8 hs hd
      by_cases hk : ke = 0
      · obtain ⟨e1, e2, e3⟩ := hs hk
        rw [hk] at h5
        rw [e1, e2, e3] at h6
        rcases hd with ⟨hb0, ho⟩ | ⟨hb0, ho, e4, e5, e6⟩ | ⟨hb0, ho⟩
        · rw [ho] at h7
          exact field_sub_zero an ad bn bd _ _ _ _ _ _ kn kd 0 0 0 0 on od qn qd qe ⟨ha, hb⟩ (by rw [hb0]; rfl) (fun w => add_valid ha hb w) A2 (fun w => mul_valid ha hb w) M2 h5 h6 h7 h8 w ht
        · rw [ho] at h7
          rw [e4, e5, e6] at h8
          exact field_sub_ok an ad bn bd _ _ _ _ _ _ kn kd 0 0 0 0 on od 0 0 0 ⟨ha, hb⟩ (beq_eq_false_iff_ne.2 hb0) (fun w => add_valid ha hb w) A2 (fun w => mul_valid ha hb w) M2 h5 h6 h7 h8 w ht
        · rw [ho] at h7
          exact field_sub_range an ad bn bd _ _ _ _ _ _ kn kd 0 0 0 0 on od qn qd qe ⟨ha, hb⟩ (beq_eq_false_iff_ne.2 hb0) (fun w => add_valid ha hb w) A2 (fun w => mul_valid ha hb w) M2 h5 h6 h7 h8 w ht
      · have hke := beq_eq_false_iff_ne.2 hk
        rcases hd with ⟨hb0, ho⟩ | ⟨hb0, ho, e4, e5, e6⟩ | ⟨hb0, ho⟩
        · rw [ho] at h7
          exact field_nosub_zero an ad bn bd _ _ _ _ _ _ kn kd ke mn md me on od qn qd qe ⟨ha, hb⟩ (by rw [hb0]; rfl) hke (fun w => add_valid ha hb w) A2 (fun w => mul_valid ha hb w) M2 h5 h6 h7 h8 w ht
        · rw [ho] at h7
          rw [e4, e5, e6] at h8
          exact field_nosub_ok an ad bn bd _ _ _ _ _ _ kn kd ke mn md me on od 0 0 0 ⟨ha, hb⟩ (beq_eq_false_iff_ne.2 hb0) hke (fun w => add_valid ha hb w) A2 (fun w => mul_valid ha hb w) M2 h5 h6 h7 h8 w ht
        · rw [ho] at h7
          exact field_nosub_range an ad bn bd _ _ _ _ _ _ kn kd ke mn md me on od qn qd qe ⟨ha, hb⟩ (beq_eq_false_iff_ne.2 hb0) hke (fun w => add_valid ha hb w) A2 (fun w => mul_valid ha hb w) M2 h5 h6 h7 h8 w ht
    refine go _ _ _ _ _ _ _ _ _ _ _ _ S1 (fun w => add_any _ _ bn bd w) D1 (fun w => mul_any _ _ bn bd w) ?_ ?_
    · intro hk
      obtain ⟨r1, r2, r3⟩ := sub_add ha hb hk
      have hv := (mk_spec hk).2.1
      simp only [hv, hb, Bool.and_self, op2N, op2D, op2E, if_true]
      exact ⟨r1, r2, r3⟩
    · by_cases hb0 : bn = 0
      · refine .inl ⟨hb0, ?_⟩
        rw [hb0, Int.mul_zero]; exact mkE_zero _
      · have hY : ad * bn ≠ 0 := Int.mul_ne_zero (by omega) hb0
        rcases mkE_cases (X := an * bd) hY with h0 | h16
        · obtain ⟨r1, r2, r3⟩ := div_mul ha hb hb0 h0
          have hv := (mk_spec h0).2.1
          refine .inr (.inl ⟨hb0, h0, ?_⟩)
          simp only [hv, hb, Bool.and_self, op2N, op2D, op2E, if_true]
          exact ⟨r1, r2, r3⟩
        · exact .inr (.inr ⟨hb0, h16⟩)

theorem contract (H : Type) (enc : TypeId × Value → H) (W : World) (base : Nat) (args : Array Value) (ds gs : List (DataW H)) (before : List MemPlace)
    (hval : ∀ (j : Nat) t v, Tryd.f5.params[j]? = some t → args[j]? = some v → Value.okWide Tryd.prog W .any base t v)
    (hW : DataW.Whole enc Tryd.prog Tryd.f5.params.toList Rows.ratioFieldSpec.vars false W args.toList ds gs before) (hL : laidMetH Tryd.prog Rows.ratioFieldRow.laid W) :
    Calls Tryd.prog 5 args W fun e W' => ∃ v, e = .returned v ∧ Rows.ratioFieldSpec.post enc Tryd.prog Tryd.f5 false true false false W args v W' := by
  have hW' := hW
  obtain ⟨p, q, hA0, hV, rfl, hfz, hnd⟩ := hW
  have hA : DataW.TrodAll enc Tryd.prog W 0 (fun _ => true) true Tryd.f5.params.toList args.toList ds p := hA0
  rw [Tryd.params5] at hA hval
  obtain ⟨v0, vs0, d0, ds0, p0, q0, hargs, rfl, rfl, h0, r0⟩ := trodAll_cons hA
  obtain ⟨v1, vs1, d1, ds1, p1, q1, rfl, rfl, rfl, h1, r1⟩ := trodAll_cons r0
  obtain ⟨rfl, rfl, rfl⟩ := trodAll_nil r1
  obtain rfl : args = #[v0, v1] := by cases args; simp_all
  obtain ⟨rfl, rfl⟩ := trodVars_none hV
  obtain ⟨x0, y0, rfl, rfl, rfl, wx0, wy0⟩ := ratOpens (hval 0 23 v0 rfl rfl) h0
  obtain ⟨x1, y1, rfl, rfl, rfl, wx1, wy1⟩ := ratOpens (hval 1 23 v1 rfl rfl) h1
  clear hA0
  simp only [List.append_nil] at hW'
  refine (walk x0 y0 x1 y1 W (table hL)).mono fun e W' ⟨he, hb⟩ => ?_
  subst he
  exact ⟨_, rfl, _, _, _, [], [], [], hW', (trodAll_cons_mk (shut_bool Tryd.underlying4 _) trodAll_mk0), (trodAll_cons_mk (ratReads enc x0 y0 wx0 wy0 W' _) (trodAll_cons_mk (ratReads enc x1 y1 wx1 wy1 W' _) trodAll_mk0)), rfl, hb.frame _, fun h => by cases h⟩

theorem laid_met (os : Os) : laidMet Tryd.prog Rows.ratioFieldRow.laid ((laidWorld os).forCall (fun _ _ => 0) ⟨#[], #[.agg #[.int .i64 0, .int .i64 0], .agg #[.int .i64 0, .int .i64 0]], []⟩).memory :=
  laidMet_of_run' 8 (by kernel_rfl) (by kernel_rfl)
theorem readsAll (os : Os) {H : Type} (enc : TypeId × Value → H) : ∃ places, DataW.whole enc Tryd.prog ((laidWorld os).forCall (fun _ _ => 0) ⟨#[], #[.agg #[.int .i64 0, .int .i64 0], .agg #[.int .i64 0, .int .i64 0]], []⟩).memory Tryd.f5.params.toList Rows.ratioFieldSpec.vars false (#[.agg #[.int .i64 0, .int .i64 0], .agg #[.int .i64 0, .int .i64 0]] : Array Value).toList 8 = some ([.agg [.lit (.int .i64 0), .lit (.int .i64 0)], .agg [.lit (.int .i64 0), .lit (.int .i64 0)]], [], places) :=
  ⟨[], by kernel_rfl⟩

set_option maxRecDepth 100000 in
theorem lifted (os : Os) (started : os.Started) (H : Type) (enc : TypeId × Value → H) (F : Stop.Interp) :
    ReturnsInHanded {} Tryd.checked os 5 .any ((OpenSpec.ofChange Rows.ratioFieldSpec).preRow enc Tryd.prog Tryd.f5 Rows.ratioFieldRow.domain false Rows.ratioFieldRow.laid) (((OpenSpec.ofChange Rows.ratioFieldSpec).at F).post enc Tryd.prog Tryd.f5 false true false false) := by
  obtain ⟨places, hx⟩ := readsAll os enc
  refine returnsInHanded_of_row (C := Tryd.checked) (s := OpenSpec.ofChange Rows.ratioFieldSpec) own started (by kernel_rfl) Tryd.func5
    (witness_row_at (enc := enc) (C := Tryd.checked) false (laidWorld os) #[.agg #[.int .i64 0, .int .i64 0], .agg #[.int .i64 0, .int .i64 0]] rfl (by kernel_rfl) (by kernel_rfl) (by kernel_rfl)
      (OpenSpec.preRow_of_cond 8 hx (by kernel_rfl) (fun k hk => by cases hk) (by kernel_rfl) (laid_met os))) ?_
  intro W base args ds gs before hval hW _ _ _ hL _ _
  exact contract H enc W base args ds gs before hval hW hL

theorem said : Rows.RatioFieldSaid :=
  OpenClaim.holds_of_cond 5 Tryd.f5 rfl rfl rfl rfl rfl rfl rfl ⟨rfl, rfl, rfl, rfl, rfl⟩ rfl rfl rfl rfl rfl (by kernel_rfl) Tryd.func5 (by kernel_rfl)
    (of_decide_eq_true (by kernel_rfl)) (by unfold Func.isWrapper; first | (rw [if_pos (by decide +kernel)]; kernel_rfl) | (rw [if_neg (by decide +kernel)]; exact ⟨rfl, rfl⟩))
    (fun os started H enc _ F => by rw [OpenClaim.pre_eq_preRow]; exact lifted os started H enc F)

theorem plain (f : FuncId) (fn : Func) (hf : Tryd.pinned.checked.prog.funcNamed "gambrel/gambrellaw01.RatioField" = some f) (hfn : Tryd.pinned.checked.prog.funcs[f]? = some fn) :
    false = Tryd.pinned.checked.prog.looks [] ∧ ∀ (j : Nat) t, fn.params[j]? = some t → Tryd.pinned.checked.prog.wantsStandIn t = false := by
  obtain rfl : f = 5 := Option.some.inj ((show Tryd.prog.funcNamed "gambrel/gambrellaw01.RatioField" = some 5 by kernel_rfl).symm.trans hf) |>.symm
  obtain rfl : fn = Tryd.f5 := (Option.some.inj (Tryd.func5.symm.trans hfn)).symm
  refine ⟨by kernel_rfl, fun j t ht => ?_⟩
  rw [Tryd.params5] at ht
  have ht' := Array.mem_of_getElem? ht
  simp at ht'
  rcases ht' with rfl
  exact (show Tryd.prog.wantsStandIn 23 = false by kernel_rfl)


theorem proved : Rows.RatioFieldCardSaid :=
  Claim7.holds_tied_plain_at .later [] _ _ _ _ said (fun _ h => by cases h) (by kernel_rfl) (fun _ h => by cases h) ratioField_row_tie rfl ⟨rfl, rfl⟩ (by kernel_rfl) rfl plain (by kernel_rfl)
#print axioms proved
end Go.Proofs.YtchjkjhkmhkjeaaDoor.ratioFieldDone
