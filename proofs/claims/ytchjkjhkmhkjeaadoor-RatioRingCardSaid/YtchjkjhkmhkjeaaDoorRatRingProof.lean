/-
  RatioRing: for any three pairs of numbers, if all are valid: sums and products of three do not depend on how they are put together, and a product with a sum is the sum of the products, where nothing is out of range. No condition but the laid tables, which the card ties.
-/
import Derived.Test.YtchjkjhkmhkjeaaDoorRatRingA
import Derived.Test.YtchjkjhkmhkjeaaDoorRatRingB
import Derived.Test.YtchjkjhkmhkjeaaDoorRatRingC
import Derived.Test.YtchjkjhkmhkjeaaDoorRatCard
namespace Go.Proofs.YtchjkjhkmhkjeaaDoor.ratioRingDone
open Go.ChangeShapes Go.WideShapes Go.ChangeAt Go.RowKit Go.Joins Go.Deep
set_option maxRecDepth 100000
open RatCard RM
set_option linter.unusedVariables false
set_option linter.unusedSimpArgs false

/-- A sum the other way around. -/
theorem add_swap {an ad qn qd rn rd : Int} (h : (an * qd + qn * ad) * rd = rn * (ad * qd)) : (qn * ad + an * qd) * rd = rn * (qd * ad) := by
  rw [Int.add_comm, h, Int.mul_comm ad qd]

/-- The sum of two products stands for the product with the sum. -/
theorem sum_of_products {an ad bn bd cn cd sn sd tn td yn yd : Int} (hs : sd ≠ 0) (ht : td ≠ 0) (hc : cd ≠ 0) (e1 : (an * cn) * sd = sn * (ad * cd)) (e2 : (bn * cn) * td = tn * (bd * cd)) (e3 : (sn * td + tn * sd) * yd = yn * (sd * td)) :
    (an * bd + bn * ad) * cn * yd = yn * (ad * bd * cd) := by
  have h1 : sd * td * cd ≠ 0 := Int.mul_ne_zero (Int.mul_ne_zero hs ht) hc
  refine Int.eq_of_mul_eq_mul_left h1 ?_
  have p1 : sd * td * cd * ((an * bd + bn * ad) * cn * yd) = ((an * cn * sd) * (bd * td) + (bn * cn * td) * (ad * sd)) * (cd * yd) := by grind
  have p2 : ((sn * (ad * cd)) * (bd * td) + (tn * (bd * cd)) * (ad * sd)) * (cd * yd) = ((sn * td + tn * sd) * yd) * (ad * bd * cd * cd) := by grind
  rw [p1, e1, e2, p2, e3]; grind

theorem walk (an ad bn bd cn cd : Int) (w : World) (ht : Tab w) :
    Calls Tryd.prog 6 #[.agg #[.int .i64 an, .int .i64 ad], .agg #[.int .i64 bn, .int .i64 bd], .agg #[.int .i64 cn, .int .i64 cd]] w fun e w' => e = .returned (.bool true) ∧ Below w.heap.size w w' := by
  cases hab : (vld an ad && vld bn bd) with
  | false => exact ring_unfit1 an ad bn bd cn cd hab w ht
  | true =>
    rw [Bool.and_eq_true] at hab
    obtain ⟨ha, hb⟩ := hab
    cases hc : vld cn cd with
    | false => exact ring_unfit2 an ad bn bd cn cd ⟨ha, hb⟩ (by rw [hc]; rfl) w ht
    | true =>
      have ha1 := (vld_iff.1 ha).1
      have hb1 := (vld_iff.1 hb).1
      have hc1 := (vld_iff.1 hc).1
      have go : ∀ (pn pd qn qd ln ld rn rd xn xd sn sd tn td yn yd ee ff gg hh ii jj kk ll : Int),
        (∀ w, Calls Tryd.prog 18 #[.agg #[.int .i64 an, .int .i64 ad], .agg #[.int .i64 bn, .int .i64 bd]] w fun e w' => e = .returned (.tuple #[.agg #[.int .i64 pn, .int .i64 pd], .int .i64 ee]) ∧ Below w.heap.size w w') →
        (∀ w, Calls Tryd.prog 18 #[.agg #[.int .i64 bn, .int .i64 bd], .agg #[.int .i64 cn, .int .i64 cd]] w fun e w' => e = .returned (.tuple #[.agg #[.int .i64 qn, .int .i64 qd], .int .i64 ff]) ∧ Below w.heap.size w w') →
        (∀ w, Calls Tryd.prog 18 #[.agg #[.int .i64 pn, .int .i64 pd], .agg #[.int .i64 cn, .int .i64 cd]] w fun e w' => e = .returned (.tuple #[.agg #[.int .i64 ln, .int .i64 ld], .int .i64 gg]) ∧ Below w.heap.size w w') →
        (∀ w, Calls Tryd.prog 18 #[.agg #[.int .i64 an, .int .i64 ad], .agg #[.int .i64 qn, .int .i64 qd]] w fun e w' => e = .returned (.tuple #[.agg #[.int .i64 rn, .int .i64 rd], .int .i64 hh]) ∧ Below w.heap.size w w') →
        (∀ w, Calls Tryd.prog 23 #[.agg #[.int .i64 pn, .int .i64 pd], .agg #[.int .i64 cn, .int .i64 cd]] w fun e w' => e = .returned (.tuple #[.agg #[.int .i64 xn, .int .i64 xd], .int .i64 ii]) ∧ Below w.heap.size w w') →
        (∀ w, Calls Tryd.prog 23 #[.agg #[.int .i64 an, .int .i64 ad], .agg #[.int .i64 cn, .int .i64 cd]] w fun e w' => e = .returned (.tuple #[.agg #[.int .i64 sn, .int .i64 sd], .int .i64 jj]) ∧ Below w.heap.size w w') →
        (∀ w, Calls Tryd.prog 23 #[.agg #[.int .i64 bn, .int .i64 bd], .agg #[.int .i64 cn, .int .i64 cd]] w fun e w' => e = .returned (.tuple #[.agg #[.int .i64 tn, .int .i64 td], .int .i64 kk]) ∧ Below w.heap.size w w') →
        (∀ w, Calls Tryd.prog 18 #[.agg #[.int .i64 sn, .int .i64 sd], .agg #[.int .i64 tn, .int .i64 td]] w fun e w' => e = .returned (.tuple #[.agg #[.int .i64 yn, .int .i64 yd], .int .i64 ll]) ∧ Below w.heap.size w w') →
        (ee = 0 → ff = 0 → gg = 0 → hh = 0 → rn = ln ∧ rd = ld) → (ee = 0 → ii = 0 → jj = 0 → kk = 0 → ll = 0 → yn = xn ∧ yd = xd) →
        Calls Tryd.prog 6 #[.agg #[.int .i64 an, .int .i64 ad], .agg #[.int .i64 bn, .int .i64 bd], .agg #[.int .i64 cn, .int .i64 cd]] w fun e w' => e = .returned (.bool true) ∧ Below w.heap.size w w' := by
        intro pn pd qn qd ln ld rn rd xn xd sn sd tn td yn yd ee ff gg hh ii jj kk ll h1 h2 h3 h4 h5 h6 h7 h8 s1 s2
        by_cases he : ee = 0
        case neg => exact ring_e an ad bn bd cn cd pn pd qn qd ln ld rn rd xn xd sn sd tn td yn yd ee ff gg hh ii jj kk ll ⟨ha, hb, hc⟩ (beq_eq_false_iff_ne.2 he) h1 h2 h3 h4 h5 h6 h7 h8 w ht
        subst he
        by_cases hf0 : ff = 0
        case neg =>
          by_cases hi0 : ii = 0
          case neg => exact ring_f_i an ad bn bd cn cd pn pd qn qd ln ld rn rd xn xd sn sd tn td yn yd 0 ff gg hh ii jj kk ll ⟨ha, hb, hc⟩ (beq_eq_false_iff_ne.2 hf0) (beq_eq_false_iff_ne.2 hi0) h1 h2 h3 h4 h5 h6 h7 h8 w ht
          subst hi0
          by_cases hj0 : jj = 0
          case neg => exact ring_f_j an ad bn bd cn cd pn pd qn qd ln ld rn rd xn xd sn sd tn td yn yd 0 ff gg hh 0 jj kk ll ⟨ha, hb, hc⟩ (beq_eq_false_iff_ne.2 hf0) (beq_eq_false_iff_ne.2 hj0) h1 h2 h3 h4 h5 h6 h7 h8 w ht
          subst hj0
          by_cases hk0 : kk = 0
          case neg => exact ring_f_k an ad bn bd cn cd pn pd qn qd ln ld rn rd xn xd sn sd tn td yn yd 0 ff gg hh 0 0 kk ll ⟨ha, hb, hc⟩ (beq_eq_false_iff_ne.2 hf0) (beq_eq_false_iff_ne.2 hk0) h1 h2 h3 h4 h5 h6 h7 h8 w ht
          subst hk0
          by_cases hl0 : ll = 0
          case neg => exact ring_f_l an ad bn bd cn cd pn pd qn qd ln ld rn rd xn xd sn sd tn td yn yd 0 ff gg hh 0 0 0 ll ⟨ha, hb, hc⟩ (beq_eq_false_iff_ne.2 hf0) (beq_eq_false_iff_ne.2 hl0) h1 h2 h3 h4 h5 h6 h7 h8 w ht
          subst hl0
          obtain ⟨y1, y2⟩ := s2 rfl rfl rfl rfl rfl
          subst y1 y2
          exact ring_f_ok an ad bn bd cn cd pn pd qn qd ln ld rn rd _ _ sn sd tn td 0 0 0 ff gg hh 0 0 0 0 ⟨ha, hb, hc⟩ (beq_eq_false_iff_ne.2 hf0) h1 h2 h3 h4 h5 h6 h7 h8 w ht
        subst hf0
        by_cases hg0 : gg = 0
        case neg =>
          by_cases hi0 : ii = 0
          case neg => exact ring_g_i an ad bn bd cn cd pn pd qn qd ln ld rn rd xn xd sn sd tn td yn yd 0 0 gg hh ii jj kk ll ⟨ha, hb, hc⟩ (beq_eq_false_iff_ne.2 hg0) (beq_eq_false_iff_ne.2 hi0) h1 h2 h3 h4 h5 h6 h7 h8 w ht
          subst hi0
          by_cases hj0 : jj = 0
          case neg => exact ring_g_j an ad bn bd cn cd pn pd qn qd ln ld rn rd xn xd sn sd tn td yn yd 0 0 gg hh 0 jj kk ll ⟨ha, hb, hc⟩ (beq_eq_false_iff_ne.2 hg0) (beq_eq_false_iff_ne.2 hj0) h1 h2 h3 h4 h5 h6 h7 h8 w ht
          subst hj0
          by_cases hk0 : kk = 0
          case neg => exact ring_g_k an ad bn bd cn cd pn pd qn qd ln ld rn rd xn xd sn sd tn td yn yd 0 0 gg hh 0 0 kk ll ⟨ha, hb, hc⟩ (beq_eq_false_iff_ne.2 hg0) (beq_eq_false_iff_ne.2 hk0) h1 h2 h3 h4 h5 h6 h7 h8 w ht
          subst hk0
          by_cases hl0 : ll = 0
          case neg => exact ring_g_l an ad bn bd cn cd pn pd qn qd ln ld rn rd xn xd sn sd tn td yn yd 0 0 gg hh 0 0 0 ll ⟨ha, hb, hc⟩ (beq_eq_false_iff_ne.2 hg0) (beq_eq_false_iff_ne.2 hl0) h1 h2 h3 h4 h5 h6 h7 h8 w ht
          subst hl0
          obtain ⟨y1, y2⟩ := s2 rfl rfl rfl rfl rfl
          subst y1 y2
          exact ring_g_ok an ad bn bd cn cd pn pd qn qd ln ld rn rd _ _ sn sd tn td 0 0 0 0 gg hh 0 0 0 0 ⟨ha, hb, hc⟩ (beq_eq_false_iff_ne.2 hg0) h1 h2 h3 h4 h5 h6 h7 h8 w ht
        subst hg0
        by_cases hh0 : hh = 0
        case neg =>
          by_cases hi0 : ii = 0
          case neg => exact ring_h_i an ad bn bd cn cd pn pd qn qd ln ld rn rd xn xd sn sd tn td yn yd 0 0 0 hh ii jj kk ll ⟨ha, hb, hc⟩ (beq_eq_false_iff_ne.2 hh0) (beq_eq_false_iff_ne.2 hi0) h1 h2 h3 h4 h5 h6 h7 h8 w ht
          subst hi0
          by_cases hj0 : jj = 0
          case neg => exact ring_h_j an ad bn bd cn cd pn pd qn qd ln ld rn rd xn xd sn sd tn td yn yd 0 0 0 hh 0 jj kk ll ⟨ha, hb, hc⟩ (beq_eq_false_iff_ne.2 hh0) (beq_eq_false_iff_ne.2 hj0) h1 h2 h3 h4 h5 h6 h7 h8 w ht
          subst hj0
          by_cases hk0 : kk = 0
          case neg => exact ring_h_k an ad bn bd cn cd pn pd qn qd ln ld rn rd xn xd sn sd tn td yn yd 0 0 0 hh 0 0 kk ll ⟨ha, hb, hc⟩ (beq_eq_false_iff_ne.2 hh0) (beq_eq_false_iff_ne.2 hk0) h1 h2 h3 h4 h5 h6 h7 h8 w ht
          subst hk0
          by_cases hl0 : ll = 0
          case neg => exact ring_h_l an ad bn bd cn cd pn pd qn qd ln ld rn rd xn xd sn sd tn td yn yd 0 0 0 hh 0 0 0 ll ⟨ha, hb, hc⟩ (beq_eq_false_iff_ne.2 hh0) (beq_eq_false_iff_ne.2 hl0) h1 h2 h3 h4 h5 h6 h7 h8 w ht
          subst hl0
          obtain ⟨y1, y2⟩ := s2 rfl rfl rfl rfl rfl
          subst y1 y2
          exact ring_h_ok an ad bn bd cn cd pn pd qn qd ln ld rn rd _ _ sn sd tn td 0 0 0 0 0 hh 0 0 0 0 ⟨ha, hb, hc⟩ (beq_eq_false_iff_ne.2 hh0) h1 h2 h3 h4 h5 h6 h7 h8 w ht
        subst hh0
        obtain ⟨z1, z2⟩ := s1 rfl rfl rfl rfl
        subst z1 z2
        by_cases hi0 : ii = 0
        case neg => exact ring_ok_i an ad bn bd cn cd pn pd qn qd _ _ 0 0 xn xd sn sd tn td yn yd 0 0 0 0 ii jj kk ll ⟨ha, hb, hc⟩ (beq_eq_false_iff_ne.2 hi0) h1 h2 h3 h4 h5 h6 h7 h8 w ht
        subst hi0
        by_cases hj0 : jj = 0
        case neg => exact ring_ok_j an ad bn bd cn cd pn pd qn qd _ _ 0 0 xn xd sn sd tn td yn yd 0 0 0 0 0 jj kk ll ⟨ha, hb, hc⟩ (beq_eq_false_iff_ne.2 hj0) h1 h2 h3 h4 h5 h6 h7 h8 w ht
        subst hj0
        by_cases hk0 : kk = 0
        case neg => exact ring_ok_k an ad bn bd cn cd pn pd qn qd _ _ 0 0 xn xd sn sd tn td yn yd 0 0 0 0 0 0 kk ll ⟨ha, hb, hc⟩ (beq_eq_false_iff_ne.2 hk0) h1 h2 h3 h4 h5 h6 h7 h8 w ht
        subst hk0
        by_cases hl0 : ll = 0
        case neg => exact ring_ok_l an ad bn bd cn cd pn pd qn qd _ _ 0 0 xn xd sn sd tn td yn yd 0 0 0 0 0 0 0 ll ⟨ha, hb, hc⟩ (beq_eq_false_iff_ne.2 hl0) h1 h2 h3 h4 h5 h6 h7 h8 w ht
        subst hl0
        obtain ⟨y1, y2⟩ := s2 rfl rfl rfl rfl rfl
        subst y1 y2
        exact ring_ok_ok an ad bn bd cn cd pn pd qn qd _ _ 0 0 _ _ sn sd tn td 0 0 0 0 0 0 0 0 0 0 ⟨ha, hb, hc⟩ h1 h2 h3 h4 h5 h6 h7 h8 w ht
      refine go _ _ _ _ _ _ _ _ _ _ _ _ _ _ _ _ _ _ _ _ _ _ _ _ (fun w => add_valid ha hb w) (fun w => add_valid hb hc w) (fun w => add_any _ _ cn cd w) (fun w => add_any an ad _ _ w) (fun w => mul_any _ _ cn cd w) (fun w => mul_valid ha hc w) (fun w => mul_valid hb hc w) (fun w => add_any _ _ _ _ w) ?_ ?_
      · intro e0 f0 g0 h0
        obtain ⟨_, vp, ep⟩ := mk_spec e0
        obtain ⟨_, vq, eq⟩ := mk_spec f0
        have hp := (vld_iff.1 vp).1
        have hq := (vld_iff.1 vq).1
        simp only [vp, vq, ha, hc, Bool.and_self, op2N, op2D, op2E, if_true] at g0 h0 ⊢
        obtain ⟨_, vl, el⟩ := mk_spec g0
        obtain ⟨_, vr, er⟩ := mk_spec h0
        refine ratio_eq vr vl ?_
        have c1 := chain_add (S := an * bd + bn * ad) (T := ad * bd) (by omega) ep el
        have c2 := chain_add (cn := an) (cd := ad) (S := bn * cd + cn * bd) (T := bd * cd) (by omega) eq (add_swap er)
        have hD : ad * bd * cd ≠ 0 := Int.mul_ne_zero (Int.mul_ne_zero (by omega) (by omega)) (by omega)
        refine chain_eq (N := (an * bd + bn * ad) * cd + cn * (ad * bd)) (D := ad * bd * cd) hD ?_ c1
        rw [show (an * bd + bn * ad) * cd + cn * (ad * bd) = (bn * cd + cn * bd) * ad + an * (bd * cd) by grind, show ad * bd * cd = bd * cd * ad by grind]; exact c2
      · intro e0 i0 j0 k0 l0
        obtain ⟨_, vp, ep⟩ := mk_spec e0
        obtain ⟨_, vs, es⟩ := mk_spec j0
        obtain ⟨_, vt, et⟩ := mk_spec k0
        have hp := (vld_iff.1 vp).1
        have hs := (vld_iff.1 vs).1
        have ht1 := (vld_iff.1 vt).1
        simp only [vp, vs, vt, hc, Bool.and_self, op2N, op2D, op2E, if_true] at i0 l0 ⊢
        obtain ⟨_, vx, ex⟩ := mk_spec i0
        obtain ⟨_, vy, ey⟩ := mk_spec l0
        refine ratio_eq vy vx ?_
        have c1 := chain_mul (S := an * bd + bn * ad) (T := ad * bd) (by omega) ep ex
        have hD : ad * bd * cd ≠ 0 := Int.mul_ne_zero (Int.mul_ne_zero (by omega) (by omega)) (by omega)
        refine chain_eq (N := (an * bd + bn * ad) * cn) (D := ad * bd * cd) hD ?_ c1
        exact sum_of_products (by omega) (by omega) (by omega) es et ey

theorem contract (H : Type) (enc : TypeId × Value → H) (W : World) (base : Nat) (args : Array Value) (ds gs : List (DataW H)) (before : List MemPlace)
    (hval : ∀ (j : Nat) t v, Tryd.f6.params[j]? = some t → args[j]? = some v → Value.okWide Tryd.prog W .any base t v)
    (hW : DataW.Whole enc Tryd.prog Tryd.f6.params.toList Rows.ratioRingSpec.vars false W args.toList ds gs before) (hL : laidMetH Tryd.prog Rows.ratioRingRow.laid W) :
    Calls Tryd.prog 6 args W fun e W' => ∃ v, e = .returned v ∧ Rows.ratioRingSpec.post enc Tryd.prog Tryd.f6 false true false false W args v W' := by
  have hW' := hW
  obtain ⟨p, q, hA0, hV, rfl, hfz, hnd⟩ := hW
  have hA : DataW.TrodAll enc Tryd.prog W 0 (fun _ => true) true Tryd.f6.params.toList args.toList ds p := hA0
  rw [Tryd.params6] at hA hval
  obtain ⟨v0, vs0, d0, ds0, p0, q0, hargs, rfl, rfl, h0, r0⟩ := trodAll_cons hA
  obtain ⟨v1, vs1, d1, ds1, p1, q1, rfl, rfl, rfl, h1, r1⟩ := trodAll_cons r0
  obtain ⟨v2, vs2, d2, ds2, p2, q2, rfl, rfl, rfl, h2, r2⟩ := trodAll_cons r1
  obtain ⟨rfl, rfl, rfl⟩ := trodAll_nil r2
  obtain rfl : args = #[v0, v1, v2] := by cases args; simp_all
  obtain ⟨rfl, rfl⟩ := trodVars_none hV
  obtain ⟨x0, y0, rfl, rfl, rfl, wx0, wy0⟩ := ratOpens (hval 0 23 v0 rfl rfl) h0
  obtain ⟨x1, y1, rfl, rfl, rfl, wx1, wy1⟩ := ratOpens (hval 1 23 v1 rfl rfl) h1
  obtain ⟨x2, y2, rfl, rfl, rfl, wx2, wy2⟩ := ratOpens (hval 2 23 v2 rfl rfl) h2
  clear hA0
  simp only [List.append_nil] at hW'
  refine (walk x0 y0 x1 y1 x2 y2 W (table hL)).mono fun e W' ⟨he, hb⟩ => ?_
  subst he
  exact ⟨_, rfl, _, _, _, [], [], [], hW', (trodAll_cons_mk (shut_bool Tryd.underlying4 _) trodAll_mk0), (trodAll_cons_mk (ratReads enc x0 y0 wx0 wy0 W' _) (trodAll_cons_mk (ratReads enc x1 y1 wx1 wy1 W' _) (trodAll_cons_mk (ratReads enc x2 y2 wx2 wy2 W' _) trodAll_mk0))), rfl, hb.frame _, fun h => by cases h⟩

theorem laid_met (os : Os) : laidMet Tryd.prog Rows.ratioRingRow.laid ((laidWorld os).forCall (fun _ _ => 0) ⟨#[], #[.agg #[.int .i64 0, .int .i64 0], .agg #[.int .i64 0, .int .i64 0], .agg #[.int .i64 0, .int .i64 0]], []⟩).memory :=
  laidMet_of_run' 8 (by kernel_rfl) (by kernel_rfl)
theorem readsAll (os : Os) {H : Type} (enc : TypeId × Value → H) : ∃ places, DataW.whole enc Tryd.prog ((laidWorld os).forCall (fun _ _ => 0) ⟨#[], #[.agg #[.int .i64 0, .int .i64 0], .agg #[.int .i64 0, .int .i64 0], .agg #[.int .i64 0, .int .i64 0]], []⟩).memory Tryd.f6.params.toList Rows.ratioRingSpec.vars false (#[.agg #[.int .i64 0, .int .i64 0], .agg #[.int .i64 0, .int .i64 0], .agg #[.int .i64 0, .int .i64 0]] : Array Value).toList 8 = some ([.agg [.lit (.int .i64 0), .lit (.int .i64 0)], .agg [.lit (.int .i64 0), .lit (.int .i64 0)], .agg [.lit (.int .i64 0), .lit (.int .i64 0)]], [], places) :=
  ⟨[], by kernel_rfl⟩

set_option maxRecDepth 100000 in
theorem lifted (os : Os) (started : os.Started) (H : Type) (enc : TypeId × Value → H) (F : Stop.Interp) :
    ReturnsInHanded {} Tryd.checked os 6 .any ((OpenSpec.ofChange Rows.ratioRingSpec).preRow enc Tryd.prog Tryd.f6 Rows.ratioRingRow.domain false Rows.ratioRingRow.laid) (((OpenSpec.ofChange Rows.ratioRingSpec).at F).post enc Tryd.prog Tryd.f6 false true false false) := by
  obtain ⟨places, hx⟩ := readsAll os enc
  refine returnsInHanded_of_row (C := Tryd.checked) (s := OpenSpec.ofChange Rows.ratioRingSpec) own started (by kernel_rfl) Tryd.func6
    (witness_row_at (enc := enc) (C := Tryd.checked) false (laidWorld os) #[.agg #[.int .i64 0, .int .i64 0], .agg #[.int .i64 0, .int .i64 0], .agg #[.int .i64 0, .int .i64 0]] rfl (by kernel_rfl) (by kernel_rfl) (by kernel_rfl)
      (OpenSpec.preRow_of_cond 8 hx (by kernel_rfl) (fun k hk => by cases hk) (by kernel_rfl) (laid_met os))) ?_
  intro W base args ds gs before hval hW _ _ _ hL _ _
  exact contract H enc W base args ds gs before hval hW hL

theorem said : Rows.RatioRingSaid :=
  OpenClaim.holds_of_cond 6 Tryd.f6 rfl rfl rfl rfl rfl rfl rfl ⟨rfl, rfl, rfl, rfl, rfl⟩ rfl rfl rfl rfl rfl (by kernel_rfl) Tryd.func6 (by kernel_rfl)
    (of_decide_eq_true (by kernel_rfl)) (by unfold Func.isWrapper; first | (rw [if_pos (by decide +kernel)]; kernel_rfl) | (rw [if_neg (by decide +kernel)]; exact ⟨rfl, rfl⟩))
    (fun os started H enc _ F => by rw [OpenClaim.pre_eq_preRow]; exact lifted os started H enc F)

theorem plain (f : FuncId) (fn : Func) (hf : Tryd.pinned.checked.prog.funcNamed "gambrel/gambrellaw01.RatioRing" = some f) (hfn : Tryd.pinned.checked.prog.funcs[f]? = some fn) :
    false = Tryd.pinned.checked.prog.looks [] ∧ ∀ (j : Nat) t, fn.params[j]? = some t → Tryd.pinned.checked.prog.wantsStandIn t = false := by
  obtain rfl : f = 6 := Option.some.inj ((show Tryd.prog.funcNamed "gambrel/gambrellaw01.RatioRing" = some 6 by kernel_rfl).symm.trans hf) |>.symm
  obtain rfl : fn = Tryd.f6 := (Option.some.inj (Tryd.func6.symm.trans hfn)).symm
  refine ⟨by kernel_rfl, fun j t ht => ?_⟩
  rw [Tryd.params6] at ht
  have ht' := Array.mem_of_getElem? ht
  simp at ht'
  rcases ht' with rfl
  exact (show Tryd.prog.wantsStandIn 23 = false by kernel_rfl)


theorem proved : Rows.RatioRingCardSaid :=
  Claim7.holds_tied_plain_at .later [] _ _ _ _ said (fun _ h => by cases h) (by kernel_rfl) (fun _ h => by cases h) ratioRing_row_tie rfl ⟨rfl, rfl⟩ (by kernel_rfl) rfl plain (by kernel_rfl)
#print axioms proved
end Go.Proofs.YtchjkjhkmhkjeaaDoor.ratioRingDone
