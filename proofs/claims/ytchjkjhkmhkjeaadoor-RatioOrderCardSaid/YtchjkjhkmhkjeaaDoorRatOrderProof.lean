/-
  RatioOrder: for any two pairs of numbers, if both are valid: comparison is that of the difference with 0, turns round with its arguments, and a number is between its floor and its ceiling. No condition but the laid tables, which the card ties.
-/
import Derived.Test.YtchjkjhkmhkjeaaDoorRatOrder
import Derived.Test.YtchjkjhkmhkjeaaDoorRatCard
namespace Go.Proofs.YtchjkjhkmhkjeaaDoor.ratioOrderDone
open Go.ChangeShapes Go.WideShapes Go.ChangeAt Go.RowKit Go.Joins Go.Deep
set_option maxRecDepth 100000
open RatCard RM
set_option linter.unusedVariables false
set_option linter.unusedSimpArgs false

theorem ends {n d : Int} (h : vld n d = true) : -1000000000 ≤ n / d ∧ n / d ≤ 1000000000 ∧ -1000000000 ≤ -(-n / d) ∧ -(-n / d) ≤ 1000000000 ∧
    n / d ≤ -(-n / d) ∧ (-(-n / d) - n / d == min 1 (d - 1)) = true ∧ n / d * d ≤ n ∧ n ≤ -(-n / d) * d := by
  obtain ⟨h1, h2, h3, h4, h5⟩ := vld_iff.1 h
  have a1 := Int.ediv_mul_le n (show d ≠ 0 by omega)
  have a2 := Int.lt_ediv_add_one_mul_self n (show 0 < d by omega)
  have b1 := Int.ediv_mul_le (-n) (show d ≠ 0 by omega)
  have b2 := Int.lt_ediv_add_one_mul_self (-n) (show 0 < d by omega)
  have low : ∀ x q : Int, -1000000000 ≤ x → x < (q + 1) * d → -1000000000 ≤ q := by
    intro x q hx hq
    refine Int.not_lt.1 fun hlt => ?_
    have : (q + 1) * d ≤ -1000000000 * d := Int.mul_le_mul_of_nonneg_right (by omega) (by omega)
    have : -1000000000 * d ≤ -1000000000 * 1 := by omega
    omega
  have up : ∀ x q : Int, x ≤ 1000000000 → q * d ≤ x → q ≤ 1000000000 := by
    intro x q hx hq
    refine Int.not_lt.1 fun hlt => ?_
    have : 1000000001 * d ≤ q * d := Int.mul_le_mul_of_nonneg_right (by omega) (by omega)
    omega
  have l1 := low n (n / d) h3 a2
  have u1 := up n (n / d) h4 a1
  have l2 := low (-n) (-n / d) (by omega) b2
  have u2 := up (-n) (-n / d) (by omega) b1
  have c1 : n ≤ -(-n / d) * d := by rw [Int.neg_mul]; omega
  by_cases hd : d = 1
  · subst hd
    simp only [Int.ediv_one, Int.neg_neg, Int.mul_one]
    refine ⟨by omega, by omega, by omega, by omega, by omega, ?_, by omega, by omega⟩
    rw [beq_iff_eq]; omega
  · have hnd : n % d ≠ 0 := by
      intro hz
      have dv : d.natAbs ∣ n.natAbs := Int.natAbs_dvd_natAbs.2 (Int.dvd_of_emod_eq_zero hz)
      have : Nat.gcd n.natAbs d.natAbs = d.natAbs := Nat.gcd_eq_right dv
      unfold gcdI at h5; omega
    have e1 := Int.emod_add_mul_ediv n d
    have e2 := Int.emod_add_mul_ediv (-n) d
    have r1 := Int.emod_nonneg n (show d ≠ 0 by omega)
    have r2 := Int.emod_lt_of_pos n (show 0 < d by omega)
    have key : -n / d = -(n / d) - 1 := by
      refine ((Int.ediv_emod_unique (r := d - n % d) (q := -(n / d) - 1) (show 0 < d by omega)).2 ⟨?_, by omega, by omega⟩).1
      grind
    refine ⟨by omega, by omega, by omega, by omega, by omega, ?_, a1, c1⟩
    rw [beq_iff_eq, key]; omega

theorem sign_pos {X Y : Int} (hY : 0 < Y) (h : mkE X Y = 0) (hX : 0 < X) : 0 < mkN X Y := by
  obtain ⟨_, hv, e⟩ := mk_spec h
  have hd := (vld_iff.1 hv).1
  refine Int.not_le.1 fun hle => ?_
  have p1 : 0 < X * mkD X Y := Int.mul_pos hX (by omega)
  have p2 : mkN X Y * Y ≤ 0 * Y := Int.mul_le_mul_of_nonneg_right hle (by omega)
  omega
theorem sign_neg {X Y : Int} (hY : 0 < Y) (h : mkE X Y = 0) (hX : X < 0) : ¬ 0 < mkN X Y := by
  obtain ⟨_, hv, e⟩ := mk_spec h
  have hd := (vld_iff.1 hv).1
  intro hlt
  have p1 : 0 < mkN X Y * Y := Int.mul_pos hlt hY
  have p2 : X * mkD X Y ≤ 0 * mkD X Y := Int.mul_le_mul_of_nonneg_right (by omega) (by omega)
  omega

theorem walk (an ad bn bd : Int) (w : World) (ht : Tab w) :
    Calls Tryd.prog 7 #[.agg #[.int .i64 an, .int .i64 ad], .agg #[.int .i64 bn, .int .i64 bd]] w fun e w' => e = .returned (.bool true) ∧ Below w.heap.size w w' := by
  cases hab : (vld an ad && vld bn bd) with
  | false => exact order_unfit an ad bn bd hab w ht
  | true =>
    have hab' := hab
    rw [Bool.and_eq_true] at hab'
    obtain ⟨ha, hb⟩ := hab'
    obtain ⟨a1, a2, a3, a4, _⟩ := vld_iff.1 ha
    obtain ⟨b1, b2, b3, b4, _⟩ := vld_iff.1 hb
    obtain ⟨l1, l2, l3, l4, o1, o2, o3, o4⟩ := ends ha
    obtain ⟨m1, m2⟩ := mul_bd l1 l2 (by omega) a2
    obtain ⟨m3, m4⟩ := mul_bd l3 l4 (by omega) a2
    have hY : 0 < ad * bd := Int.mul_pos (by omega) (by omega)
    have C1 := fun w => cmp_any an ad bn bd w
    have C2 := fun w => cmp_any bn bd an ad w
    have FL := fun w => floorR_any an ad w
    have CE := fun w => ceilR_any an ad w
    simp only [ha, hb, Bool.and_self, okN, okE, if_true] at C1 C2 FL CE
    have S1 := fun w => sub_valid ha hb w
    rcases Int.lt_trichotomy (an * bd) (bn * ad) with hlt | heq | hgt
    · rw [show cmpI (an * bd) (bn * ad) = -1 by simp [cmpI, hlt]] at C1
      rw [show cmpI (bn * ad) (an * bd) = 1 by simp [cmpI, hlt, show ¬ bn * ad < an * bd by omega]] at C2
      cases hk : (mkE (an * bd - bn * ad) (ad * bd) == 0) with
      | true =>
        have hs := sign_neg hY (by simpa using hk) (show an * bd - bn * ad < 0 by omega)
        rw [show mkE (an * bd - bn * ad) (ad * bd) = 0 by simpa using hk] at S1
        by_cases hn : an = bn
        · subst hn
          have hd : (ad == bd) = false := beq_eq_false_iff_ne.2 (fun h => by subst h; omega)
          exact order_lt_den_ok an ad bd _ _ 0 _ _ ⟨ha, hb⟩ hd (by simpa using hs) l1 l2 l3 l4 a1 a2 o1 o2 o3 o4 m1 m2 m3 m4 C1 C2 S1 FL CE w ht
        · exact order_lt_num_ok an ad bn bd _ _ 0 _ _ ⟨ha, hb⟩ (beq_eq_false_iff_ne.2 hn) (by simpa using hs) l1 l2 l3 l4 a1 a2 o1 o2 o3 o4 m1 m2 m3 m4 C1 C2 S1 FL CE w ht
      | false =>
        by_cases hn : an = bn
        · subst hn
          have hd : (ad == bd) = false := beq_eq_false_iff_ne.2 (fun h => by subst h; omega)
          exact order_lt_den_no an ad bd _ _ _ _ _ ⟨ha, hb⟩ hd hk l1 l2 l3 l4 a1 a2 o1 o2 o3 o4 m1 m2 m3 m4 C1 C2 S1 FL CE w ht
        · exact order_lt_num_no an ad bn bd _ _ _ _ _ ⟨ha, hb⟩ (beq_eq_false_iff_ne.2 hn) hk l1 l2 l3 l4 a1 a2 o1 o2 o3 o4 m1 m2 m3 m4 C1 C2 S1 FL CE w ht
    · obtain ⟨rfl, rfl⟩ := ratio_eq ha hb heq
      rw [show cmpI (an * ad) (an * ad) = 0 by simp [cmpI]] at C1 C2
      have z : mkN (an * ad - an * ad) (ad * ad) = 0 ∧ mkD (an * ad - an * ad) (ad * ad) = 1 ∧ mkE (an * ad - an * ad) (ad * ad) = 0 :=
        mk_unique (n := 0) (d := 1) (by decide) (by omega) (by omega)
      rw [z.1, z.2.1, z.2.2] at S1
      exact order_same an ad 0 1 0 _ _ ⟨ha, ha⟩ (by decide) l1 l2 l3 l4 a1 a2 o1 o2 o3 o4 m1 m2 m3 m4 C1 C1 S1 FL CE w ht
    · rw [show cmpI (an * bd) (bn * ad) = 1 by simp [cmpI, hgt, show ¬ an * bd < bn * ad by omega]] at C1
      rw [show cmpI (bn * ad) (an * bd) = -1 by simp [cmpI, hgt]] at C2
      cases hk : (mkE (an * bd - bn * ad) (ad * bd) == 0) with
      | true =>
        have hs := sign_pos hY (by simpa using hk) (show 0 < an * bd - bn * ad by omega)
        rw [show mkE (an * bd - bn * ad) (ad * bd) = 0 by simpa using hk] at S1
        by_cases hn : an = bn
        · subst hn
          have hd : (ad == bd) = false := beq_eq_false_iff_ne.2 (fun h => by subst h; omega)
          exact order_gt_den_ok an ad bd _ _ 0 _ _ ⟨ha, hb⟩ hd (by simpa using hs) l1 l2 l3 l4 a1 a2 o1 o2 o3 o4 m1 m2 m3 m4 C1 C2 S1 FL CE w ht
        · exact order_gt_num_ok an ad bn bd _ _ 0 _ _ ⟨ha, hb⟩ (beq_eq_false_iff_ne.2 hn) (by simpa using hs) l1 l2 l3 l4 a1 a2 o1 o2 o3 o4 m1 m2 m3 m4 C1 C2 S1 FL CE w ht
      | false =>
        by_cases hn : an = bn
        · subst hn
          have hd : (ad == bd) = false := beq_eq_false_iff_ne.2 (fun h => by subst h; omega)
          exact order_gt_den_no an ad bd _ _ _ _ _ ⟨ha, hb⟩ hd hk l1 l2 l3 l4 a1 a2 o1 o2 o3 o4 m1 m2 m3 m4 C1 C2 S1 FL CE w ht
        · exact order_gt_num_no an ad bn bd _ _ _ _ _ ⟨ha, hb⟩ (beq_eq_false_iff_ne.2 hn) hk l1 l2 l3 l4 a1 a2 o1 o2 o3 o4 m1 m2 m3 m4 C1 C2 S1 FL CE w ht

theorem contract (H : Type) (enc : TypeId × Value → H) (W : World) (base : Nat) (args : Array Value) (ds gs : List (DataW H)) (before : List MemPlace)
    (hval : ∀ (j : Nat) t v, Tryd.f7.params[j]? = some t → args[j]? = some v → Value.okWide Tryd.prog W .any base t v)
    (hW : DataW.Whole enc Tryd.prog Tryd.f7.params.toList Rows.ratioOrderSpec.vars false W args.toList ds gs before) (hL : laidMetH Tryd.prog Rows.ratioOrderRow.laid W) :
    Calls Tryd.prog 7 args W fun e W' => ∃ v, e = .returned v ∧ Rows.ratioOrderSpec.post enc Tryd.prog Tryd.f7 false true false false W args v W' := by
  have hW' := hW
  obtain ⟨p, q, hA0, hV, rfl, hfz, hnd⟩ := hW
  have hA : DataW.TrodAll enc Tryd.prog W 0 (fun _ => true) true Tryd.f7.params.toList args.toList ds p := hA0
  rw [Tryd.params7] at hA hval
  obtain ⟨v0, vs0, d0, ds0, p0, q0, hargs, rfl, rfl, h0, r0⟩ := trodAll_cons hA
  obtain ⟨v1, vs1, d1, ds1, p1, q1, rfl, rfl, rfl, h1, r1⟩ := trodAll_cons r0
  obtain ⟨rfl, rfl, rfl⟩ := trodAll_nil r1
  obtain rfl : args = #[v0, v1] := by cases args; simp_all
  obtain ⟨rfl, rfl⟩ := trodVars_none hV
  obtain ⟨x0, y0, rfl, rfl, rfl, wx0, wy0⟩ := ratOpens (hval 0 23 v0 rfl rfl) h0
  obtain ⟨x1, y1, rfl, rfl, rfl, wx1, wy1⟩ := ratOpens (hval 1 23 v1 rfl rfl) h1
  clear hA0
  simp only [List.append_nil] at hW'
  refine (walk x0 y0 x1 y1 W (table hL)).mono fun e W' ⟨he, hb⟩ => ?_
  subst he
  exact ⟨_, rfl, _, _, _, [], [], [], hW', (trodAll_cons_mk (shut_bool Tryd.underlying4 _) trodAll_mk0), (trodAll_cons_mk (ratReads enc x0 y0 wx0 wy0 W' _) (trodAll_cons_mk (ratReads enc x1 y1 wx1 wy1 W' _) trodAll_mk0)), rfl, hb.frame _, fun h => by cases h⟩

theorem laid_met (os : Os) : laidMet Tryd.prog Rows.ratioOrderRow.laid ((laidWorld os).forCall (fun _ _ => 0) ⟨#[], #[.agg #[.int .i64 0, .int .i64 0], .agg #[.int .i64 0, .int .i64 0]], []⟩).memory :=
  laidMet_of_run' 8 (by kernel_rfl) (by kernel_rfl)
theorem readsAll (os : Os) {H : Type} (enc : TypeId × Value → H) : ∃ places, DataW.whole enc Tryd.prog ((laidWorld os).forCall (fun _ _ => 0) ⟨#[], #[.agg #[.int .i64 0, .int .i64 0], .agg #[.int .i64 0, .int .i64 0]], []⟩).memory Tryd.f7.params.toList Rows.ratioOrderSpec.vars false (#[.agg #[.int .i64 0, .int .i64 0], .agg #[.int .i64 0, .int .i64 0]] : Array Value).toList 8 = some ([.agg [.lit (.int .i64 0), .lit (.int .i64 0)], .agg [.lit (.int .i64 0), .lit (.int .i64 0)]], [], places) :=
  ⟨[], by kernel_rfl⟩

set_option maxRecDepth 100000 in
theorem lifted (os : Os) (started : os.Started) (H : Type) (enc : TypeId × Value → H) (F : Stop.Interp) :
    ReturnsInHanded {} Tryd.checked os 7 .any ((OpenSpec.ofChange Rows.ratioOrderSpec).preRow enc Tryd.prog Tryd.f7 Rows.ratioOrderRow.domain false Rows.ratioOrderRow.laid) (((OpenSpec.ofChange Rows.ratioOrderSpec).at F).post enc Tryd.prog Tryd.f7 false true false false) := by
  obtain ⟨places, hx⟩ := readsAll os enc
  refine returnsInHanded_of_row (C := Tryd.checked) (s := OpenSpec.ofChange Rows.ratioOrderSpec) own started (by kernel_rfl) Tryd.func7
    (witness_row_at (enc := enc) (C := Tryd.checked) false (laidWorld os) #[.agg #[.int .i64 0, .int .i64 0], .agg #[.int .i64 0, .int .i64 0]] rfl (by kernel_rfl) (by kernel_rfl) (by kernel_rfl)
      (OpenSpec.preRow_of_cond 8 hx (by kernel_rfl) (fun k hk => by cases hk) (by kernel_rfl) (laid_met os))) ?_
  intro W base args ds gs before hval hW _ _ _ hL _ _
  exact contract H enc W base args ds gs before hval hW hL

theorem said : Rows.RatioOrderSaid :=
  OpenClaim.holds_of_cond 7 Tryd.f7 rfl rfl rfl rfl rfl rfl rfl ⟨rfl, rfl, rfl, rfl, rfl⟩ rfl rfl rfl rfl rfl (by kernel_rfl) Tryd.func7 (by kernel_rfl)
    (of_decide_eq_true (by kernel_rfl)) (by unfold Func.isWrapper; first | (rw [if_pos (by decide +kernel)]; kernel_rfl) | (rw [if_neg (by decide +kernel)]; exact ⟨rfl, rfl⟩))
    (fun os started H enc _ F => by rw [OpenClaim.pre_eq_preRow]; exact lifted os started H enc F)

theorem plain (f : FuncId) (fn : Func) (hf : Tryd.pinned.checked.prog.funcNamed "gambrel/gambrellaw01.RatioOrder" = some f) (hfn : Tryd.pinned.checked.prog.funcs[f]? = some fn) :
    false = Tryd.pinned.checked.prog.looks [] ∧ ∀ (j : Nat) t, fn.params[j]? = some t → Tryd.pinned.checked.prog.wantsStandIn t = false := by
  obtain rfl : f = 7 := Option.some.inj ((show Tryd.prog.funcNamed "gambrel/gambrellaw01.RatioOrder" = some 7 by kernel_rfl).symm.trans hf) |>.symm
  obtain rfl : fn = Tryd.f7 := (Option.some.inj (Tryd.func7.symm.trans hfn)).symm
  refine ⟨by kernel_rfl, fun j t ht => ?_⟩
  rw [Tryd.params7] at ht
  have ht' := Array.mem_of_getElem? ht
  simp at ht'
  rcases ht' with rfl
  exact (show Tryd.prog.wantsStandIn 23 = false by kernel_rfl)


theorem proved : Rows.RatioOrderCardSaid :=
  Claim7.holds_tied_plain_at .later [] _ _ _ _ said (fun _ h => by cases h) (by kernel_rfl) (fun _ h => by cases h) ratioOrder_row_tie rfl ⟨rfl, rfl⟩ (by kernel_rfl) rfl plain (by kernel_rfl)
#print axioms proved
end Go.Proofs.YtchjkjhkmhkjeaaDoor.ratioOrderDone
