/-
  RatioParts: for any list of pairs of numbers and any place: a sum without error has none up to the place, and is that of its two parts where nothing is out of range. No condition but the laid tables, which the card ties.
-/
import Derived.Test.YtchjkjhkmhkjeaaDoorRatParts
import Derived.Test.YtchjkjhkmhkjeaaDoorRatCard
namespace Go.Proofs.YtchjkjhkmhkjeaaDoor.ratioPartsDone
open Go.ChangeShapes Go.WideShapes Go.ChangeAt Go.RowKit Go.Joins Go.Deep
set_option maxRecDepth 100000
open RatCard RM
set_option linter.unusedVariables false
set_option linter.unusedSimpArgs false

theorem readable : Tryd.prog.readableRec 39 = true := by kernel_rfl
theorem small : 39 < Tryd.prog.types.size := of_decide_eq_true (by kernel_rfl)
theorem elems_of {H : Type} {enc : TypeId × Value → H} {W : World} {a : Option Addr} {len cap : Nat} {d : DataW H} {p : List MemPlace}
    (h0 : DataW.Trod enc Tryd.prog W 0 (fun _ => true) true 39 (.slice a len cap) d p) : ∃ rs : List (Int × Int), len = rs.length ∧ rs.length ≤ cap ∧ Elems W (.slice a rs.length cap) rs := by
  obtain ⟨fuel, hf⟩ := h0
  rcases open_slice_pairs Tryd.underlying39 Tryd.underlying23 cells rfl rfl cells64 cells64 (by simpa [Value.cells] using hf) with ⟨hcs, hx⟩ | ⟨a, len', cap', m, n, V0, V1, D0, D1, P0, P1, hcs, _, hl, hm, hmm, hx, hc⟩
  · simp at hcs
    obtain ⟨rfl, rfl, rfl⟩ := hcs
    exact ⟨[], rfl, by simp, .none _ _⟩
  · simp at hcs
    obtain ⟨rfl, rfl, rfl⟩ := hcs
    simp at hmm
    subst hmm
    have ints : ∀ i, i < len → ∃ q : Int × Int, W.cell? (a.add (i * 2)) = some (.int .i64 q.1) ∧ W.cell? (a.add (i * 2 + 1)) = some (.int .i64 q.2) := by
      intro i hi
      obtain ⟨h1, h2, h3, h4⟩ := hc i (by omega)
      obtain ⟨x, ex, _, _⟩ := DataW.trod_int Tryd.underlying2 h3
      obtain ⟨y, ey, _, _⟩ := DataW.trod_int Tryd.underlying2 h4
      simp at ex ey
      exact ⟨(x, y), by rw [h1, ex], by rw [h2, ey]⟩
    obtain ⟨q, hq⟩ := choose_lt ints
    rcases Nat.eq_zero_or_pos len with hz | hpos
    · subst hz
      exact ⟨[], rfl, by simp, .none _ _⟩
    · have hfirst := (hq 0 hpos).1
      obtain ⟨b, off, path⟩ := a
      have hp : path = none := by simpa [Addr.add] using World.cell?_spot hfirst
      subst hp
      refine ⟨(List.range len).map q, by simp, by simp; omega, ?_⟩
      have hlt : b < W.heap.size := by
        rcases Nat.lt_or_ge b W.heap.size with h | h
        · exact h
        · simp [World.cell?, Addr.add, Array.getElem?_eq_none h] at hfirst
      have := Elems.some (w := W) b off m ((List.range len).map q) (by simp; omega) hlt (by
        intro i hi
        simp only [List.length_map, List.length_range] at hi
        have e := hq i hi
        rw [add_plain, add_plain] at e
        simpa [Nat.add_assoc] using e)
      simpa only [List.length_map, List.length_range] using this

/-- A prefix of a run without error has none, and the rest goes on from where it stands. -/
theorem run_append : ∀ (l m : List (Int × Int)) (n d : Int), (run n d (l ++ m)).2.2 = 0 → (run n d l).2.2 = 0 ∧ run n d (l ++ m) = run (run n d l).1 (run n d l).2.1 m := by
  intro l
  induction l with
  | nil => intro m n d h; exact ⟨rfl, rfl⟩
  | cons a l ih =>
    intro m n d h
    simp only [List.cons_append, run] at h ⊢
    by_cases he : addE n d a.1 a.2 = 0
    · rw [if_pos he] at h ⊢
      simpa only [if_pos he] using ih m _ _ h
    · rw [if_neg he] at h; exact absurd h he
/-- The sum of a list as a fraction, not reduced. -/
def tot : List (Int × Int) → Int × Int
  | [] => (0, 1)
  | a :: l => (a.1 * (tot l).2 + (tot l).1 * a.2, a.2 * (tot l).2)
theorem add_fine {n d an ad : Int} (h : addE n d an ad = 0) : vld n d = true ∧ vld an ad = true ∧ vld (addN n d an ad) (addD n d an ad) = true ∧ (n * ad + an * d) * addD n d an ad = addN n d an ad * (d * ad) := by
  unfold addE op2E at h
  cases hv : (vld n d && vld an ad) with
  | false => rw [hv] at h; simp at h
  | true =>
    rw [hv] at h
    have hv' := hv
    rw [Bool.and_eq_true] at hv'
    obtain ⟨_, h2, h3⟩ := mk_spec (by simpa using h)
    simp only [addN, addD, op2N, op2D, hv, if_true]
    exact ⟨hv'.1, hv'.2, h2, h3⟩
theorem run_rep : ∀ (l : List (Int × Int)) (n d : Int), vld n d = true → (run n d l).2.2 = 0 →
    vld (run n d l).1 (run n d l).2.1 = true ∧ 0 < (tot l).2 ∧ (n * (tot l).2 + (tot l).1 * d) * (run n d l).2.1 = (run n d l).1 * (d * (tot l).2) := by
  intro l
  induction l with
  | nil => intro n d hv h; exact ⟨hv, by simp [tot], by simp [tot, run]⟩
  | cons a l ih =>
    intro n d hv h
    by_cases he : addE n d a.1 a.2 = 0
    · simp only [run, if_pos he] at h ⊢
      obtain ⟨_, va, vm, e1⟩ := add_fine he
      obtain ⟨v, hD, e2⟩ := ih _ _ vm h
      have ha := (vld_iff.1 va).1
      have hm := (vld_iff.1 vm).1
      refine ⟨v, Int.mul_pos (by omega) hD, ?_⟩
      have := chain_add (pn := addN n d a.1 a.2) (pd := addD n d a.1 a.2) (cn := (tot l).1) (cd := (tot l).2) (S := n * a.2 + a.1 * d) (T := d * a.2) (by omega) e1 e2
      simp only [tot]
      rw [show n * (a.2 * (tot l).2) + (a.1 * (tot l).2 + (tot l).1 * a.2) * d = (n * a.2 + a.1 * d) * (tot l).2 + (tot l).1 * (d * a.2) by grind, this]
      grind
    · simp only [run, if_neg he] at h; exact absurd h he
theorem sum_of_parts {an ad bn bd cn cd N D : Int} (hb : bd ≠ 0) (e2 : (0 * D + N * 1) * bd = bn * (1 * D)) (e3 : (an * bd + bn * ad) * cd = cn * (ad * bd)) : (an * D + N * ad) * cd = cn * (ad * D) := by
  refine Int.eq_of_mul_eq_mul_left hb ?_
  simp only [Int.zero_mul, Int.zero_add, Int.mul_one, Int.one_mul] at e2
  have p1 : bd * ((an * D + N * ad) * cd) = (an * D * bd + (N * bd) * ad) * cd := by grind
  rw [p1, e2]
  have p2 : (an * D * bd + bn * D * ad) * cd = D * ((an * bd + bn * ad) * cd) := by grind
  rw [p2, e3]; grind

theorem sum_short {rs : List (Int × Int)} (h : rs.length ≤ 200) : sumE rs = (run 0 1 rs).2.2 ∧ (sumE rs = 0 → sumN rs = (run 0 1 rs).1 ∧ sumD rs = (run 0 1 rs).2.1) := by
  have e : sumStep rs = run 0 1 rs := by unfold sumStep; rw [if_neg (by omega)]
  refine ⟨by rw [sumE, e], fun h0 => ?_⟩
  rw [sumE, e] at h0
  simp [sumN, sumD, e, outN, errAll, h0]
theorem one_valid : vld 0 1 = true := by decide

theorem parts_math {rs : List (Int × Int)} (h : rs.length ≤ 200) (k : Nat) : (sumE rs = 0 → sumE (rs.take k) = 0) ∧
    (sumE rs = 0 → sumE (rs.take k) = 0 → sumE (rs.drop k) = 0 → addE (sumN (rs.take k)) (sumD (rs.take k)) (sumN (rs.drop k)) (sumD (rs.drop k)) = 0 →
      addN (sumN (rs.take k)) (sumD (rs.take k)) (sumN (rs.drop k)) (sumD (rs.drop k)) = sumN rs ∧ addD (sumN (rs.take k)) (sumD (rs.take k)) (sumN (rs.drop k)) (sumD (rs.drop k)) = sumD rs) := by
  have h1 : (rs.take k).length ≤ 200 := by simp; omega
  have h2 : (rs.drop k).length ≤ 200 := by simp; omega
  obtain ⟨s1, s2⟩ := sum_short h
  obtain ⟨a1, a2⟩ := sum_short h1
  obtain ⟨b1, b2⟩ := sum_short h2
  have key : sumE rs = 0 → (run 0 1 (rs.take k)).2.2 = 0 ∧ run 0 1 rs = run (run 0 1 (rs.take k)).1 (run 0 1 (rs.take k)).2.1 (rs.drop k) := by
    intro he
    have := run_append (rs.take k) (rs.drop k) 0 1 (by rw [List.take_append_drop, ← s1]; exact he)
    rwa [List.take_append_drop] at this
  refine ⟨fun he => by rw [a1]; exact (key he).1, fun he hf hg hh => ?_⟩
  obtain ⟨k1, k2⟩ := key he
  obtain ⟨s3, s4⟩ := s2 he
  obtain ⟨a3, a4⟩ := a2 hf
  obtain ⟨b3, b4⟩ := b2 hg
  obtain ⟨va, vb, vc, e3⟩ := add_fine hh
  have he' : (run (sumN (rs.take k)) (sumD (rs.take k)) (rs.drop k)).2.2 = 0 := by rw [a3, a4, ← k2, ← s1]; exact he
  obtain ⟨v1, hD, e1⟩ := run_rep _ _ _ va he'
  obtain ⟨v2, _, e2⟩ := run_rep (rs.drop k) 0 1 one_valid (by rw [← b1]; exact hg)
  rw [a3, a4, ← k2, ← s3, ← s4] at v1
  rw [a3, a4, ← k2, ← a3, ← a4, ← s3, ← s4] at e1
  rw [← b3, ← b4] at e2
  have ha := (vld_iff.1 va).1
  have hb := (vld_iff.1 vb).1
  have c1 := sum_of_parts (by omega) e2 e3
  exact ratio_eq vc v1 (chain_eq (N := sumN (rs.take k) * (tot (rs.drop k)).2 + (tot (rs.drop k)).1 * sumD (rs.take k)) (D := sumD (rs.take k) * (tot (rs.drop k)).2) (Int.mul_ne_zero (by omega) (by omega)) c1 e1)

/-- The elements of the parts. -/
theorem Elems.part {w : World} {b off cap' : Nat} {rs : List (Int × Int)} (hb : b < w.heap.size) (k n : Nat) (hn : n = ((rs.drop k).take (n)).length)
    (h : ∀ i, (h : i < rs.length) → w.cell? ⟨b, off + i * 2, Option.none⟩ = Option.some (.int .i64 rs[i].1) ∧ w.cell? ⟨b, off + i * 2 + 1, Option.none⟩ = Option.some (.int .i64 rs[i].2)) :
    Elems w (.slice (some ⟨b, off + k * 2, none⟩) n cap') ((rs.drop k).take n) := by
  rcases Nat.eq_zero_or_pos n with hz | hpos
  · subst hz; simpa using Elems.none _ _
  · have hl : n ≤ rs.length - k := by rw [List.length_take, List.length_drop] at hn; omega
    have := Elems.some (w := w) b (off + k * 2) cap' ((rs.drop k).take n) (by omega) hb (by
      intro i hi
      have hi' : k + i < rs.length := by rw [List.length_take, List.length_drop] at hi; omega
      have := h (k + i) hi'
      simpa [Nat.add_mul, Nat.add_assoc] using this)
    rwa [← hn] at this

theorem walk (a : Option Addr) (cap : Nat) (x : Int) (rs : List (Int × Int)) (hcap : rs.length ≤ cap) (w : World) (hel : Elems w (.slice a rs.length cap) rs) (ht : Tab w) :
    Calls Tryd.prog 9 #[.slice a rs.length cap, .int .i64 x] w fun e w' => e = .returned (.bool true) ∧ Below w.heap.size w w' := by
  by_cases hbig : (200 : Int) < (rs.length : Int)
  · exact parts_big a _ cap x hbig w ht
  by_cases hneg : x < 0
  · exact parts_neg a _ cap x hbig hneg w ht
  by_cases hov : (rs.length : Int) < x
  · exact parts_over a _ cap x hbig hneg hov w ht
  obtain ⟨k, rfl⟩ : ∃ k : Nat, x = k := ⟨x.toNat, by omega⟩
  have hlen : rs.length ≤ 200 := by omega
  have hk : k ≤ rs.length := by omega
  generalize hsv : Value.slice a rs.length cap = sv at hel
  cases hel with
  | none p cap' =>
    simp only [List.length_nil, Value.slice.injEq] at hsv hk
    obtain ⟨rfl, _, rfl⟩ := hsv
    obtain rfl : k = 0 := by omega
    have h1 : ∀ sv w, Elems w sv [] → Calls Tryd.prog 19 #[sv] w fun e w' => e = .returned (.tuple #[.agg #[.int .i64 0, .int .i64 1], .int .i64 0]) ∧ Below w.heap.size w w' :=
      fun sv w h => sum_any sv [] (by simp) w h
    have h4 : ∀ w, Calls Tryd.prog 18 #[.agg #[.int .i64 0, .int .i64 1], .agg #[.int .i64 0, .int .i64 1]] w fun e w' => e = .returned (.tuple #[.agg #[.int .i64 0, .int .i64 1], .int .i64 0]) ∧ Below w.heap.size w w' := by
      intro w
      have h := add_any 0 1 0 1 w
      rwa [show op2N (vld 0 1 && vld 0 1) (0 * 1 + 0 * 1) (1 * 1) = 0 by decide, show op2D (vld 0 1 && vld 0 1) (0 * 1 + 0 * 1) (1 * 1) = 1 by decide, show op2E (vld 0 1 && vld 0 1) (0 * 1 + 0 * 1) (1 * 1) = 0 by decide] at h
    by_cases hz : cap = 0
    · subst hz; exact parts_zero a w ht h1 h4
    · cases a with
      | none => exact parts_nil cap hz w ht h1 h4
      | some a => exact parts_cap a cap hz w ht h1 h4
  | some b off cap' _ hpos hb h =>
    simp only [Value.slice.injEq] at hsv
    obtain ⟨rfl, _, rfl⟩ := hsv
    have HS : Elems w (.slice (some ⟨b, off, none⟩) rs.length cap) rs := .some b off cap rs hpos hb h
    have HA : Elems w (.slice (some ⟨b, off, none⟩) k cap) (rs.take k) := by
      have := Elems.part (cap' := cap) hb 0 k (by simp; omega) h
      simpa using this
    have HB : ∀ cap', Elems w (.slice (some ⟨b, off + k * 2, none⟩) (rs.length - k) cap') (rs.drop k) := by
      intro cap'
      have := Elems.part (cap' := cap') hb k (rs.length - k) (by simp) h
      rwa [List.take_of_length_le (by simp)] at this
    have g1 := fun sv w h => sum_any sv rs (by omega) w h
    have g2 := fun sv w h => sum_any sv (rs.take k) (by simp; omega) w h
    have g3 := fun sv w h => sum_any sv (rs.drop k) (by simp; omega) w h
    have g4 := fun w => add_pair (sumN (rs.take k)) (sumD (rs.take k)) (sumN (rs.drop k)) (sumD (rs.drop k)) w
    obtain ⟨m1, m2⟩ := parts_math hlen k
    clear h
    generalize sumN rs = sn at g1 m1 m2
    generalize sumD rs = sd at g1 m1 m2
    generalize sumE rs = ee at g1 m1 m2
    generalize addN (sumN (rs.take k)) (sumD (rs.take k)) (sumN (rs.drop k)) (sumD (rs.drop k)) = cn at g4 m2
    generalize addD (sumN (rs.take k)) (sumD (rs.take k)) (sumN (rs.drop k)) (sumD (rs.drop k)) = cd at g4 m2
    generalize addE (sumN (rs.take k)) (sumD (rs.take k)) (sumN (rs.drop k)) (sumD (rs.drop k)) = hh at g4 m2
    generalize sumN (rs.take k) = an at g2 g4
    generalize sumD (rs.take k) = ad at g2 g4
    generalize sumE (rs.take k) = ff at g2 m1 m2
    generalize sumN (rs.drop k) = bn at g3 g4
    generalize sumD (rs.drop k) = bd at g3 g4
    generalize sumE (rs.drop k) = gg at g3 m2
    by_cases hlt : k < cap
    · by_cases he : ee = 0
      case neg => exact parts_lt_e b off rs.length cap k rs sn sd an ad bn bd cn cd ee ff gg hh hk hlen hcap hlt (beq_eq_false_iff_ne.2 he) w ht HS HA (HB (cap - k)) g1 g2 g3 g4
      obtain hf := m1 he
      subst he hf
      by_cases hg : gg = 0
      case neg => exact parts_lt_g b off rs.length cap k rs sn sd an ad bn bd cn cd 0 0 gg hh hk hlen hcap hlt (beq_eq_false_iff_ne.2 hg) w ht HS HA (HB (cap - k)) g1 g2 g3 g4
      subst hg
      by_cases h0 : hh = 0
      case neg => exact parts_lt_h b off rs.length cap k rs sn sd an ad bn bd cn cd 0 0 0 hh hk hlen hcap hlt (beq_eq_false_iff_ne.2 h0) w ht HS HA (HB (cap - k)) g1 g2 g3 g4
      subst h0
      obtain ⟨z1, z2⟩ := m2 rfl rfl rfl rfl
      subst z1 z2
      exact parts_lt_ok b off rs.length cap k rs _ _ an ad bn bd 0 0 0 0 0 0 hk hlen hcap hlt w ht HS HA (HB (cap - k)) g1 g2 g3 g4
    · obtain rfl : cap = k := by omega
      obtain hl : rs.length = cap := by omega
      have HZ : Elems w (.slice (some ⟨b, off, none⟩) 0 0) (rs.drop cap) := by
        rw [show rs.drop cap = [] from List.drop_of_length_le (by omega)]; exact .none _ _
      rw [hl] at HS ⊢
      by_cases he : ee = 0
      case neg => exact parts_eq_e b off cap rs sn sd an ad bn bd cn cd ee ff gg hh (by omega) (beq_eq_false_iff_ne.2 he) w ht HS HA HZ g1 g2 g3 g4
      obtain hf := m1 he
      subst he hf
      by_cases hg : gg = 0
      case neg => exact parts_eq_g b off cap rs sn sd an ad bn bd cn cd 0 0 gg hh (by omega) (beq_eq_false_iff_ne.2 hg) w ht HS HA HZ g1 g2 g3 g4
      subst hg
      by_cases h0 : hh = 0
      case neg => exact parts_eq_h b off cap rs sn sd an ad bn bd cn cd 0 0 0 hh (by omega) (beq_eq_false_iff_ne.2 h0) w ht HS HA HZ g1 g2 g3 g4
      subst h0
      obtain ⟨z1, z2⟩ := m2 rfl rfl rfl rfl
      subst z1 z2
      exact parts_eq_ok b off cap rs _ _ an ad bn bd 0 0 0 0 0 0 (by omega) w ht HS HA HZ g1 g2 g3 g4

theorem contract (H : Type) (enc : TypeId × Value → H) (W : World) (base : Nat) (args : Array Value) (ds gs : List (DataW H)) (before : List MemPlace)
    (hval : ∀ (j : Nat) t v, Tryd.f9.params[j]? = some t → args[j]? = some v → Value.okWide Tryd.prog W .any base t v)
    (hW : DataW.Whole enc Tryd.prog Tryd.f9.params.toList Rows.ratioPartsSpec.vars false W args.toList ds gs before) (hL : laidMetH Tryd.prog Rows.ratioPartsRow.laid W) :
    Calls Tryd.prog 9 args W fun e W' => ∃ v, e = .returned v ∧ Rows.ratioPartsSpec.post enc Tryd.prog Tryd.f9 false true false false W args v W' := by
  have hW' := hW
  obtain ⟨p, q, hA0, hV, rfl, hfz, hnd⟩ := hW
  have hA : DataW.TrodAll enc Tryd.prog W 0 (fun _ => true) true Tryd.f9.params.toList args.toList ds p := hA0
  rw [Tryd.params9] at hA hval
  obtain ⟨v0, vs0, d0, ds0, p0, q0, hargs, rfl, rfl, h0, r0⟩ := trodAll_cons hA
  obtain ⟨v1, vs1, d1, ds1, p1, q1, rfl, rfl, rfl, h1, r1⟩ := trodAll_cons r0
  obtain ⟨rfl, rfl, rfl⟩ := trodAll_nil r1
  obtain rfl : args = #[v0, v1] := by cases args; simp_all
  obtain ⟨rfl, rfl⟩ := trodVars_none hV
  obtain ⟨a0, len0, cap0, rfl⟩ := okWide_slice Tryd.underlying39 (hval 0 39 v0 rfl rfl)
  obtain ⟨rs0, rfl, hmax0, hel0⟩ := elems_of h0
  obtain ⟨x1, rfl, rfl, rfl, wx1⟩ := open_int Tryd.underlying3 (hval 1 3 v1 rfl rfl) h1
  clear hA0
  simp only [List.append_nil] at hW'
  have hlt := hW'.lt
  refine (walk a0 cap0 x1 rs0 hmax0 W hel0 (table hL)).mono fun e W' ⟨he, hb⟩ => ?_
  subst he
  exact ⟨_, rfl, _, _, _, [], p0 ++ ([]), [], hW', (trodAll_cons_mk (shut_bool Tryd.underlying4 _) trodAll_mk0), (trodAll_cons_mk (Below.trod laid readable small h0 hb (fun x hx => hlt x (by simp [hx]))) (trodAll_cons_mk (shut_int Tryd.underlying3 wx1) trodAll_mk0)), rfl, hb.frame _, fun h => by cases h⟩

theorem laid_met (os : Os) : laidMet Tryd.prog Rows.ratioPartsRow.laid ((laidWorld os).forCall (fun _ _ => 0) ⟨#[], #[.slice none 0 0, .int .i64 0], []⟩).memory :=
  laidMet_of_run' 8 (by kernel_rfl) (by kernel_rfl)
theorem readsAll (os : Os) {H : Type} (enc : TypeId × Value → H) : ∃ places, DataW.whole enc Tryd.prog ((laidWorld os).forCall (fun _ _ => 0) ⟨#[], #[.slice none 0 0, .int .i64 0], []⟩).memory Tryd.f9.params.toList Rows.ratioPartsSpec.vars false (#[.slice none 0 0, .int .i64 0] : Array Value).toList 8 = some ([.nil, .lit (.int .i64 0)], [], places) :=
  ⟨[], by kernel_rfl⟩

set_option maxRecDepth 100000 in
theorem lifted (os : Os) (started : os.Started) (H : Type) (enc : TypeId × Value → H) (F : Stop.Interp) :
    ReturnsInHanded {} Tryd.checked os 9 .any ((OpenSpec.ofChange Rows.ratioPartsSpec).preRow enc Tryd.prog Tryd.f9 Rows.ratioPartsRow.domain false Rows.ratioPartsRow.laid) (((OpenSpec.ofChange Rows.ratioPartsSpec).at F).post enc Tryd.prog Tryd.f9 false true false false) := by
  obtain ⟨places, hx⟩ := readsAll os enc
  refine returnsInHanded_of_row (C := Tryd.checked) (s := OpenSpec.ofChange Rows.ratioPartsSpec) own started (by kernel_rfl) Tryd.func9
    (witness_row_at (enc := enc) (C := Tryd.checked) false (laidWorld os) #[.slice none 0 0, .int .i64 0] rfl (by kernel_rfl) (by kernel_rfl) (by kernel_rfl)
      (OpenSpec.preRow_of_cond 8 hx (by kernel_rfl) (fun k hk => by cases hk) (by kernel_rfl) (laid_met os))) ?_
  intro W base args ds gs before hval hW _ _ _ hL _ _
  exact contract H enc W base args ds gs before hval hW hL

theorem said : Rows.RatioPartsSaid :=
  OpenClaim.holds_of_cond 9 Tryd.f9 rfl rfl rfl rfl rfl rfl rfl ⟨rfl, rfl, rfl, rfl, rfl⟩ rfl rfl rfl rfl rfl (by kernel_rfl) Tryd.func9 (by kernel_rfl)
    (of_decide_eq_true (by kernel_rfl)) (by unfold Func.isWrapper; first | (rw [if_pos (by decide +kernel)]; kernel_rfl) | (rw [if_neg (by decide +kernel)]; exact ⟨rfl, rfl⟩))
    (fun os started H enc _ F => by rw [OpenClaim.pre_eq_preRow]; exact lifted os started H enc F)

theorem plain (f : FuncId) (fn : Func) (hf : Tryd.pinned.checked.prog.funcNamed "gambrel/gambrellaw01.RatioParts" = some f) (hfn : Tryd.pinned.checked.prog.funcs[f]? = some fn) :
    false = Tryd.pinned.checked.prog.looks [] ∧ ∀ (j : Nat) t, fn.params[j]? = some t → Tryd.pinned.checked.prog.wantsStandIn t = false := by
  obtain rfl : f = 9 := Option.some.inj ((show Tryd.prog.funcNamed "gambrel/gambrellaw01.RatioParts" = some 9 by kernel_rfl).symm.trans hf) |>.symm
  obtain rfl : fn = Tryd.f9 := (Option.some.inj (Tryd.func9.symm.trans hfn)).symm
  refine ⟨by kernel_rfl, fun j t ht => ?_⟩
  rw [Tryd.params9] at ht
  have ht' := Array.mem_of_getElem? ht
  simp at ht'
  rcases ht' with rfl | rfl
  · exact (show Tryd.prog.wantsStandIn 39 = false by kernel_rfl)
  · exact (show Tryd.prog.wantsStandIn 3 = false by kernel_rfl)


theorem proved : Rows.RatioPartsCardSaid :=
  Claim7.holds_tied_plain_at .later [] _ _ _ _ said (fun _ h => by cases h) (by kernel_rfl) (fun _ h => by cases h) ratioParts_row_tie rfl ⟨rfl, rfl⟩ (by kernel_rfl) rfl plain (by kernel_rfl)
#print axioms proved
end Go.Proofs.YtchjkjhkmhkjeaaDoor.ratioPartsDone
