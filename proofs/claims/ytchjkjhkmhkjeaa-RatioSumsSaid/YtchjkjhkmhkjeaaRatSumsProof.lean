/-
  RatioSums: for any list of pairs of numbers the package and the reference hand back the same sum and error. No condition.
-/
import Derived.Test.YtchjkjhkmhkjeaaRows
import Derived.Test.YtchjkjhkmhkjeaaRatSum
import Derived.ProofKit
import Derived.OpenShut
import Derived.Deep.SlicePairs
import Derived.Lib.SmallJoins
namespace Go.Proofs.Ytchjkjhkmhkjeaa.ratioSumsDone
open Go.ChangeShapes Go.WideShapes Go.ChangeAt Go.RowKit Go.Joins Go.Deep
open RM
set_option linter.unusedVariables false
set_option linter.unusedSimpArgs false

set_option maxHeartbeats 800000 in
theorem walk_big (sv : Value) (rs : List (Int × Int)) (hbig : 250 < rs.length) (hmax : rs.length ≤ 9223372036854775807) (w : World) (hsv : Elems w sv rs) :
    Calls Try.prog 4 #[sv] w fun e w' => e = .returned (.bool true) ∧ Below w.heap.size w w' := by
  cases hsv with
  | none p cap => simp at hbig
  | some b off cap _ hpos hb h =>
    have c1 : (250 : Int) < (rs.length : Int) := by omega
    clear h
    go_enter Try.func4, Try.ntmps4
    go_wp2_with fail
    go_ret
    exact ⟨rfl, Below.refl _ _⟩

set_option maxHeartbeats 800000 in
theorem walk_small (sv : Value) (rs : List (Int × Int)) (hle : rs.length ≤ 250) (p : Option Addr) (cap : Nat) (hs : sv = .slice p rs.length cap) (w : World) (hsv : Elems w sv rs) :
    Calls Try.prog 4 #[sv] w fun e w' => e = .returned (.bool true) ∧ Below w.heap.size w w' := by
  obtain ⟨xn, xd, xe, hx, rx⟩ : ∃ x y f : Int, (∀ w, Elems w sv rs → Calls Try.prog 23 #[sv] w fun e w' => e = .returned (.tuple #[.agg #[.int .i64 x, .int .i64 y], .int .i64 f]) ∧ Below w.heap.size w w') ∧
      (∀ w, Elems w sv rs → Calls Try.prog 24 #[sv] w fun e w' => e = .returned (.tuple #[.agg #[.int .i64 x, .int .i64 y], .int .i64 f]) ∧ Below w.heap.size w w') :=
    ⟨_, _, _, fun w h => sum_any sv rs (by omega) w h, fun w h => refsum_any sv rs (by omega) w h⟩
  subst hs
  have Hx := Lib.hid hx
  have Rx := Lib.hid rx
  have HS := Lib.hid hsv
  have c1 : ¬ (250 : Int) < (rs.length : Int) := by omega
  clear hx rx hsv
  go_enter Try.func4, Try.ntmps4
  go_wp2_with fail
  refine (Hx.out _ HS.out).mono ?_
  rintro e w1 ⟨rfl, hb1⟩
  have HB1 := Lib.hid hb1
  have HS1 := Lib.hid ((HS.out.later hb1).later ((Below.refl _ _).alloc (Nat.le_refl _) (.cells #[.int .i64 xn, .int .i64 xd] 23)))
  clear hb1
  go_wp2_with fail
  refine (Rx.out _ HS1.out).mono ?_
  rintro e w2 ⟨rfl, hb2⟩
  have HB2 := Lib.hid hb2
  have e0 := below_new hb2 (heap_alloc_new w1 (.cells #[.int .i64 xn, .int .i64 xd] 23))
  have l0 := lt_of_block e0
  have q1 := cell_two0 e0
  have q2 := cell_two1 e0
  clear hb2 e0
  go_wp2_with fail
  go_ret
  exact ⟨rfl, (((HB1.out.alloc HB1.out.size _).trans (HB2.out.mono (by have := HB1.out.size; simp; omega))).alloc (by have := HB1.out.size; have := HB2.out.size; simp at this; omega) _)⟩

theorem own : ownKnob Try.prog.godebug = none := by kernel_rfl
theorem cells : Try.prog.cellsOf 23 = 2 := by kernel_rfl
theorem cells64 : Try.prog.cellsOf 2 = 1 := by kernel_rfl

theorem laid : laidOutB Try.prog = true := by kernel_rfl
theorem readable : Try.prog.readableRec 42 = true := by kernel_rfl
theorem small : 42 < Try.prog.types.size := of_decide_eq_true (by kernel_rfl)

set_option maxRecDepth 100000 in
theorem lifted (os : Os) (started : os.Started) (H : Type) (enc : TypeId × Value → H) :
    ReturnsInHanded {} Try.checked os 4 .any (Rows.ratioSumsSpec.pre6 enc Try.prog Try.f4 Rows.ratioSumsRow.domain false) (Rows.ratioSumsSpec.post enc Try.prog Try.f4 false true false false) := by
  refine returnsInHanded_of_change (C := Try.checked) own started (by kernel_rfl) Try.func4
    (ChangeSpec.witness6 (enc := enc) (C := Try.checked) false ⟨#[], #[.slice none 0 0], []⟩ 8 (by kernel_rfl) (by kernel_rfl) (by kernel_rfl) (by kernel_rfl)) ?_
  intro W base args ds gs before hval0 hW hcnd _
  have hval : ∀ (j : Nat) t v, Try.f4.params[j]? = some t → args[j]? = some v → Value.okWide Try.prog W .any base t v := hval0
  have hW' := hW
  obtain ⟨p, q, hA0, hV, rfl, hfz, hnd⟩ := hW
  have hA : DataW.TrodAll enc Try.prog W 0 (fun _ => true) true Try.f4.params.toList args.toList ds p := hA0
  rw [Try.params4] at hA hval
  obtain ⟨v0, vs0, d0, ds0, p0, q0, hargs, rfl, rfl, h0, r0⟩ := trodAll_cons hA
  obtain ⟨rfl, rfl, rfl⟩ := trodAll_nil r0
  obtain rfl : args = #[v0] := by cases args; simp_all
  obtain ⟨rfl, rfl⟩ := trodVars_none hV
  obtain ⟨a0, len, cap, rfl⟩ := okWide_slice Try.underlying42 (hval 0 42 v0 rfl rfl)
  have key : ∃ rs : List (Int × Int), len = rs.length ∧ rs.length ≤ 9223372036854775807 ∧ Elems W (.slice a0 len cap) rs := by
    obtain ⟨fuel, hf⟩ := h0
    rcases open_slice_pairs Try.underlying42 Try.underlying23 cells rfl rfl cells64 cells64 (by simpa [Value.cells] using hf) with ⟨hcs, hx⟩ | ⟨a, len', cap', m, n, V0, V1, D0, D1, P0, P1, hcs, _, hl, hm, hmm, hx, hc⟩
    · simp at hcs
      obtain ⟨rfl, rfl, rfl⟩ := hcs
      exact ⟨[], rfl, by simp, .none _ _⟩
    · simp at hcs
      obtain ⟨rfl, rfl, rfl⟩ := hcs
      simp at hmm
      subst hmm
      unfold maxLen at hm
      have ints : ∀ i, i < len → ∃ q : Int × Int, W.cell? (a.add (i * 2)) = some (.int .i64 q.1) ∧ W.cell? (a.add (i * 2 + 1)) = some (.int .i64 q.2) := by
        intro i hi
        obtain ⟨h1, h2, h3, h4⟩ := hc i (by omega)
        obtain ⟨x, ex, _, _⟩ := DataW.trod_int Try.underlying2 h3
        obtain ⟨y, ey, _, _⟩ := DataW.trod_int Try.underlying2 h4
        simp at ex ey
        exact ⟨(x, y), by rw [h1, ex], by rw [h2, ey]⟩
      obtain ⟨q, hq⟩ := choose_lt ints
      rcases Nat.eq_zero_or_pos len with hz | hpos
      · subst hz
        exact ⟨[], rfl, by simp, .none _ _⟩
      · have hfirst := (hq 0 hpos).1
        obtain ⟨b, off, path⟩ := a
        have hp : path = none := by simpa [Addr.add] using World.cell?_spot hfirst
        subst hp
        refine ⟨(List.range len).map q, by simp, by simp; omega, ?_⟩
        have hlt : b < W.heap.size := by
          rcases Nat.lt_or_ge b W.heap.size with h | h
          · exact h
          · simp [World.cell?, Addr.add, Array.getElem?_eq_none h] at hfirst
        have := Elems.some (w := W) b off m ((List.range len).map q) (by simp; omega) hlt (by
          intro i hi
          simp only [List.length_map, List.length_range] at hi
          have e := hq i hi
          rw [add_plain, add_plain] at e
          simpa [Nat.add_assoc] using e)
        simpa only [List.length_map, List.length_range] using this
  obtain ⟨rs, rfl, hmax, hel⟩ := key
  have hgo : Calls Try.prog 4 #[.slice a0 rs.length cap] W fun e w' => e = .returned (.bool true) ∧ Below W.heap.size W w' := by
    by_cases hbig : 250 < rs.length
    · exact walk_big _ rs hbig hmax W hel
    · exact walk_small _ rs (by omega) a0 cap rfl W hel
  have hlt := hW'.lt
  refine hgo.mono fun e W' ⟨he, hb⟩ => ?_
  subst he
  refine ⟨_, rfl, _, _, _, [], p0 ++ [], [], hW', (trodAll_cons_mk (shut_bool Try.underlying4 _) trodAll_mk0), ?_, rfl, hb.frame _, fun h => by cases h⟩
  exact trodAll_cons_mk (Below.trod laid readable small h0 hb (fun x hx => hlt x (by simp [hx]))) trodAll_mk0

theorem over : Rows.ratioSumsRow.holds Try.pinned (OpenSpec.ofChange Rows.ratioSumsSpec) :=
  OpenClaim.holds_of_wide 4 Try.f4 rfl rfl rfl rfl rfl rfl rfl ⟨rfl, rfl, rfl, rfl, rfl⟩ rfl rfl rfl rfl rfl (by kernel_rfl) Try.func4 (by kernel_rfl)
    (of_decide_eq_true (by kernel_rfl)) (by unfold Func.isWrapper; first | (rw [if_pos (by decide +kernel)]; kernel_rfl) | (rw [if_neg (by decide +kernel)]; exact ⟨rfl, rfl⟩))
    (fun os started H enc _ => lifted os started H enc)

theorem proved : Rows.RatioSumsSaid := over
#print axioms proved
end Go.Proofs.Ytchjkjhkmhkjeaa.ratioSumsDone
