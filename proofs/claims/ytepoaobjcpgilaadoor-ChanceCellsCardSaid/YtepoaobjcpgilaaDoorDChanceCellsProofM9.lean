/-
  Texts of the proof, merged: DRewRefU, DRewStM, DWordOpen, DRewOpen, DRewOpenB, DRewRows.
-/
import Derived.Test.YtepoaobjcpgilaaDoorDChanceCellsProofM8
import Derived.Test.YtepoaobjcpgilaaDoorDChanceCellsProofM6
import Derived.Test.YtepoaobjcpgilaaDoorDChanceCellsProofM1
import Derived.ProofKit
import Derived.OpenShut
import Derived.ChangeSlices
import Derived.Deep.SlicePairs
import Derived.Lib.SmallJoins
import Derived.Test.YtepoaobjcpgilaaDoorDChanceCellsProofM5
import Derived.SizedLaws
namespace Go.Proofs.YtepoaobjcpgilaaDoor
open Go.RowKit
open WM RM
set_option linter.unusedVariables false
set_option linter.unusedSimpArgs false

theorem succ_args {l : List Rw} (hs : ∀ r ∈ l, RwSm r) {m : Md} (hm : m.a.length ≤ 10) {d : List Md} (h : succM l m = some d) : ∀ x ∈ d, x.a.length ≤ 10 := by
  unfold succM at h
  split at h
  · split at h
    · rename_i r hr
      unfold made at h
      split at h
      · have := Option.some.inj h
        subst this
        intro x hx
        rw [List.mem_map] at hx
        obtain ⟨s, hs2, rfl⟩ := hx
        have := ((hs r (List.mem_of_getElem? hr)).2.2.2 s hs2).1
        simpa [mkM] using this
      · simp at h
    · simp at h
  · have := Option.some.inj h
    subst this
    intro x hx
    rw [List.mem_singleton] at hx
    subst hx; exact hm
theorem stepL_args {l : List Rw} (hs : ∀ r ∈ l, RwSm r) : ∀ (w : List Md) (d : List Md), (∀ m ∈ w, m.a.length ≤ 10) → stepL l w = some d → ∀ x ∈ d, x.a.length ≤ 10
  | [], d, _, h => by simp [stepL] at h; subst h; simp
  | m :: w, d, hw, h => by
    simp only [stepL] at h
    cases h1 : succM l m with
    | none => rw [h1] at h; simp at h
    | some a =>
      cases h2 : stepL l w with
      | none => rw [h1, h2] at h; simp at h
      | some b =>
        rw [h1, h2] at h
        have := Option.some.inj h
        subst this
        intro x hx
        rcases List.mem_append.1 hx with h3 | h3
        · exact succ_args hs (hw m (by simp)) h1 x h3
        · exact stepL_args hs w b (fun y hy => hw y (by simp [hy])) h2 x h3
theorem stL_small {l : List Rw} (hs : ∀ r ∈ l, RwSm r) {w : List Md} (hw : ∀ m ∈ w, m.a.length ≤ 10) : (stL l w).length ≤ 2000 ∧ ∀ m ∈ stL l w, m.a.length ≤ 10 := by
  unfold stL
  by_cases h : stC l w = 0
  · rw [if_pos h]
    cases hd : stepL l w with
    | none => simp
    | some d =>
      refine ⟨?_, stepL_args hs w d hw hd⟩
      unfold stC at h
      rw [hd] at h
      by_cases h1 : rchk l = 0
      · by_cases h2 : chk w = 0
        · simp only [h1, h2, ne_eq, not_true_eq_false, if_false] at h
          show d.length ≤ 2000
          split at h
          · omega
          · omega
        · rw [if_neg (by simp [h1]), if_pos h2] at h; exact absurd h h2
      · rw [if_pos h1] at h; exact absurd h h1
  · rw [if_neg h]; simp
theorem ru_rules {l : List Rw} {w : List Md} {n : Int} (h : rchk l ≠ 0) : ruC l w n = rchk l ∧ ruL l w n = [] := by
  have e : ruC l w n = rchk l := by unfold ruC; rw [if_pos h]
  exact ⟨e, by unfold ruL; rw [e, if_neg h]⟩
theorem ru_word {l : List Rw} {w : List Md} {n : Int} (h : rchk l = 0) (h2 : chk w ≠ 0) : ruC l w n = chk w ∧ ruL l w n = [] := by
  have e : ruC l w n = chk w := by unfold ruC; rw [if_neg (by simp [h]), if_pos h2]
  exact ⟨e, by unfold ruL; rw [e, if_neg h2]⟩
theorem ru_arg {l : List Rw} {w : List Md} {n : Int} (h : rchk l = 0) (h2 : chk w = 0) (h3 : n < 0 ∨ 30 < n) : ruC l w n = 2 ∧ ruL l w n = [] := by
  have e : ruC l w n = 2 := by unfold ruC; rw [if_neg (by simp [h]), if_neg (by simp [h2]), if_pos h3]
  exact ⟨e, by unfold ruL; rw [e]; rfl⟩
theorem ru_run {l : List Rw} {w : List Md} {n : Int} (h : rchk l = 0) (h2 : chk w = 0) (h3 : ¬ (n < 0 ∨ 30 < n)) {c : Int} {u : List Md} (hr : runF l n.toNat w = (c, u)) : ruC l w n = c ∧ ruL l w n = if c = 0 then u else [] := by
  have e : ruC l w n = c := by unfold ruC; rw [if_neg (by simp [h]), if_neg (by simp [h2]), if_neg h3, hr]
  exact ⟨e, by unfold ruL; rw [e, hr]⟩
theorem run_ok {l : List Rw} {u : List Md} {n : Nat} (h : stC l u = 0) : runF l (n + 1) u = runF l n (stL l u) := by rw [runF, if_neg (by simp [h])]
theorem run_no {l : List Rw} {u : List Md} {n : Nat} (h : stC l u ≠ 0) : runF l (n + 1) u = (stC l u, []) := by rw [runF, if_pos h]
theorem own_sl3 {w : World} {base n size : Nat} {e : TypeId} {v : Value} {xs : List Value} (h : w.ownsRow base e size v n xs) : ∃ p c, v = .slice p n c ∧ n ≤ c := by
  rcases h.2 with ⟨h1, h2⟩ | ⟨g, cap, cur, h1, _, _, h3, _⟩
  · exact ⟨none, 0, by rw [h1, h2], by omega⟩
  · exact ⟨_, _, h1, h3⟩
/-- How Run ends. -/
def RuEnd (l : List Rw) (wd : List Md) (n : Int) (w : World) (e : Ending) (w' : World) : Prop := ∃ v vs, e = .returned (.tuple #[v, .int .i64 (ruC l wd n)]) ∧ Below w.heap.size w w' ∧ ModFr w' w.heap.size v (ruL l wd n) vs
/-- Where the loop stands. -/
structure RnAt (w : World) (l : List Rw) (wd : List Md) (n i : Nat) (u : List Md) (v : Value) (wr : World) : Prop where
  hi : i ≤ n
  below : Below w.heap.size w wr
  own : ∃ vs, ModFr wr w.heap.size v u vs
  len : u.length ≤ 2100
  args : ∀ m ∈ u, m.a.length ≤ 10
  eq : runF l n wd = runF l (n - i) u
end Go.Proofs.YtepoaobjcpgilaaDoor
namespace Go.Proofs.YtepoaobjcpgilaaDoor
open WM
set_option linter.unusedVariables false
set_option linter.unusedSimpArgs false
namespace RM
theorem rule_nob {r : Rw} (h : ruleB r = true) : braB r.c = false := by
  unfold ruleB at h
  simp only [Bool.and_eq_true] at h
  simpa using h.1.1.1.1.1.2
theorem rule_chk {r : Rw} (h : ruleB r = true) : chk (r.out.map shM) = 0 := by
  unfold ruleB at h
  simp only [Bool.and_eq_true, decide_eq_true_eq] at h
  exact h.2
theorem rule_shs {r : Rw} (h : ruleB r = true) : ∀ s ∈ r.out, fineB (shM s) = true := by
  unfold ruleB at h
  simp only [Bool.and_eq_true] at h
  intro s hs
  have h1 := List.all_eq_true.1 h.1.2 s hs
  unfold shB at h1
  simp only [Bool.and_eq_true] at h1
  exact h1.1
theorem mk_c (x : List Int) (s : Sh) : (mkM s x).c = (shM s).c := rfl
theorem mk_fine {s : Sh} {x : List Int} (h : fineB (shM s) = true) (hb : mkB s x = true) : fineB (mkM s x) = true := by
  have e : shM s = zerM s.c s.a.length := rfl
  rw [e, fine_zer] at h
  simp only [Bool.and_eq_true, decide_eq_true_eq] at h
  obtain ⟨⟨h1, h2⟩, h3⟩ := h
  have hr : rngB (mkM s x).a = true := by
    unfold rngB mkM
    rw [List.all_map]
    unfold mkB at hb
    rw [List.all_eq_true] at hb ⊢
    intro f hf
    exact hb f hf
  have hl : (mkM s x).a.length = s.a.length := by simp [mkM]
  unfold fineB
  rw [hr, hl]
  have hc : (mkM s x).c = s.c := rfl
  rw [hc, h1]
  simp only [h2, decide_true, Bool.true_and, Bool.and_true]
  exact h3
/-- What holds of a module's successor. -/
structure SucOk (m : Md) (a : List Md) : Prop where
  fine : ∀ x ∈ a, fineB x = true
  dp : dep a = dlt m
  pre : ∀ j, j ≤ a.length → dep (a.take j) = dlt m ∨ 0 ≤ dep (a.take j)
theorem pre_ok {l : List Md} (h : okB l l.length = true) (j : Nat) (hj : j ≤ l.length) : 0 ≤ dep (l.take j) := by
  cases j with
  | zero => simp [dep_nil]
  | succ j => exact okB_iff.1 h j (by omega)
theorem dlt_nob {m : Md} (h : braB m.c = false) : dlt m = 0 := by
  unfold braB at h
  rw [Bool.or_eq_false_iff] at h
  have h1 : m.c ≠ 91 := by simpa using h.1
  have h2 : m.c ≠ 93 := by simpa using h.2
  unfold dlt; rw [if_neg h1, if_neg h2]
theorem first_fits {l : List Rw} {m : Md} : ∀ {k : Nat}, first l m = (k : Int) → ∃ hk : k < l.length, fitB l[k] m = true := by
  have key : ∀ (l : List Rw) (i : Int) (k : Nat), firstF l m i = i + k → 0 ≤ i → ∃ hk : k < l.length, fitB l[k] m = true := by
    intro l
    induction l with
    | nil => intro i k h h0; simp [firstF] at h; omega
    | cons r l ih =>
      intro i k h h0
      unfold firstF at h
      by_cases hf : fitB r m = true
      · rw [if_pos hf] at h
        obtain rfl : k = 0 := by omega
        exact ⟨by simp, hf⟩
      · rw [if_neg hf] at h
        cases k with
        | zero =>
          exfalso
          rcases firstF_rng l m (i + 1) with h2 | ⟨h2, _⟩
          · omega
          · omega
        | succ k =>
          obtain ⟨hk, h3⟩ := ih (i + 1) k (by omega) (by omega)
          exact ⟨by simp; omega, by simpa using h3⟩
  intro k h
  exact key l 0 k (by unfold first at h; omega) (by omega)
theorem suc_ok {l : List Rw} (hl : ∀ r ∈ l, ruleB r = true) {m : Md} (hm : fineB m = true) {a : List Md} (h : succM l m = some a) : SucOk m a := by
  by_cases hz : 0 ≤ first l m
  · obtain ⟨k, hk⟩ : ∃ k : Nat, first l m = (k : Int) := ⟨(first l m).toNat, by omega⟩
    obtain ⟨hkl, hfit⟩ := first_fits hk
    have hs : succM l m = made l[k] m := by
      unfold succM
      rw [dif_pos hz]
      have : (first l m).toNat = k := by omega
      rw [this, List.getElem?_eq_getElem hkl]
    rw [hs] at h
    have hr := hl _ (List.getElem_mem hkl)
    generalize l[k] = r at h hr hfit
    unfold made at h
    split at h
    · rename_i hall
      have ha := (Option.some.inj h).symm
      subst ha
      have hc : braB m.c = false := by
        have : r.c = m.c := by
          unfold fitB at hfit
          simp only [Bool.and_eq_true] at hfit
          simpa using hfit.1.1
        rw [← this]; exact rule_nob hr
      have hd := dlt_nob hc
      obtain ⟨-, -, h3, h4⟩ := chk_zero.1 (rule_chk hr)
      rw [List.length_map] at h3
      have e1 : dep (r.out.map (mkM · m.a)) = 0 := by rw [dep_map (mkM · m.a) shM (fun s => rfl)]; exact h4
      refine ⟨?_, by rw [e1, hd], fun j hj => .inr ?_⟩
      · intro x hx
        obtain ⟨s, hs2, rfl⟩ := List.mem_map.1 hx
        exact mk_fine (rule_shs hr s hs2) (List.all_eq_true.1 hall s hs2)
      · refine pre_ok ?_ j hj
        rw [List.length_map, ok_map (mkM · m.a) shM (fun s => rfl)]
        exact h3
    · simp at h
  · have hs : succM l m = some [m] := by unfold succM; rw [dif_neg hz]
    rw [hs] at h
    have ha := (Option.some.inj h).symm
    subst ha
    refine ⟨by simpa using hm, dep_one m, fun j hj => ?_⟩
    match j, hj with
    | 0, _ => right; simp [dep_nil]
    | 1, _ => left; exact dep_one m
theorem step_fine {l : List Rw} (hl : ∀ r ∈ l, ruleB r = true) : ∀ (u d : List Md), (∀ m ∈ u, fineB m = true) → stepL l u = some d → (∀ x ∈ d, fineB x = true) ∧ dep d = dep u ∧ ∀ c : Int, (∀ j, j ≤ u.length → 0 ≤ c + dep (u.take j)) → ∀ j, j ≤ d.length → 0 ≤ c + dep (d.take j)
  | [], d, _, h => by
    simp only [stepL, Option.some.injEq] at h
    subst h
    exact ⟨by simp, rfl, fun c hc j hj => by simp at hj; subst hj; simpa using hc 0 (by simp)⟩
  | m :: u, d, hu, h => by
    simp only [stepL] at h
    cases h1 : succM l m with
    | none => rw [h1] at h; simp at h
    | some a =>
      cases h2 : stepL l u with
      | none => rw [h1, h2] at h; simp at h
      | some b =>
        rw [h1, h2] at h
        have hd := (Option.some.inj h).symm
        subst hd
        have A := suc_ok hl (hu m (by simp)) h1
        obtain ⟨B1, B2, B3⟩ := step_fine hl u b (fun x hx => hu x (by simp [hx])) h2
        refine ⟨fun x hx => ?_, by rw [dep_app, A.dp, B2, dep_cons], fun c hc j hj => ?_⟩
        · rcases List.mem_append.1 hx with h3 | h3
          · exact A.fine x h3
          · exact B1 x h3
        · have c0 := hc 0 (by simp)
          have c1 := hc 1 (by simp)
          simp only [List.take_zero, dep_nil, List.take_succ_cons, dep_cons] at c0 c1
          by_cases hja : j ≤ a.length
          · rw [List.take_append_of_le_length hja]
            rcases A.pre j hja with e | e <;> omega
          · have e : (a ++ b).take j = a ++ b.take (j - a.length) := by
              rw [List.take_append, List.take_of_length_le (by omega)]
            rw [e, dep_app, A.dp]
            have := B3 (c + dlt m) (fun i hi => by
              have := hc (i + 1) (by simp; omega)
              rw [List.take_succ_cons, dep_cons] at this
              omega) (j - a.length) (by rw [List.length_append] at hj; omega)
            omega
theorem step_chk {l : List Rw} (hl : ∀ r ∈ l, ruleB r = true) {u d : List Md} (hu : chk u = 0) (h : stepL l u = some d) (hd : d.length ≤ 2000) : chk d = 0 := by
  obtain ⟨_, h2, h3, h4⟩ := chk_zero.1 hu
  obtain ⟨a1, a2, a3⟩ := step_fine hl u d (fun m hm => List.all_eq_true.1 h2 m hm) h
  refine chk_zero.2 ⟨hd, List.all_eq_true.2 a1, okB_iff.2 fun i hi => ?_, by rw [a2, h4]⟩
  have := a3 0 (fun j hj => by have := pre_ok h3 j hj; omega) (i + 1) (by omega)
  omega
/-- step's error and word are Step's, of valid rules and a valid word. -/
theorem st_valid {l : List Rw} (hl : rchk l = 0) {u : List Md} (hu : chk u = 0) : stC l u = (match stepL l u with | none => 16 | some d => if 2000 < d.length then 4 else 0) ∧ stL l u = (match stepL l u with | none => [] | some d => if 2000 < d.length then [] else d) := by
  cases hs : stepL l u with
  | none => exact st_none hl hu hs
  | some d =>
    by_cases h : 2000 < d.length
    · have := st_many hl hu hs h
      simpa [h] using this
    · have := st_ok hl hu hs h
      simpa [h] using this
theorem stL_chk {l : List Rw} (hl : rchk l = 0) {u : List Md} (hu : chk u = 0) : chk (stL l u) = 0 := by
  have hr := (rchk_zero hl).2
  rw [(st_valid hl hu).2]
  cases hs : stepL l u with
  | none => decide
  | some d =>
    show chk (if 2000 < d.length then [] else d) = 0
    split
    · decide
    · exact step_chk (fun r h => (hr r h).1) hu hs (by omega)
end RM
end Go.Proofs.YtepoaobjcpgilaaDoor
namespace Go.Proofs.YtepoaobjcpgilaaDoor
open Go.ChangeShapes Go.WideShapes Go.ChangeAt Go.RowKit Go.Joins Go.Deep
open WM
set_option linter.unusedVariables false
set_option linter.unusedSimpArgs false
set_option maxRecDepth 100000

theorem wo_cellsM : Tryd.prog.cellsOf 25 = 2 := by kernel_rfl
theorem wo_cellsU : Tryd.prog.cellsOf 5 = 1 := by kernel_rfl
theorem wo_cellsI : Tryd.prog.cellsOf 3 = 1 := by kernel_rfl
theorem wo_cellsL : Tryd.prog.cellsOf 23 = 1 := by kernel_rfl
theorem wo_fields {fs : Array Field} {l : List (Nat × TypeId)} (h : fs.map (fun f : Field => (f.offset, f.type)) = l.toArray) : ∀ (i o : Nat) (t : TypeId), l[i]? = some (o, t) → ∃ f : Field, fs[i]? = some f ∧ f.offset = o ∧ f.type = t := by
  intro i o t hi
  have : (fs.map (fun f : Field => (f.offset, f.type)))[i]? = some (o, t) := by rw [h]; simpa using hi
  rw [Array.getElem?_map, Option.map_eq_some_iff] at this
  obtain ⟨f, h1, h2⟩ := this
  injection h2 with h2 h3
  exact ⟨f, h1, h2, h3⟩
theorem wo_struct : ∃ fs : Array Field, Tryd.prog.underlying 25 = some (.struct fs) ∧ fs.map (fun f : Field => (f.offset, f.type)) = [(0, 5), (1, 23)].toArray := ⟨_, Tryd.underlying25, by simp⟩
theorem wo_add (b off i : Nat) : (⟨b, off, none⟩ : Addr).add i = ⟨b, off + i, none⟩ := by
  unfold Addr.add; by_cases h : i = 0 <;> simp [h]
section
variable {H : Type} {enc : TypeId × Value → H} {W : World} {base : Nat} {spare : Nat → Bool} {held : Bool}
theorem wo_ints {fuel : Nat} {cs : List Value} {x : DataW H × List MemPlace} (h : DataW.trod enc Tryd.prog W base spare held fuel 23 cs = some x) :
    ∃ (v : Value) (l : List Int), cs = [v] ∧ l.length ≤ 9223372036854775807 ∧ Ints W v l ∧ NilOr v := by
  rcases open_ints Tryd.underlying23 Tryd.underlying3 wo_cellsI h with ⟨hcs, hx⟩ | ⟨a, len, cap, zs, hcs, _, hl, hm, hz, hx, hc, hw⟩
  · exact ⟨_, [], hcs, by simp, .none _ _, .inl rfl⟩
  · refine ⟨_, zs.take len, hcs, ?_, ?_, .inr ⟨_, _, _, rfl⟩⟩
    · unfold maxLen at hm
      rw [List.length_take]; omega
    · have hzl : len ≤ zs.length := by rw [hz]; split <;> omega
      have hll : (zs.take len).length = len := by rw [List.length_take]; omega
      rcases Nat.eq_zero_or_pos len with h0 | hpos
      · subst h0; rw [List.take_zero]; exact .none _ _
      · have hfirst := hc 0 (by omega)
        obtain ⟨b, off, path⟩ := a
        have hp : path = none := by simpa [Addr.add] using World.cell?_spot hfirst
        subst hp
        have hlt : b < W.heap.size := by
          rcases Nat.lt_or_ge b W.heap.size with h | h
          · exact h
          · simp [World.cell?, Addr.add, Array.getElem?_eq_none h] at hfirst
        have := Ints.some (w := W) b off cap (zs.take len) (by omega) hlt (by
          intro i hi
          have e := hc i (by omega)
          rw [wo_add] at e
          rw [e]
          have : i < zs.length := by omega
          simp [List.getD, this])
        rwa [hll] at this
theorem wo_mod {fuel : Nat} {cs : List Value} {x : DataW H × List MemPlace} (h : DataW.trod enc Tryd.prog W base spare held fuel 25 cs = some x) :
    ∃ (m : Md) (v : Value), cs = [.int .u8 m.c.toNat, v] ∧ m.a.length ≤ 9223372036854775807 ∧ Ints W v m.a ∧ NilOr v := by
  obtain ⟨fs, hu, hf⟩ := wo_struct
  obtain ⟨xs, n, rfl, ex, hl, hxl, hx⟩ := DataW.trod_struct hu h
  have F := wo_fields hf
  rw [wo_cellsM] at hl
  obtain ⟨c0, c1, rfl⟩ : ∃ a b, cs = [a, b] := by
    match cs, hl with
    | [a, b], _ => exact ⟨a, b, rfl⟩
  have hsz : fs.size = 2 := by have := congrArg Array.size hf; simpa using this
  have get : ∀ i, i < 2 → ∃ y, xs[i]? = some y := fun i hi => ⟨xs[i]'(by omega), List.getElem?_eq_getElem (by omega)⟩
  have step : ∀ (i o : Nat) (t : TypeId) (y : DataW H × List MemPlace), ([(0, 5), (1, 23)] : List (Nat × TypeId))[i]? = some (o, t) → xs[i]? = some y → DataW.trod enc Tryd.prog W base spare held n t (([c0, c1].drop o).take (Tryd.prog.cellsOf t)) = some y := by
    intro i o t y h1 h2
    obtain ⟨f, h3, rfl, rfl⟩ := F i o t h1
    rw [hx i f h3, h2]
  obtain ⟨y0, g0⟩ := get 0 (by omega)
  obtain ⟨y1, g1⟩ := get 1 (by omega)
  have h0 := step 0 _ _ _ rfl g0
  have h1 := step 1 _ _ _ rfl g1
  rw [wo_cellsU] at h0
  rw [wo_cellsL] at h1
  obtain ⟨k, e0, -, w0⟩ := DataW.trod_int Tryd.underlying5 h0
  simp only [List.drop_zero, List.drop_succ_cons, List.take_succ_cons, List.take_zero, List.cons.injEq, and_true] at e0
  simp only [List.drop_zero, List.drop_succ_cons, List.take_succ_cons, List.take_zero] at h1
  obtain ⟨v, l, e1, h2, h3, h4⟩ := wo_ints h1
  simp only [List.cons.injEq, and_true] at e1
  subst e0 e1
  have u1 : IntKind.u8.min = 0 := by decide
  have u2 : IntKind.u8.max = 255 := by decide
  simp [Lit.wf, u1, u2] at w0
  refine ⟨⟨UInt8.ofNat k.toNat, l⟩, c1, ?_, h2, h3, h4⟩
  have : ((UInt8.ofNat k.toNat).toNat : Int) = k := by rw [UInt8.toNat_ofNat']; omega
  rw [this]
theorem wo_mods {fuel : Nat} {cs : List Value} {x : DataW H × List MemPlace} (h : DataW.trod enc Tryd.prog W base spare held fuel 41 cs = some x) :
    ∃ (v : Value) (l : List Md), cs = [v] ∧ l.length ≤ 9223372036854775807 ∧ (∀ m ∈ l, m.a.length ≤ 9223372036854775807) ∧ Mods W v l ∧ NilOr v := by
  rcases DataW.trod_slice Tryd.underlying41 h with ⟨hcs, -⟩ | ⟨ad, len, cap, elems, rest, n, _, hcs, _, _, hlc, hcm, hel, hx, -⟩
  · exact ⟨_, [], hcs, by simp, by simp, .none _ _, .inl rfl⟩
  · have one : ∀ i, i < len → ∃ p : Md × Value, (∃ b off, ad.add (i * 2) = ⟨b, off, none⟩ ∧ b < W.heap.size ∧ W.cell? ⟨b, off, none⟩ = some (.int .u8 p.1.c.toNat) ∧ W.cell? ⟨b, off + 1, none⟩ = some p.2) ∧ p.1.a.length ≤ 9223372036854775807 ∧ Ints W p.2 p.1.a ∧ NilOr p.2 := by
      intro i hi
      have h1 := hx i hi
      rw [wo_cellsM, List.getElem?_eq_getElem (by omega)] at h1
      obtain ⟨cs', h2, h3⟩ := Option.bind_eq_some_iff.1 h1
      obtain ⟨m, v, rfl, h4, h5, h6⟩ := wo_mod h3
      obtain ⟨_, _, hc⟩ := World.cells?_some h2
      obtain ⟨b, off, path, he⟩ : ∃ b off path, ad.add (i * 2) = ⟨b, off, path⟩ := ⟨_, _, _, rfl⟩
      rw [he] at hc
      have c0 := hc 0 (by omega)
      have hp : path = none := by simpa [Addr.add] using World.cell?_spot c0
      subst hp
      have c1 := hc 1 (by omega)
      have hlt : b < W.heap.size := by
        rcases Nat.lt_or_ge b W.heap.size with h | h
        · exact h
        · simp [World.cell?, Addr.add, Array.getElem?_eq_none h] at c0
      simp [Addr.add] at c0 c1
      exact ⟨(m, v), ⟨b, off, he, hlt, c0, c1⟩, h4, h5, h6⟩
    have : Inhabited (Md × Value) := ⟨(⟨0, []⟩, .slice none 0 0)⟩
    obtain ⟨f, hf⟩ := choose_lt one
    refine ⟨_, (List.range len).map fun i => (f i).1, hcs, ?_, ?_, ?_, .inr ⟨_, _, _, rfl⟩⟩
    · unfold maxLen at hcm
      simp; omega
    · intro m hm
      rw [List.mem_map] at hm
      obtain ⟨i, hi, rfl⟩ := hm
      exact (hf i (by simpa using hi)).2.1
    · rcases Nat.eq_zero_or_pos len with h0 | hpos
      · subst h0; exact .none _ _
      · obtain ⟨⟨b, off, e0, hlt, _⟩, _⟩ := hf 0 hpos
        have ea : ad = ⟨b, off, none⟩ := by simpa [Addr.add] using e0
        subst ea
        have hll : ((List.range len).map fun i => (f i).1).length = len := by simp
        have := Mods.some (w := W) b off cap ((List.range len).map fun i => (f i).1) (by omega) hlt (by
          intro i hi
          rw [hll] at hi
          obtain ⟨⟨b', off', e, _, hc0, hc1⟩, _, g1, g2⟩ := hf i hi
          rw [wo_add] at e
          injection e with e1 e2 _
          subst e1 e2
          simp only [List.getElem_map, List.getElem_range]
          exact ⟨hc0, _, hc1, g1, g2⟩)
        rwa [hll] at this
/-- .. as an argument. -/
theorem modsOpen {v : Value} {d : DataW H} {p : List MemPlace} {a0 : Option Addr} {len cap : Nat} (hv : v = .slice a0 len cap) (h : DataW.Trod enc Tryd.prog W base spare held 41 v d p) :
    ∃ l : List Md, l.length ≤ 9223372036854775807 ∧ (∀ m ∈ l, m.a.length ≤ 9223372036854775807) ∧ Mods W v l ∧ NilOr v := by
  obtain ⟨fuel, hf⟩ := h
  subst hv
  obtain ⟨v', l, e, h1, h2, h3, h4⟩ := wo_mods (by simpa [Value.cells] using hf)
  simp at e
  subst e
  exact ⟨l, h1, h2, h3, h4⟩
end
theorem readableM : Tryd.prog.readableRec 41 = true := by kernel_rfl
theorem smallM : 41 < Tryd.prog.types.size := of_decide_eq_true (by kernel_rfl)
end Go.Proofs.YtepoaobjcpgilaaDoor
namespace Go.Proofs.YtepoaobjcpgilaaDoor
open Go.ChangeShapes Go.WideShapes Go.ChangeAt Go.RowKit Go.Joins Go.Deep
open WM RM
set_option linter.unusedVariables false
set_option linter.unusedSimpArgs false
set_option maxRecDepth 100000

theorem ro_u8 {k : Int} (h : (Lit.int .u8 k).wf = true) : ∃ c : UInt8, k = ((c.toNat : Nat) : Int) := by
  have u1 : IntKind.u8.min = 0 := by decide
  have u2 : IntKind.u8.max = 255 := by decide
  simp [Lit.wf, u1, u2] at h
  exact ⟨UInt8.ofNat k.toNat, by rw [UInt8.toNat_ofNat']; omega⟩
theorem ro_cellsFs : Tryd.prog.cellsOf 29 = 1 := by kernel_rfl
theorem ro_cellsSs : Tryd.prog.cellsOf 28 = 1 := by kernel_rfl
/-- How long a form's, a shape's, a rule's parts may be. -/
def FmOk (f : Fm) : Prop := f.cs.length ≤ 9223372036854775807
def ShOk (s : Sh) : Prop := s.a.length ≤ 9223372036854775807 ∧ ∀ f ∈ s.a, FmOk f
def RwOk (r : Rw) : Prop := r.gs.length ≤ 9223372036854775807 ∧ r.out.length ≤ 9223372036854775807 ∧ (∀ f ∈ r.gs, FmOk f) ∧ ∀ s ∈ r.out, ShOk s
/-- The cells of a form, a shape, a rule. -/
def ro_fmC (W : World) (f : Fm) (cs : List Value) : Prop := ∃ v, cs = [.int .i64 f.k, v] ∧ Ints W v f.cs
def ro_shC (W : World) (s : Sh) (cs : List Value) : Prop := ∃ v, cs = [.int .u8 s.c.toNat, v] ∧ Fms W v s.a
def ro_rwC (W : World) (r : Rw) (cs : List Value) : Prop := ∃ v u, cs = [.int .u8 r.c.toNat, .int .i64 r.ar, .int .u8 r.l.toNat, .int .u8 r.r.toNat, v, .int .i64 r.wt, u] ∧ Fms W v r.gs ∧ Shs W u r.out
theorem ro_fmC_len {W : World} {f : Fm} {cs : List Value} (h : ro_fmC W f cs) : cs.length = 2 := by obtain ⟨v, rfl, _⟩ := h; rfl
theorem ro_shC_len {W : World} {s : Sh} {cs : List Value} (h : ro_shC W s cs) : cs.length = 2 := by obtain ⟨v, rfl, _⟩ := h; rfl
theorem ro_rwC_len {W : World} {r : Rw} {cs : List Value} (h : ro_rwC W r cs) : cs.length = 7 := by obtain ⟨v, u, rfl, _⟩ := h; rfl
theorem ro_fmC_at {W : World} {f : Fm} {cs : List Value} {b o : Nat} (h : ro_fmC W f cs) (hc : ∀ j, j < 2 → W.cell? ⟨b, o + j, none⟩ = cs[j]?) : W.cell? ⟨b, o, none⟩ = some (.int .i64 f.k) ∧ ∃ v, W.cell? ⟨b, o + 1, none⟩ = some v ∧ Ints W v f.cs := by
  obtain ⟨v, rfl, hi⟩ := h
  exact ⟨hc 0 (by omega), v, hc 1 (by omega), hi⟩
theorem ro_shC_at {W : World} {s : Sh} {cs : List Value} {b o : Nat} (h : ro_shC W s cs) (hc : ∀ j, j < 2 → W.cell? ⟨b, o + j, none⟩ = cs[j]?) : W.cell? ⟨b, o, none⟩ = some (.int .u8 s.c.toNat) ∧ ∃ v, W.cell? ⟨b, o + 1, none⟩ = some v ∧ Fms W v s.a := by
  obtain ⟨v, rfl, hi⟩ := h
  exact ⟨hc 0 (by omega), v, hc 1 (by omega), hi⟩
theorem ro_rwC_at {W : World} {r : Rw} {cs : List Value} {b o : Nat} (h : ro_rwC W r cs) (hc : ∀ j, j < 7 → W.cell? ⟨b, o + j, none⟩ = cs[j]?) :
    W.cell? ⟨b, o, none⟩ = some (.int .u8 r.c.toNat) ∧ W.cell? ⟨b, o + 1, none⟩ = some (.int .i64 r.ar) ∧ W.cell? ⟨b, o + 2, none⟩ = some (.int .u8 r.l.toNat) ∧ W.cell? ⟨b, o + 3, none⟩ = some (.int .u8 r.r.toNat) ∧
      W.cell? ⟨b, o + 5, none⟩ = some (.int .i64 r.wt) ∧ (∃ v, W.cell? ⟨b, o + 4, none⟩ = some v ∧ Fms W v r.gs) ∧ (∃ v, W.cell? ⟨b, o + 6, none⟩ = some v ∧ Shs W v r.out) := by
  obtain ⟨v, u, rfl, h1, h2⟩ := h
  exact ⟨hc 0 (by omega), hc 1 (by omega), hc 2 (by omega), hc 3 (by omega), hc 5 (by omega), ⟨v, hc 4 (by omega), h1⟩, u, hc 6 (by omega), h2⟩
theorem ro_fm_struct : ∃ fs : Array Field, Tryd.prog.underlying 35 = some (.struct fs) ∧ fs.map (fun f : Field => (f.offset, f.type)) = [(0, 3), (1, 23)].toArray := ⟨_, Tryd.underlying35, by simp⟩
theorem ro_fm_cells : Tryd.prog.cellsOf 35 = 2 := by kernel_rfl
theorem ro_sh_struct : ∃ fs : Array Field, Tryd.prog.underlying 33 = some (.struct fs) ∧ fs.map (fun f : Field => (f.offset, f.type)) = [(0, 5), (1, 29)].toArray := ⟨_, Tryd.underlying33, by simp⟩
theorem ro_sh_cells : Tryd.prog.cellsOf 33 = 2 := by kernel_rfl
theorem ro_rw_struct : ∃ fs : Array Field, Tryd.prog.underlying 31 = some (.struct fs) ∧ fs.map (fun f : Field => (f.offset, f.type)) = [(0, 5), (1, 3), (2, 5), (3, 5), (4, 29), (5, 3), (6, 28)].toArray := ⟨_, Tryd.underlying31, by simp⟩
theorem ro_rw_cells : Tryd.prog.cellsOf 31 = 7 := by kernel_rfl
section
variable {H : Type} {enc : TypeId × Value → H} {W : World} {base : Nat} {spare : Nat → Bool} {held : Bool}
theorem ro_fm_one {fuel : Nat} {cs : List Value} {x : DataW H × List MemPlace} (h : DataW.trod enc Tryd.prog W base spare held fuel 35 cs = some x) :
    ∃ f : Fm, FmOk f ∧ ro_fmC W f cs := by
  obtain ⟨fs, hu, hf⟩ := ro_fm_struct
  obtain ⟨xs, n, rfl, ex, hl, hxl, hx⟩ := DataW.trod_struct hu h
  have F := wo_fields hf
  rw [ro_fm_cells] at hl
  obtain ⟨c0, c1, rfl⟩ : ∃ c0 c1, cs = [c0, c1] := by
    match cs, hl with
    | [c0, c1], _ => exact ⟨c0, c1, rfl⟩
  have hsz : fs.size = 2 := by have := congrArg Array.size hf; simpa using this
  have get : ∀ i, i < 2 → ∃ y, xs[i]? = some y := fun i hi => ⟨xs[i]'(by omega), List.getElem?_eq_getElem (by omega)⟩
  have step : ∀ (i o : Nat) (t : TypeId) (y : DataW H × List MemPlace), ([(0, 3), (1, 23)] : List (Nat × TypeId))[i]? = some (o, t) → xs[i]? = some y → DataW.trod enc Tryd.prog W base spare held n t (([c0, c1].drop o).take (Tryd.prog.cellsOf t)) = some y := by
    intro i o t y h1 h2
    obtain ⟨f, h3, rfl, rfl⟩ := F i o t h1
    rw [hx i f h3, h2]
  obtain ⟨y0, g0⟩ := get 0 (by omega)
  have h0 := step 0 _ _ _ rfl g0
  rw [wo_cellsI] at h0
  simp only [List.drop_zero, List.drop_succ_cons, List.take_succ_cons, List.take_zero] at h0
  obtain ⟨k0, e0, -, w0⟩ := DataW.trod_int Tryd.underlying3 h0
  simp only [List.cons.injEq, and_true] at e0
  subst e0
  obtain ⟨y1, g1⟩ := get 1 (by omega)
  have h1 := step 1 _ _ _ rfl g1
  rw [wo_cellsL] at h1
  simp only [List.drop_zero, List.drop_succ_cons, List.take_succ_cons, List.take_zero] at h1
  obtain ⟨v1, l1, e1, m1, r1, _⟩ := wo_ints h1
  simp only [List.cons.injEq, and_true] at e1
  subst e1
  exact ⟨⟨k0, l1⟩, m1, _, rfl, r1⟩
theorem ro_forms {fuel : Nat} {cs : List Value} {x : DataW H × List MemPlace} (h : DataW.trod enc Tryd.prog W base spare held fuel 29 cs = some x) :
    ∃ (v : Value) (l : List Fm), cs = [v] ∧ l.length ≤ 9223372036854775807 ∧ (∀ m ∈ l, FmOk m) ∧ Fms W v l := by
  rcases DataW.trod_slice Tryd.underlying29 h with ⟨hcs, -⟩ | ⟨ad, len, cap, elems, rest, n, _, hcs, _, _, hlc, hcm, hel, hx, -⟩
  · exact ⟨_, [], hcs, by simp, by simp, .none _ _⟩
  · have one : ∀ i, i < len → ∃ p : Fm × List Value, (∃ b off, ad.add (i * 2) = ⟨b, off, none⟩ ∧ b < W.heap.size ∧ p.2.length = 2 ∧ ∀ j, j < 2 → W.cell? ⟨b, off + j, none⟩ = p.2[j]?) ∧ FmOk p.1 ∧ ro_fmC W p.1 p.2 := by
      intro i hi
      have h1 := hx i hi
      rw [ro_fm_cells, List.getElem?_eq_getElem (by omega)] at h1
      obtain ⟨cs', h2, h3⟩ := Option.bind_eq_some_iff.1 h1
      obtain ⟨m, h4, h5⟩ := ro_fm_one h3
      obtain ⟨hlen, _, hc⟩ := World.cells?_some h2
      obtain ⟨b, off, path, he⟩ : ∃ b off path, ad.add (i * 2) = ⟨b, off, path⟩ := ⟨_, _, _, rfl⟩
      rw [he] at hc
      have c0 := hc 0 (by omega)
      have hl' := ro_fmC_len h5
      rw [List.getElem?_eq_getElem (by omega)] at c0
      have hp : path = none := by simpa [Addr.add] using World.cell?_spot c0
      subst hp
      have hlt : b < W.heap.size := by
        rcases Nat.lt_or_ge b W.heap.size with h | h
        · exact h
        · simp [World.cell?, Addr.add, Array.getElem?_eq_none h] at c0
      refine ⟨(m, cs'), ⟨b, off, he, hlt, hl', fun j hj => ?_⟩, h4, h5⟩
      have := hc j (by omega)
      rw [wo_add] at this
      exact this
    have : Inhabited (Fm × List Value) := ⟨(⟨0, []⟩, [])⟩
    obtain ⟨f, hf⟩ := choose_lt one
    refine ⟨_, (List.range len).map fun i => (f i).1, hcs, ?_, ?_, ?_⟩
    · unfold maxLen at hcm
      simp; omega
    · intro m hm
      rw [List.mem_map] at hm
      obtain ⟨i, hi, rfl⟩ := hm
      exact (hf i (by simpa using hi)).2.1
    · rcases Nat.eq_zero_or_pos len with h0 | hpos
      · subst h0; exact .none _ _
      · obtain ⟨⟨b, off, e0, hlt, _⟩, _⟩ := hf 0 hpos
        have ea : ad = ⟨b, off, none⟩ := by simpa [Addr.add] using e0
        subst ea
        have hll : ((List.range len).map fun i => (f i).1).length = len := by simp
        have := Fms.some (w := W) b off cap ((List.range len).map fun i => (f i).1) (by omega) hlt (by
          intro i hi
          rw [hll] at hi
          obtain ⟨⟨b', off', e, _, hl', hc⟩, _, hC⟩ := hf i hi
          rw [wo_add] at e
          injection e with e1 e2 _
          subst e1 e2
          simp only [List.getElem_map, List.getElem_range]
          exact ro_fmC_at hC hc)
        rwa [hll] at this
theorem ro_sh_one {fuel : Nat} {cs : List Value} {x : DataW H × List MemPlace} (h : DataW.trod enc Tryd.prog W base spare held fuel 33 cs = some x) :
    ∃ s : Sh, ShOk s ∧ ro_shC W s cs := by
  obtain ⟨fs, hu, hf⟩ := ro_sh_struct
  obtain ⟨xs, n, rfl, ex, hl, hxl, hx⟩ := DataW.trod_struct hu h
  have F := wo_fields hf
  rw [ro_sh_cells] at hl
  obtain ⟨c0, c1, rfl⟩ : ∃ c0 c1, cs = [c0, c1] := by
    match cs, hl with
    | [c0, c1], _ => exact ⟨c0, c1, rfl⟩
  have hsz : fs.size = 2 := by have := congrArg Array.size hf; simpa using this
  have get : ∀ i, i < 2 → ∃ y, xs[i]? = some y := fun i hi => ⟨xs[i]'(by omega), List.getElem?_eq_getElem (by omega)⟩
  have step : ∀ (i o : Nat) (t : TypeId) (y : DataW H × List MemPlace), ([(0, 5), (1, 29)] : List (Nat × TypeId))[i]? = some (o, t) → xs[i]? = some y → DataW.trod enc Tryd.prog W base spare held n t (([c0, c1].drop o).take (Tryd.prog.cellsOf t)) = some y := by
    intro i o t y h1 h2
    obtain ⟨f, h3, rfl, rfl⟩ := F i o t h1
    rw [hx i f h3, h2]
  obtain ⟨y0, g0⟩ := get 0 (by omega)
  have h0 := step 0 _ _ _ rfl g0
  rw [wo_cellsU] at h0
  simp only [List.drop_zero, List.drop_succ_cons, List.take_succ_cons, List.take_zero] at h0
  obtain ⟨k0, e0, -, w0⟩ := DataW.trod_int Tryd.underlying5 h0
  simp only [List.cons.injEq, and_true] at e0
  subst e0
  obtain ⟨b0, rfl⟩ := ro_u8 w0
  obtain ⟨y1, g1⟩ := get 1 (by omega)
  have h1 := step 1 _ _ _ rfl g1
  rw [ro_cellsFs] at h1
  simp only [List.drop_zero, List.drop_succ_cons, List.take_succ_cons, List.take_zero] at h1
  obtain ⟨v1, l1, e1, m1, n1, r1⟩ := ro_forms h1
  simp only [List.cons.injEq, and_true] at e1
  subst e1
  exact ⟨⟨b0, l1⟩, ⟨m1, n1⟩, _, rfl, r1⟩
theorem ro_shapes {fuel : Nat} {cs : List Value} {x : DataW H × List MemPlace} (h : DataW.trod enc Tryd.prog W base spare held fuel 28 cs = some x) :
    ∃ (v : Value) (l : List Sh), cs = [v] ∧ l.length ≤ 9223372036854775807 ∧ (∀ m ∈ l, ShOk m) ∧ Shs W v l := by
  rcases DataW.trod_slice Tryd.underlying28 h with ⟨hcs, -⟩ | ⟨ad, len, cap, elems, rest, n, _, hcs, _, _, hlc, hcm, hel, hx, -⟩
  · exact ⟨_, [], hcs, by simp, by simp, .none _ _⟩
  · have one : ∀ i, i < len → ∃ p : Sh × List Value, (∃ b off, ad.add (i * 2) = ⟨b, off, none⟩ ∧ b < W.heap.size ∧ p.2.length = 2 ∧ ∀ j, j < 2 → W.cell? ⟨b, off + j, none⟩ = p.2[j]?) ∧ ShOk p.1 ∧ ro_shC W p.1 p.2 := by
      intro i hi
      have h1 := hx i hi
      rw [ro_sh_cells, List.getElem?_eq_getElem (by omega)] at h1
      obtain ⟨cs', h2, h3⟩ := Option.bind_eq_some_iff.1 h1
      obtain ⟨m, h4, h5⟩ := ro_sh_one h3
      obtain ⟨hlen, _, hc⟩ := World.cells?_some h2
      obtain ⟨b, off, path, he⟩ : ∃ b off path, ad.add (i * 2) = ⟨b, off, path⟩ := ⟨_, _, _, rfl⟩
      rw [he] at hc
      have c0 := hc 0 (by omega)
      have hl' := ro_shC_len h5
      rw [List.getElem?_eq_getElem (by omega)] at c0
      have hp : path = none := by simpa [Addr.add] using World.cell?_spot c0
      subst hp
      have hlt : b < W.heap.size := by
        rcases Nat.lt_or_ge b W.heap.size with h | h
        · exact h
        · simp [World.cell?, Addr.add, Array.getElem?_eq_none h] at c0
      refine ⟨(m, cs'), ⟨b, off, he, hlt, hl', fun j hj => ?_⟩, h4, h5⟩
      have := hc j (by omega)
      rw [wo_add] at this
      exact this
    have : Inhabited (Sh × List Value) := ⟨(⟨0, []⟩, [])⟩
    obtain ⟨f, hf⟩ := choose_lt one
    refine ⟨_, (List.range len).map fun i => (f i).1, hcs, ?_, ?_, ?_⟩
    · unfold maxLen at hcm
      simp; omega
    · intro m hm
      rw [List.mem_map] at hm
      obtain ⟨i, hi, rfl⟩ := hm
      exact (hf i (by simpa using hi)).2.1
    · rcases Nat.eq_zero_or_pos len with h0 | hpos
      · subst h0; exact .none _ _
      · obtain ⟨⟨b, off, e0, hlt, _⟩, _⟩ := hf 0 hpos
        have ea : ad = ⟨b, off, none⟩ := by simpa [Addr.add] using e0
        subst ea
        have hll : ((List.range len).map fun i => (f i).1).length = len := by simp
        have := Shs.some (w := W) b off cap ((List.range len).map fun i => (f i).1) (by omega) hlt (by
          intro i hi
          rw [hll] at hi
          obtain ⟨⟨b', off', e, _, hl', hc⟩, _, hC⟩ := hf i hi
          rw [wo_add] at e
          injection e with e1 e2 _
          subst e1 e2
          simp only [List.getElem_map, List.getElem_range]
          exact ro_shC_at hC hc)
        rwa [hll] at this
theorem ro_rw_one {fuel : Nat} {cs : List Value} {x : DataW H × List MemPlace} (h : DataW.trod enc Tryd.prog W base spare held fuel 31 cs = some x) :
    ∃ r : Rw, RwOk r ∧ ro_rwC W r cs := by
  obtain ⟨fs, hu, hf⟩ := ro_rw_struct
  obtain ⟨xs, n, rfl, ex, hl, hxl, hx⟩ := DataW.trod_struct hu h
  have F := wo_fields hf
  rw [ro_rw_cells] at hl
  obtain ⟨c0, c1, c2, c3, c4, c5, c6, rfl⟩ : ∃ c0 c1 c2 c3 c4 c5 c6, cs = [c0, c1, c2, c3, c4, c5, c6] := by
    match cs, hl with
    | [c0, c1, c2, c3, c4, c5, c6], _ => exact ⟨c0, c1, c2, c3, c4, c5, c6, rfl⟩
  have hsz : fs.size = 7 := by have := congrArg Array.size hf; simpa using this
  have get : ∀ i, i < 7 → ∃ y, xs[i]? = some y := fun i hi => ⟨xs[i]'(by omega), List.getElem?_eq_getElem (by omega)⟩
  have step : ∀ (i o : Nat) (t : TypeId) (y : DataW H × List MemPlace), ([(0, 5), (1, 3), (2, 5), (3, 5), (4, 29), (5, 3), (6, 28)] : List (Nat × TypeId))[i]? = some (o, t) → xs[i]? = some y → DataW.trod enc Tryd.prog W base spare held n t (([c0, c1, c2, c3, c4, c5, c6].drop o).take (Tryd.prog.cellsOf t)) = some y := by
    intro i o t y h1 h2
    obtain ⟨f, h3, rfl, rfl⟩ := F i o t h1
    rw [hx i f h3, h2]
  obtain ⟨y0, g0⟩ := get 0 (by omega)
  have h0 := step 0 _ _ _ rfl g0
  rw [wo_cellsU] at h0
  simp only [List.drop_zero, List.drop_succ_cons, List.take_succ_cons, List.take_zero] at h0
  obtain ⟨k0, e0, -, w0⟩ := DataW.trod_int Tryd.underlying5 h0
  simp only [List.cons.injEq, and_true] at e0
  subst e0
  obtain ⟨b0, rfl⟩ := ro_u8 w0
  obtain ⟨y1, g1⟩ := get 1 (by omega)
  have h1 := step 1 _ _ _ rfl g1
  rw [wo_cellsI] at h1
  simp only [List.drop_zero, List.drop_succ_cons, List.take_succ_cons, List.take_zero] at h1
  obtain ⟨k1, e1, -, w1⟩ := DataW.trod_int Tryd.underlying3 h1
  simp only [List.cons.injEq, and_true] at e1
  subst e1
  obtain ⟨y2, g2⟩ := get 2 (by omega)
  have h2 := step 2 _ _ _ rfl g2
  rw [wo_cellsU] at h2
  simp only [List.drop_zero, List.drop_succ_cons, List.take_succ_cons, List.take_zero] at h2
  obtain ⟨k2, e2, -, w2⟩ := DataW.trod_int Tryd.underlying5 h2
  simp only [List.cons.injEq, and_true] at e2
  subst e2
  obtain ⟨b2, rfl⟩ := ro_u8 w2
  obtain ⟨y3, g3⟩ := get 3 (by omega)
  have h3 := step 3 _ _ _ rfl g3
  rw [wo_cellsU] at h3
  simp only [List.drop_zero, List.drop_succ_cons, List.take_succ_cons, List.take_zero] at h3
  obtain ⟨k3, e3, -, w3⟩ := DataW.trod_int Tryd.underlying5 h3
  simp only [List.cons.injEq, and_true] at e3
  subst e3
  obtain ⟨b3, rfl⟩ := ro_u8 w3
  obtain ⟨y4, g4⟩ := get 4 (by omega)
  have h4 := step 4 _ _ _ rfl g4
  rw [ro_cellsFs] at h4
  simp only [List.drop_zero, List.drop_succ_cons, List.take_succ_cons, List.take_zero] at h4
  obtain ⟨v4, l4, e4, m4, n4, r4⟩ := ro_forms h4
  simp only [List.cons.injEq, and_true] at e4
  subst e4
  obtain ⟨y5, g5⟩ := get 5 (by omega)
  have h5 := step 5 _ _ _ rfl g5
  rw [wo_cellsI] at h5
  simp only [List.drop_zero, List.drop_succ_cons, List.take_succ_cons, List.take_zero] at h5
  obtain ⟨k5, e5, -, w5⟩ := DataW.trod_int Tryd.underlying3 h5
  simp only [List.cons.injEq, and_true] at e5
  subst e5
  obtain ⟨y6, g6⟩ := get 6 (by omega)
  have h6 := step 6 _ _ _ rfl g6
  rw [ro_cellsSs] at h6
  simp only [List.drop_zero, List.drop_succ_cons, List.take_succ_cons, List.take_zero] at h6
  obtain ⟨v6, l6, e6, m6, n6, r6⟩ := ro_shapes h6
  simp only [List.cons.injEq, and_true] at e6
  subst e6
  exact ⟨⟨b0, k1, b2, b3, l4, k5, l6⟩, ⟨m4, m6, n4, n6⟩, _, _, rfl, r4, r6⟩
theorem ro_rules {fuel : Nat} {cs : List Value} {x : DataW H × List MemPlace} (h : DataW.trod enc Tryd.prog W base spare held fuel 26 cs = some x) :
    ∃ (v : Value) (l : List Rw), cs = [v] ∧ l.length ≤ 9223372036854775807 ∧ (∀ m ∈ l, RwOk m) ∧ Rws W v l := by
  rcases DataW.trod_slice Tryd.underlying26 h with ⟨hcs, -⟩ | ⟨ad, len, cap, elems, rest, n, _, hcs, _, _, hlc, hcm, hel, hx, -⟩
  · exact ⟨_, [], hcs, by simp, by simp, .none _ _⟩
  · have one : ∀ i, i < len → ∃ p : Rw × List Value, (∃ b off, ad.add (i * 7) = ⟨b, off, none⟩ ∧ b < W.heap.size ∧ p.2.length = 7 ∧ ∀ j, j < 7 → W.cell? ⟨b, off + j, none⟩ = p.2[j]?) ∧ RwOk p.1 ∧ ro_rwC W p.1 p.2 := by
      intro i hi
      have h1 := hx i hi
      rw [ro_rw_cells, List.getElem?_eq_getElem (by omega)] at h1
      obtain ⟨cs', h2, h3⟩ := Option.bind_eq_some_iff.1 h1
      obtain ⟨m, h4, h5⟩ := ro_rw_one h3
      obtain ⟨hlen, _, hc⟩ := World.cells?_some h2
      obtain ⟨b, off, path, he⟩ : ∃ b off path, ad.add (i * 7) = ⟨b, off, path⟩ := ⟨_, _, _, rfl⟩
      rw [he] at hc
      have c0 := hc 0 (by omega)
      have hl' := ro_rwC_len h5
      rw [List.getElem?_eq_getElem (by omega)] at c0
      have hp : path = none := by simpa [Addr.add] using World.cell?_spot c0
      subst hp
      have hlt : b < W.heap.size := by
        rcases Nat.lt_or_ge b W.heap.size with h | h
        · exact h
        · simp [World.cell?, Addr.add, Array.getElem?_eq_none h] at c0
      refine ⟨(m, cs'), ⟨b, off, he, hlt, hl', fun j hj => ?_⟩, h4, h5⟩
      have := hc j (by omega)
      rw [wo_add] at this
      exact this
    have : Inhabited (Rw × List Value) := ⟨(⟨0, 0, 0, 0, [], 0, []⟩, [])⟩
    obtain ⟨f, hf⟩ := choose_lt one
    refine ⟨_, (List.range len).map fun i => (f i).1, hcs, ?_, ?_, ?_⟩
    · unfold maxLen at hcm
      simp; omega
    · intro m hm
      rw [List.mem_map] at hm
      obtain ⟨i, hi, rfl⟩ := hm
      exact (hf i (by simpa using hi)).2.1
    · rcases Nat.eq_zero_or_pos len with h0 | hpos
      · subst h0; exact .none _ _
      · obtain ⟨⟨b, off, e0, hlt, _⟩, _⟩ := hf 0 hpos
        have ea : ad = ⟨b, off, none⟩ := by simpa [Addr.add] using e0
        subst ea
        have hll : ((List.range len).map fun i => (f i).1).length = len := by simp
        have := Rws.some (w := W) b off cap ((List.range len).map fun i => (f i).1) (by omega) hlt (by
          intro i hi
          rw [hll] at hi
          obtain ⟨⟨b', off', e, _, hl', hc⟩, _, hC⟩ := hf i hi
          rw [wo_add] at e
          injection e with e1 e2 _
          subst e1 e2
          simp only [List.getElem_map, List.getElem_range]
          exact ro_rwC_at hC hc)
        rwa [hll] at this
/-- .. as an argument. -/
theorem rwsOpen {v : Value} {d : DataW H} {p : List MemPlace} {a0 : Option Addr} {len cap : Nat} (hv : v = .slice a0 len cap) (h : DataW.Trod enc Tryd.prog W base spare held 26 v d p) :
    ∃ l : List Rw, l.length ≤ 9223372036854775807 ∧ (∀ r ∈ l, RwOk r) ∧ Rws W v l := by
  obtain ⟨fuel, hf⟩ := h
  subst hv
  obtain ⟨v', l, e, h1, h2, h3⟩ := ro_rules (by simpa [Value.cells] using hf)
  simp at e
  subst e
  exact ⟨l, h1, h2, h3⟩
end
theorem readableR : Tryd.prog.readableRec 26 = true := by kernel_rfl
theorem smallR : 26 < Tryd.prog.types.size := of_decide_eq_true (by kernel_rfl)
end Go.Proofs.YtepoaobjcpgilaaDoor
namespace Go.Proofs.YtepoaobjcpgilaaDoor
open Go.ChangeShapes Go.WideShapes Go.ChangeAt Go.RowKit Go.Joins Go.Deep
open WM RM
set_option linter.unusedVariables false
set_option linter.unusedSimpArgs false
set_option maxRecDepth 100000
section
variable {H : Type} {enc : TypeId × Value → H} {W : World} {base : Nat} {spare : Nat → Bool} {held : Bool}
theorem intsOpen {v : Value} {d : DataW H} {p : List MemPlace} {a0 : Option Addr} {len cap : Nat} (hv : v = .slice a0 len cap) (h : DataW.Trod enc Tryd.prog W base spare held 23 v d p) :
    ∃ l : List Int, l.length ≤ 9223372036854775807 ∧ Ints W v l := by
  obtain ⟨fuel, hf⟩ := h
  subst hv
  obtain ⟨v', l, e, h1, h2, h3⟩ := wo_ints (by simpa [Value.cells] using hf)
  simp at e
  subst e
  exact ⟨l, h1, h2⟩
theorem formOpen {base' : Nat} {v : Value} {d : DataW H} {p : List MemPlace} (hv : Value.okWide Tryd.prog W .any base' 35 v) (h : DataW.Trod enc Tryd.prog W base spare held 35 v d p) :
    ∃ (f : Fm) (u : Value), v = .agg #[.int .i64 f.k, u] ∧ f.cs.length ≤ 9223372036854775807 ∧ Ints W u f.cs := by
  obtain ⟨fs, hu, _⟩ := ro_fm_struct
  obtain ⟨cs, rfl, hsz⟩ := okWide_struct hu hv
  obtain ⟨fuel, hf⟩ := h
  obtain ⟨f, h1, u, e, h2⟩ := ro_fm_one hf
  refine ⟨f, u, ?_, h1, h2⟩
  have e2 : cs.toList = [.int .i64 f.k, u] := by simpa [Value.cells] using e
  have : cs = #[.int .i64 f.k, u] := by apply Array.ext'; exact e2
  rw [this]
theorem modOpen {base' : Nat} {v : Value} {d : DataW H} {p : List MemPlace} (hv : Value.okWide Tryd.prog W .any base' 25 v) (h : DataW.Trod enc Tryd.prog W base spare held 25 v d p) :
    ∃ (m : Md) (u : Value), v = .agg #[.int .u8 m.c.toNat, u] ∧ m.a.length ≤ 9223372036854775807 ∧ Ints W u m.a ∧ NilOr u := by
  obtain ⟨fs, hu, _⟩ := wo_struct
  obtain ⟨cs, rfl, hsz⟩ := okWide_struct hu hv
  obtain ⟨fuel, hf⟩ := h
  obtain ⟨m, v1, e, m1, r1, n1⟩ := wo_mod hf
  refine ⟨m, v1, ?_, m1, r1, n1⟩
  have e2 : cs.toList = [.int .u8 m.c.toNat, v1] := by simpa [Value.cells] using e
  have : cs = #[.int .u8 m.c.toNat, v1] := by apply Array.ext'; exact e2
  rw [this]
theorem ruleOpen {base' : Nat} {v : Value} {d : DataW H} {p : List MemPlace} (hv : Value.okWide Tryd.prog W .any base' 31 v) (h : DataW.Trod enc Tryd.prog W base spare held 31 v d p) :
    ∃ (r : Rw) (g o : Value), v = .agg #[.int .u8 r.c.toNat, .int .i64 r.ar, .int .u8 r.l.toNat, .int .u8 r.r.toNat, g, .int .i64 r.wt, o] ∧ RwOk r ∧ Fms W g r.gs ∧ Shs W o r.out := by
  obtain ⟨fs, hu, _⟩ := ro_rw_struct
  obtain ⟨cs, rfl, hsz⟩ := okWide_struct hu hv
  obtain ⟨fuel, hf⟩ := h
  obtain ⟨r, h1, g, o, e, h2, h3⟩ := ro_rw_one hf
  refine ⟨r, g, o, ?_, h1, h2, h3⟩
  have e2 : cs.toList = [.int .u8 r.c.toNat, .int .i64 r.ar, .int .u8 r.l.toNat, .int .u8 r.r.toNat, g, .int .i64 r.wt, o] := by simpa [Value.cells] using e
  have : cs = #[.int .u8 r.c.toNat, .int .i64 r.ar, .int .u8 r.l.toNat, .int .u8 r.r.toNat, g, .int .i64 r.wt, o] := by apply Array.ext'; exact e2
  rw [this]
end
theorem readableI : Tryd.prog.readableRec 23 = true := by kernel_rfl
theorem smallI : 23 < Tryd.prog.types.size := of_decide_eq_true (by kernel_rfl)
theorem readableF : Tryd.prog.readableRec 35 = true := by kernel_rfl
theorem smallF : 35 < Tryd.prog.types.size := of_decide_eq_true (by kernel_rfl)
theorem readableD : Tryd.prog.readableRec 25 = true := by kernel_rfl
theorem smallD : 25 < Tryd.prog.types.size := of_decide_eq_true (by kernel_rfl)
theorem readableW : Tryd.prog.readableRec 31 = true := by kernel_rfl
theorem smallW : 31 < Tryd.prog.types.size := of_decide_eq_true (by kernel_rfl)
end Go.Proofs.YtepoaobjcpgilaaDoor
namespace Go.Proofs.YtepoaobjcpgilaaDoor
open Go.RowKit
open WM RM
set_option linter.unusedVariables false
set_option linter.unusedSimpArgs false

/-- A list of cells that are rules. -/
structure RowR (w : World) (xs : List Value) (l : List Rw) : Prop where
  len : xs.length = l.length * 7
  cel : ∀ i, (h : i < l.length) → xs[i * 7]? = some (.int .u8 l[i].c.toNat) ∧ xs[i * 7 + 1]? = some (.int .i64 l[i].ar) ∧ xs[i * 7 + 2]? = some (.int .u8 l[i].l.toNat) ∧ xs[i * 7 + 3]? = some (.int .u8 l[i].r.toNat) ∧
    xs[i * 7 + 5]? = some (.int .i64 l[i].wt) ∧ (∃ v, xs[i * 7 + 4]? = some v ∧ Fms w v l[i].gs) ∧ (∃ v, xs[i * 7 + 6]? = some v ∧ Shs w v l[i].out)
theorem RowR.later {w w1 : World} {xs : List Value} {l : List Rw} (h : RowR w xs l) (hb : Below w.heap.size w w1) : RowR w1 xs l :=
  ⟨h.len, fun i hi => by
    obtain ⟨h0, h1, h2, h3, h5, ⟨v, h4, f4⟩, ⟨u, h6, f6⟩⟩ := h.cel i hi
    exact ⟨h0, h1, h2, h3, h5, ⟨v, h4, f4.later hb⟩, ⟨u, h6, f6.later hb⟩⟩⟩
theorem RowR.nil (w : World) : RowR w [] [] := ⟨rfl, fun i h => by simp at h⟩
theorem RowR.one {w : World} {r : Rw} {g o : Value} (h1 : Fms w g r.gs) (h2 : Shs w o r.out) : RowR w [.int .u8 r.c.toNat, .int .i64 r.ar, .int .u8 r.l.toNat, .int .u8 r.r.toNat, g, .int .i64 r.wt, o] [r] :=
  ⟨rfl, fun i hi => by
    obtain rfl : i = 0 := by simpa using hi
    exact ⟨rfl, rfl, rfl, rfl, rfl, ⟨g, rfl, h1⟩, ⟨o, rfl, h2⟩⟩⟩
theorem RowR.app {w : World} {xs ys : List Value} {l m : List Rw} (h1 : RowR w xs l) (h2 : RowR w ys m) : RowR w (xs ++ ys) (l ++ m) := by
  refine ⟨by rw [List.length_append, List.length_append, h1.len, h2.len]; omega, fun i hi => ?_⟩
  have hl := h1.len
  rcases Nat.lt_or_ge i l.length with h | h
  · rw [List.getElem_append_left h]
    have e : ∀ c, c < 7 → (xs ++ ys)[i * 7 + c]? = xs[i * 7 + c]? := fun c hc => List.getElem?_append_left (by omega)
    have e0 := e 0 (by omega)
    rw [Nat.add_zero] at e0
    rw [e0, e 1 (by omega), e 2 (by omega), e 3 (by omega), e 4 (by omega), e 5 (by omega), e 6 (by omega)]
    exact h1.cel i h
  · rw [List.getElem_append_right h]
    have hi2 : i - l.length < m.length := by rw [List.length_append] at hi; omega
    have e : ∀ c, c < 7 → (xs ++ ys)[i * 7 + c]? = ys[(i - l.length) * 7 + c]? := fun c hc => by
      rw [List.getElem?_append_right (by omega)]
      congr 1; omega
    have e0 := e 0 (by omega)
    rw [Nat.add_zero, Nat.add_zero] at e0
    rw [e0, e 1 (by omega), e 2 (by omega), e 3 (by omega), e 4 (by omega), e 5 (by omega), e 6 (by omega)]
    exact h2.cel _ hi2
theorem RowR.ones {w : World} {xs : List Value} {l : List Rw} (h : RowR w xs l) : ∀ u ∈ xs, u.oneCell' = true := by
  intro u hu
  obtain ⟨j, hj, rfl⟩ := List.mem_iff_getElem.1 hu
  have hl := h.len
  obtain ⟨i, c, hc, rfl⟩ : ∃ i c, c < 7 ∧ j = i * 7 + c := ⟨j / 7, j % 7, by omega, by omega⟩
  obtain ⟨h0, h1, h2, h3, h5, ⟨v, h4, f4⟩, ⟨u, h6, f6⟩⟩ := h.cel i (by omega)
  have key : ∀ x, xs[i * 7 + c]? = some x → xs[i * 7 + c] = x := fun x hx => (List.getElem?_eq_some_iff.1 hx).2
  have : c = 0 ∨ c = 1 ∨ c = 2 ∨ c = 3 ∨ c = 4 ∨ c = 5 ∨ c = 6 := by omega
  rcases this with rfl | rfl | rfl | rfl | rfl | rfl | rfl
  · rw [key _ h0]; rfl
  · rw [key _ h1]; rfl
  · rw [key _ h2]; rfl
  · rw [key _ h3]; rfl
  · obtain ⟨p, n, rfl⟩ := f4.slice
    rw [key _ h4]; rfl
  · rw [key _ h5]; rfl
  · obtain ⟨p, n, rfl⟩ := f6.slice
    rw [key _ h6]; rfl
/-- The cells of a place on. -/
def cellsAt (w : World) (b off n : Nat) : List Value := (List.range n).map fun j => (w.cell? ⟨b, off + j, none⟩).getD undef
theorem cellsAt_get {w : World} {b off n j : Nat} (h : j < n) {x : Value} (hx : w.cell? ⟨b, off + j, none⟩ = some x) : (cellsAt w b off n)[j]? = some x := by
  simp [cellsAt, h, hx]
theorem rowR_of {w : World} {b off n cap : Nat} {l : List Rw} (h : Rws w (.slice (some ⟨b, off, none⟩) n cap) l) : RowR w (cellsAt w b off (l.length * 7)) l ∧ n = l.length := by
  obtain ⟨p, c, he⟩ := h.slice
  have hn : n = l.length := by simp only [Value.slice.injEq] at he; exact he.2.1
  refine ⟨⟨by simp [cellsAt], fun i hi => ?_⟩, hn⟩
  obtain ⟨b', off', cap', g, gc, o, oc, hp, lb, hat⟩ := h.at hi
  simp only [Value.slice.injEq, Option.some.injEq, Addr.mk.injEq] at hp
  obtain ⟨⟨rfl, rfl, _⟩, _, _⟩ := hp
  have k : ∀ c, c < 7 → ∀ x, w.cell? ⟨b, off + i * 7 + c, none⟩ = some x → (cellsAt w b off (l.length * 7))[i * 7 + c]? = some x := fun c hc x hx => cellsAt_get (by omega) (by rw [← Nat.add_assoc]; exact hx)
  exact ⟨k 0 (by omega) _ hat.c0, k 1 (by omega) _ hat.c1, k 2 (by omega) _ hat.c2, k 3 (by omega) _ hat.c3, k 5 (by omega) _ hat.c5, ⟨_, k 4 (by omega) _ hat.c4, hat.gs⟩, ⟨_, k 6 (by omega) _ hat.c6, hat.out⟩⟩
theorem cells_read {w : World} {b off n cap : Nat} {l : List Rw} (h : Rws w (.slice (some ⟨b, off, none⟩) n cap) l) {w1 : World} (hb : Below w.heap.size w w1) : ∀ j u, (cellsAt w b off (l.length * 7))[j]? = some u → w1.cell? ((⟨b, off, none⟩ : Addr).add j) = some u := by
  intro j u hj
  have hlt := (List.getElem?_eq_some_iff.1 hj).1
  simp only [cellsAt, List.length_map, List.length_range] at hlt
  obtain ⟨i, c, hc, rfl⟩ : ∃ i c, c < 7 ∧ j = i * 7 + c := ⟨j / 7, j % 7, by omega, by omega⟩
  obtain ⟨b', off', cap', g, gc, o, oc, hp, lb, hat⟩ := h.at (k := i) (by omega)
  simp only [Value.slice.injEq, Option.some.injEq, Addr.mk.injEq] at hp
  obtain ⟨⟨rfl, rfl, _⟩, _, _⟩ := hp
  have ea : (⟨b, off, none⟩ : Addr).add (i * 7 + c) = ⟨b, off + i * 7 + c, none⟩ := by
    unfold Addr.add
    split
    · rename_i h0
      have : i * 7 + c = 0 := by simpa using h0
      congr 1; omega
    · rw [← Nat.add_assoc]
  rw [ea]
  have key : ∀ x, w.cell? ⟨b, off + i * 7 + c, none⟩ = some x → w1.cell? ⟨b, off + i * 7 + c, none⟩ = some u := fun x hx => by
    have h2 := cellsAt_get (w := w) (b := b) (off := off) (n := l.length * 7) (j := i * 7 + c) (by omega) (x := x) (by rw [← Nat.add_assoc]; exact hx)
    rw [h2] at hj
    rw [← Option.some.inj hj]
    exact (hb.cell (p := ⟨b, off + i * 7 + c, none⟩) lb).trans hx
  have : c = 0 ∨ c = 1 ∨ c = 2 ∨ c = 3 ∨ c = 4 ∨ c = 5 ∨ c = 6 := by omega
  rcases this with rfl | rfl | rfl | rfl | rfl | rfl | rfl
  · exact key _ hat.c0
  · exact key _ hat.c1
  · exact key _ hat.c2
  · exact key _ hat.c3
  · exact key _ hat.c4
  · exact key _ hat.c5
  · exact key _ hat.c6
theorem rws_news {w : World} {ad : Addr} {n cap : Nat} {l : List Rw} (h : Rws w (.slice (some ad) n cap) l) : ∃ news, RowR w news l ∧ ∀ w1, Below w.heap.size w w1 → ∀ j u, news[j]? = some u → w1.cell? (ad.add j) = some u := by
  rcases Nat.eq_zero_or_pos l.length with h0 | h0
  · obtain rfl : l = [] := List.length_eq_zero_iff.1 h0
    exact ⟨[], RowR.nil w, fun w1 _ j u hj => by simp at hj⟩
  · obtain ⟨b', off', cap', g, gc, o, oc, hp, lb, hat⟩ := h.at (k := 0) h0
    simp only [Value.slice.injEq, Option.some.injEq] at hp
    obtain ⟨rfl, _, _⟩ := hp
    exact ⟨_, (rowR_of h).1, fun w1 hb => cells_read h hb⟩
theorem rws_row {w : World} {base : Nat} {v : Value} {xs : List Value} {l : List Rw} (ho : w.ownsRow base 31 7 v l.length xs) (h : RowR w xs l) : Rws w v l := by
  rcases Nat.eq_zero_or_pos l.length with h0 | h0
  · have e : l = [] := List.length_eq_zero_iff.1 h0
    subst e
    rcases ho.2 with ⟨hv, _⟩ | ⟨g, cap, cur, hv, _⟩
    · rw [hv]; exact .none _ _
    · rw [hv]; exact .none _ _
  · rcases ho.2 with ⟨_, h1⟩ | ⟨g, cap, cur, hv, hb, hg, hc1, hc2, hsz, htake⟩
    · omega
    · rw [hv]
      have hcell : ∀ j x, j < l.length * 7 → xs[j]? = some x → w.cell? ⟨g, 0 + j, none⟩ = some x := by
        intro j x hj hx
        rw [Nat.zero_add]
        rw [← htake, List.getElem?_take_of_lt hj, Array.getElem?_toList] at hx
        simp [World.cell?, hg, hx]
      refine .some g 0 cap l h0 (lt_of_block hg) fun i hi => ?_
      obtain ⟨h0, h1, h2, h3, h5, ⟨v4, h4, f4⟩, ⟨v6, h6, f6⟩⟩ := h.cel i hi
      exact ⟨hcell _ _ (by omega) h0, hcell _ _ (by omega) h1, hcell _ _ (by omega) h2, hcell _ _ (by omega) h3, hcell _ _ (by omega) h5, ⟨v4, hcell _ _ (by omega) h4, f4⟩, ⟨v6, hcell _ _ (by omega) h6, f6⟩⟩
theorem info_rw : (Tryd.prog.info? 31).map (fun i => (i.zero, i.size, i.bytes)) = some (some (.agg #[.int .u8 0, .int .i64 0, .int .u8 0, .int .u8 0, .slice none 0 0, .int .i64 0, .slice none 0 0]), 7, 80) := by kernel_rfl
/-! ### A rule that fits no module -/
theorem fit_no {r : Rw} {m : Md} (h : m.c ≠ r.c) : fitB r m = false := by
  unfold fitB
  have : (r.c == m.c) = false := by rw [beq_eq_false_iff_ne]; exact fun e => h e.symm
  rw [this]; rfl
theorem firstF_up : ∀ (l : List Rw) (m : Md) (i : Int), 0 ≤ i → firstF l m (i + 1) = if firstF l m i = -1 then -1 else firstF l m i + 1
  | [], m, i, h => by simp [firstF]
  | r :: l, m, i, h => by
    unfold firstF
    by_cases hf : fitB r m = true
    · rw [if_pos hf, if_pos hf, if_neg (by omega)]
    · rw [if_neg hf, if_neg hf]
      exact firstF_up l m (i + 1) (by omega)
theorem suc_ahead {r : Rw} {l : List Rw} {m : Md} (h : fitB r m = false) : succM (r :: l) m = succM l m := by
  have e : first (r :: l) m = if first l m = -1 then -1 else first l m + 1 := by
    unfold first
    rw [firstF, if_neg (by rw [h]; decide)]
    exact firstF_up l m 0 (by omega)
  rcases firstF_rng l m 0 with h0 | ⟨h0, h1⟩
  · have e1 : first l m = -1 := h0
    rw [e1, if_pos rfl] at e
    unfold succM
    rw [dif_neg (by omega), dif_neg (by omega)]
  · have e2 : 0 ≤ first l m := h0
    rw [if_neg (by omega)] at e
    unfold succM
    rw [dif_pos (by omega), dif_pos e2]
    have : (first (r :: l) m).toNat = (first l m).toNat + 1 := by omega
    rw [this, List.getElem?_cons_succ]
theorem step_ahead {r : Rw} {l : List Rw} : ∀ {u : List Md}, (∀ m ∈ u, fitB r m = false) → stepL (r :: l) u = stepL l u
  | [], _ => rfl
  | m :: u, h => by
    simp only [stepL]
    rw [suc_ahead (h m (by simp)), step_ahead (fun x hx => h x (by simp [hx]))]
theorem step_nil : ∀ u : List Md, stepL [] u = some u
  | [] => rfl
  | m :: u => by
    simp only [stepL, step_nil u]
    rfl
theorem rchk_tail {r : Rw} {l : List Rw} (h : rchk (r :: l) = 0) : rchk l = 0 ∧ rchk [r] = 0 := by
  obtain ⟨h1, h2⟩ := rchk_zero h
  obtain ⟨h3, h4⟩ := many_no h1
  have m1 : manyB l = false := by
    refine many_not (by simp at h3; omega) fun k hk => ?_
    have := h4 l[k] (by simp)
    omega
  have m2 : manyB [r] = false := by
    refine many_not (by simp) fun k hk => ?_
    have := h4 r (by simp)
    have hk0 : k = 0 := by simpa using hk
    subst hk0
    simp only [List.getElem_cons_zero]; omega
  exact ⟨rchk_ok m1 fun k hk => h2 _ (by simp), rchk_ok m2 fun k hk => by
    have hk0 : k = 0 := by simpa using hk
    subst hk0
    exact h2 r (by simp)⟩
theorem still_st {r : Rw} {l : List Rw} {u : List Md} (h : rchk (r :: l) = 0) (hu : chk u = 0) (hn : ∀ m ∈ u, m.c ≠ r.c) :
    stC (r :: l) u = stC l u ∧ stL (r :: l) u = stL l u ∧ stC [r] u = 0 ∧ stL [r] u = u := by
  obtain ⟨h1, h2⟩ := rchk_tail h
  have hf : ∀ m ∈ u, fitB r m = false := fun m hm => fit_no (hn m hm)
  obtain ⟨a1, a2⟩ := st_valid h hu
  obtain ⟨b1, b2⟩ := st_valid h1 hu
  rw [step_ahead hf] at a1 a2
  have e : stepL [r] u = some u := by rw [step_ahead hf, step_nil]
  have hl := (chk_zero.1 hu).1
  obtain ⟨c1, c2⟩ := st_ok h2 hu e (by omega)
  exact ⟨by rw [a1, b1], by rw [a2, b2], c1, c2⟩
theorem cnt_zero {u : List Md} {c : UInt8} (h : ¬ 0 < cntB u c) : ∀ m ∈ u, m.c ≠ c := by
  intro m hm e
  apply h
  unfold cntB
  rw [List.countP_pos_iff]
  exact ⟨m, hm, by simpa using e⟩
end Go.Proofs.YtepoaobjcpgilaaDoor
