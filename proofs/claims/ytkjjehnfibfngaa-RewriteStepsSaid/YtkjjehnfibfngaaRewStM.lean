/-
  A step keeps a word valid. No program in sight.
-/
import Derived.Test.YtkjjehnfibfngaaRewPrM
import Derived.Test.YtkjjehnfibfngaaRewRefU
namespace Go.Proofs.Ytkjjehnfibfngaa
open WM
set_option linter.unusedVariables false
set_option linter.unusedSimpArgs false
namespace RM
theorem rule_nob {r : Rw} (h : ruleB r = true) : braB r.c = false := by
  unfold ruleB at h
  simp only [Bool.and_eq_true] at h
  simpa using h.1.1.1.1.1.2
theorem rule_chk {r : Rw} (h : ruleB r = true) : chk (r.out.map shM) = 0 := by
  unfold ruleB at h
  simp only [Bool.and_eq_true, decide_eq_true_eq] at h
  exact h.2
theorem rule_shs {r : Rw} (h : ruleB r = true) : ∀ s ∈ r.out, fineB (shM s) = true := by
  unfold ruleB at h
  simp only [Bool.and_eq_true] at h
  intro s hs
  have h1 := List.all_eq_true.1 h.1.2 s hs
  unfold shB at h1
  simp only [Bool.and_eq_true] at h1
  exact h1.1
theorem mk_c (x : List Int) (s : Sh) : (mkM s x).c = (shM s).c := rfl
theorem mk_fine {s : Sh} {x : List Int} (h : fineB (shM s) = true) (hb : mkB s x = true) : fineB (mkM s x) = true := by
  have e : shM s = zerM s.c s.a.length := rfl
  rw [e, fine_zer] at h
  simp only [Bool.and_eq_true, decide_eq_true_eq] at h
  obtain ⟨⟨h1, h2⟩, h3⟩ := h
  have hr : rngB (mkM s x).a = true := by
    unfold rngB mkM
    rw [List.all_map]
    unfold mkB at hb
    rw [List.all_eq_true] at hb ⊢
    intro f hf
    exact hb f hf
  have hl : (mkM s x).a.length = s.a.length := by simp [mkM]
  unfold fineB
  rw [hr, hl]
  have hc : (mkM s x).c = s.c := rfl
  rw [hc, h1]
  simp only [h2, decide_true, Bool.true_and, Bool.and_true]
  exact h3
/-- What holds of a module's successor. -/
structure SucOk (m : Md) (a : List Md) : Prop where
  fine : ∀ x ∈ a, fineB x = true
  dp : dep a = dlt m
  pre : ∀ j, j ≤ a.length → dep (a.take j) = dlt m ∨ 0 ≤ dep (a.take j)
theorem pre_ok {l : List Md} (h : okB l l.length = true) (j : Nat) (hj : j ≤ l.length) : 0 ≤ dep (l.take j) := by
  cases j with
  | zero => simp [dep_nil]
  | succ j => exact okB_iff.1 h j (by omega)
theorem dlt_nob {m : Md} (h : braB m.c = false) : dlt m = 0 := by
  unfold braB at h
  rw [Bool.or_eq_false_iff] at h
  have h1 : m.c ≠ 91 := by simpa using h.1
  have h2 : m.c ≠ 93 := by simpa using h.2
  unfold dlt; rw [if_neg h1, if_neg h2]
theorem first_fits {l : List Rw} {m : Md} : ∀ {k : Nat}, first l m = (k : Int) → ∃ hk : k < l.length, fitB l[k] m = true := by
  have key : ∀ (l : List Rw) (i : Int) (k : Nat), firstF l m i = i + k → 0 ≤ i → ∃ hk : k < l.length, fitB l[k] m = true := by
    intro l
    induction l with
    | nil => intro i k h h0; simp [firstF] at h; omega
    | cons r l ih =>
      intro i k h h0
      unfold firstF at h
      by_cases hf : fitB r m = true
      · rw [if_pos hf] at h
        obtain rfl : k = 0 := by omega
        exact ⟨by simp, hf⟩
      · rw [if_neg hf] at h
        cases k with
        | zero =>
          exfalso
          rcases firstF_rng l m (i + 1) with h2 | ⟨h2, _⟩
          · omega
          · omega
        | succ k =>
          obtain ⟨hk, h3⟩ := ih (i + 1) k (by omega) (by omega)
          exact ⟨by simp; omega, by simpa using h3⟩
  intro k h
  exact key l 0 k (by unfold first at h; omega) (by omega)
theorem suc_ok {l : List Rw} (hl : ∀ r ∈ l, ruleB r = true) {m : Md} (hm : fineB m = true) {a : List Md} (h : succM l m = some a) : SucOk m a := by
  by_cases hz : 0 ≤ first l m
  · obtain ⟨k, hk⟩ : ∃ k : Nat, first l m = (k : Int) := ⟨(first l m).toNat, by omega⟩
    obtain ⟨hkl, hfit⟩ := first_fits hk
    have hs : succM l m = made l[k] m := by
      unfold succM
      rw [dif_pos hz]
      have : (first l m).toNat = k := by omega
      rw [this, List.getElem?_eq_getElem hkl]
    rw [hs] at h
    have hr := hl _ (List.getElem_mem hkl)
    generalize l[k] = r at h hr hfit
    unfold made at h
    split at h
    · rename_i hall
      have ha := (Option.some.inj h).symm
      subst ha
      have hc : braB m.c = false := by
        have : r.c = m.c := by
          unfold fitB at hfit
          simp only [Bool.and_eq_true] at hfit
          simpa using hfit.1.1
        rw [← this]; exact rule_nob hr
      have hd := dlt_nob hc
      obtain ⟨-, -, h3, h4⟩ := chk_zero.1 (rule_chk hr)
      rw [List.length_map] at h3
      have e1 : dep (r.out.map (mkM · m.a)) = 0 := by rw [dep_map (mkM · m.a) shM (fun s => rfl)]; exact h4
      refine ⟨?_, by rw [e1, hd], fun j hj => .inr ?_⟩
      · intro x hx
        obtain ⟨s, hs2, rfl⟩ := List.mem_map.1 hx
        exact mk_fine (rule_shs hr s hs2) (List.all_eq_true.1 hall s hs2)
      · refine pre_ok ?_ j hj
        rw [List.length_map, ok_map (mkM · m.a) shM (fun s => rfl)]
        exact h3
    · simp at h
  · have hs : succM l m = some [m] := by unfold succM; rw [dif_neg hz]
    rw [hs] at h
    have ha := (Option.some.inj h).symm
    subst ha
    refine ⟨by simpa using hm, dep_one m, fun j hj => ?_⟩
    match j, hj with
    | 0, _ => right; simp [dep_nil]
    | 1, _ => left; exact dep_one m
theorem step_fine {l : List Rw} (hl : ∀ r ∈ l, ruleB r = true) : ∀ (u d : List Md), (∀ m ∈ u, fineB m = true) → stepL l u = some d → (∀ x ∈ d, fineB x = true) ∧ dep d = dep u ∧ ∀ c : Int, (∀ j, j ≤ u.length → 0 ≤ c + dep (u.take j)) → ∀ j, j ≤ d.length → 0 ≤ c + dep (d.take j)
  | [], d, _, h => by
    simp only [stepL, Option.some.injEq] at h
    subst h
    exact ⟨by simp, rfl, fun c hc j hj => by simp at hj; subst hj; simpa using hc 0 (by simp)⟩
  | m :: u, d, hu, h => by
    simp only [stepL] at h
    cases h1 : succM l m with
    | none => rw [h1] at h; simp at h
    | some a =>
      cases h2 : stepL l u with
      | none => rw [h1, h2] at h; simp at h
      | some b =>
        rw [h1, h2] at h
        have hd := (Option.some.inj h).symm
        subst hd
        have A := suc_ok hl (hu m (by simp)) h1
        obtain ⟨B1, B2, B3⟩ := step_fine hl u b (fun x hx => hu x (by simp [hx])) h2
        refine ⟨fun x hx => ?_, by rw [dep_app, A.dp, B2, dep_cons], fun c hc j hj => ?_⟩
        · rcases List.mem_append.1 hx with h3 | h3
          · exact A.fine x h3
          · exact B1 x h3
        · have c0 := hc 0 (by simp)
          have c1 := hc 1 (by simp)
          simp only [List.take_zero, dep_nil, List.take_succ_cons, dep_cons] at c0 c1
          by_cases hja : j ≤ a.length
          · rw [List.take_append_of_le_length hja]
            rcases A.pre j hja with e | e <;> omega
          · have e : (a ++ b).take j = a ++ b.take (j - a.length) := by
              rw [List.take_append, List.take_of_length_le (by omega)]
            rw [e, dep_app, A.dp]
            have := B3 (c + dlt m) (fun i hi => by
              have := hc (i + 1) (by simp; omega)
              rw [List.take_succ_cons, dep_cons] at this
              omega) (j - a.length) (by rw [List.length_append] at hj; omega)
            omega
theorem step_chk {l : List Rw} (hl : ∀ r ∈ l, ruleB r = true) {u d : List Md} (hu : chk u = 0) (h : stepL l u = some d) (hd : d.length ≤ 2000) : chk d = 0 := by
  obtain ⟨_, h2, h3, h4⟩ := chk_zero.1 hu
  obtain ⟨a1, a2, a3⟩ := step_fine hl u d (fun m hm => List.all_eq_true.1 h2 m hm) h
  refine chk_zero.2 ⟨hd, List.all_eq_true.2 a1, okB_iff.2 fun i hi => ?_, by rw [a2, h4]⟩
  have := a3 0 (fun j hj => by have := pre_ok h3 j hj; omega) (i + 1) (by omega)
  omega
/-- step's error and word are Step's, of valid rules and a valid word. -/
theorem st_valid {l : List Rw} (hl : rchk l = 0) {u : List Md} (hu : chk u = 0) : stC l u = (match stepL l u with | none => 16 | some d => if 2000 < d.length then 4 else 0) ∧ stL l u = (match stepL l u with | none => [] | some d => if 2000 < d.length then [] else d) := by
  cases hs : stepL l u with
  | none => exact st_none hl hu hs
  | some d =>
    by_cases h : 2000 < d.length
    · have := st_many hl hu hs h
      simpa [h] using this
    · have := st_ok hl hu hs h
      simpa [h] using this
theorem stL_chk {l : List Rw} (hl : rchk l = 0) {u : List Md} (hu : chk u = 0) : chk (stL l u) = 0 := by
  have hr := (rchk_zero hl).2
  rw [(st_valid hl hu).2]
  cases hs : stepL l u with
  | none => decide
  | some d =>
    show chk (if 2000 < d.length then [] else d) = 0
    split
    · decide
    · exact step_chk (fun r h => (hr r h).1) hu hs (by omega)
end RM
end Go.Proofs.Ytkjjehnfibfngaa
