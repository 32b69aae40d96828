/-
  Texts of the proof, merged: BRewRefS, BRewRefU, BRewStM, BConStM.
-/
import Derived.Test.YtlmofdmbcddddaaGreatDoorBContextBranchProofM6
import Derived.Deep.RegionHeld3
import Derived.Test.YtlmofdmbcddddaaGreatDoorBContextBranchProofM5
namespace Go.Proofs.YtlmofdmbcddddaaGreatDoor
open Go.RowKit
open WM RM
set_option linter.unusedVariables false
set_option linter.unusedSimpArgs false

theorem st_chain {X Y Z : World} (h : Below X.heap.size X Y) (h2 : Below Y.heap.size Y Z) : Below X.heap.size X Z := h.trans (h2.mono h.size)
theorem st_keep2 {W w' : World} {b c : Nat} (h1 : b < W.heap.size) (h2 : c < W.heap.size) (hb : Below W.heap.size W w') : (∀ o, w'.cell? ⟨b, o, none⟩ = W.cell? ⟨b, o, none⟩) ∧ (∀ o, w'.cell? ⟨c, o, none⟩ = W.cell? ⟨c, o, none⟩) :=
  ⟨fun o => hb.cell (p := ⟨b, o, none⟩) h1, fun o => hb.cell (p := ⟨c, o, none⟩) h2⟩
theorem own_sl {w : World} {base n size : Nat} {e : TypeId} {v : Value} {xs : List Value} (h : w.ownsRow base e size v n xs) : ∃ p c, v = .slice p n c := by
  rcases h.2 with ⟨h1, h2⟩ | ⟨g, cap, cur, h1, _⟩
  · exact ⟨none, 0, by rw [h1, h2]⟩
  · exact ⟨_, _, h1⟩
theorem mods_at1 {w : World} {b off len cap c2 : Nat} {l : List Md} (h : Mods w (.slice (some ⟨b, off, none⟩) len cap) l) {k : Nat} (hk : k < l.length) : Mods w (.slice (some ⟨b, off + k * 2, none⟩) 1 c2) [l[k]] := by
  cases h with
  | none _ _ => simp at hk
  | some _ _ _ _ hpos hb hx =>
    refine .some b (off + k * 2) c2 [l[k]] (by simp) hb fun i hi => ?_
    have : i = 0 := by simp at hi; omega
    subst this
    obtain ⟨h1, v, h2, h3, h4⟩ := hx k hk
    exact ⟨by simpa using h1, v, by simpa using h2, h3, h4⟩
theorem modFr_of_own {w : World} {base : Nat} {v : Value} {l : List Md} {vs : List Value} (h : ModOwn w base v l vs) : ModFr w base v l vs :=
  ⟨h.len, h.row, fun k hk hk2 => ⟨(h.args k hk hk2).own, .inr (h.args k hk hk2).apart⟩⟩
theorem stepL_snoc {l : List Rw} {w : List Md} {k : Nat} (hk : k < w.length) {d : List Md} (h : stepL l (w.take k) = some d) : stepL l (w.take (k + 1)) = (succM l w[k]).map (d ++ ·) := by
  rw [List.take_succ_eq_append_getElem hk, stepL_app, h, stepL_one]
  cases succM l w[k] <;> rfl
theorem stepL_stop {l : List Rw} {w : List Md} {k : Nat} (hk : k < w.length) {d : List Md} (h : stepL l (w.take k) = some d) (hn : succM l w[k] = none) : stepL l w = none := by
  have h1 : stepL l (w.take (k + 1)) = none := by rw [stepL_snoc hk h, hn]; rfl
  have e : w = w.take (k + 1) ++ w.drop (k + 1) := (List.take_append_drop _ _).symm
  rw [e, stepL_app, h1]
theorem succ_self {l : List Rw} {m : Md} (h : first l m < 0) : succM l m = some [m] := by unfold succM; rw [dif_neg (by omega)]
theorem succ_made {l : List Rw} {m : Md} {k : Nat} (h : first l m = (k : Int)) (hk : k < l.length) : succM l m = made l[k] m := by
  unfold succM
  rw [dif_pos (by omega)]
  have : (first l m).toNat = k := by omega
  rw [this, List.getElem?_eq_getElem hk]
theorem first_fit {l : List Rw} {m : Md} : ∀ {k : Nat}, first l m = (k : Int) → ∃ hk : k < l.length, fitB l[k] m = true := by
  have key : ∀ (l : List Rw) (i : Int) (k : Nat), firstF l m i = i + k → 0 ≤ i → ∃ hk : k < l.length, fitB l[k] m = true := by
    intro l
    induction l with
    | nil => intro i k h h0; simp [firstF] at h; omega
    | cons r l ih =>
      intro i k h h0
      unfold firstF at h
      by_cases hf : fitB r m = true
      · rw [if_pos hf] at h
        obtain rfl : k = 0 := by omega
        exact ⟨by simp, hf⟩
      · rw [if_neg hf] at h
        cases k with
        | zero =>
          exfalso
          rcases firstF_rng l m (i + 1) with h2 | ⟨h2, _⟩
          · omega
          · omega
        | succ k =>
          obtain ⟨hk, h3⟩ := ih (i + 1) k (by omega) (by omega)
          exact ⟨by simp; omega, by simpa using h3⟩
  intro k h
  exact key l 0 k (by unfold first at h; omega) (by omega)
theorem fit_ar {r : Rw} {m : Md} (h : fitB r m = true) : r.ar = (m.a.length : Int) := by
  unfold fitB at h
  simp only [Bool.and_eq_true, decide_eq_true_eq] at h
  exact h.1.2
theorem rule_forms {r : Rw} (h : ruleB r = true) : ∀ s ∈ r.out, ∀ f ∈ s.a, formB f r.ar = true := by
  unfold ruleB at h
  simp only [Bool.and_eq_true] at h
  intro s hs f hf
  have h1 := List.all_eq_true.1 h.1.2 s hs
  unfold shB at h1
  simp only [Bool.and_eq_true] at h1
  exact List.all_eq_true.1 h1.2 f hf
theorem chk_fine1 {l : List Md} (h : chk l = 0) {k : Nat} (hk : k < l.length) : fineB l[k] = true := List.all_eq_true.1 (chk_zero.1 h).2.1 _ (List.getElem_mem hk)
theorem st_rules {l : List Rw} {w : List Md} (h : rchk l ≠ 0) : stC l w = rchk l ∧ stL l w = [] := by
  have e : stC l w = rchk l := by unfold stC; rw [if_pos h]
  exact ⟨e, by unfold stL; rw [e, if_neg h]⟩
theorem st_word {l : List Rw} {w : List Md} (h : rchk l = 0) (h2 : chk w ≠ 0) : stC l w = chk w ∧ stL l w = [] := by
  have e : stC l w = chk w := by unfold stC; rw [if_neg (by simp [h]), if_pos h2]
  exact ⟨e, by unfold stL; rw [e, if_neg h2]⟩
theorem st_none {l : List Rw} {w : List Md} (h : rchk l = 0) (h2 : chk w = 0) (h3 : stepL l w = none) : stC l w = 16 ∧ stL l w = [] := by
  have e : stC l w = 16 := by unfold stC; rw [if_neg (by simp [h]), if_neg (by simp [h2]), h3]
  exact ⟨e, by unfold stL; rw [e]; rfl⟩
theorem st_many {l : List Rw} {w d : List Md} (h : rchk l = 0) (h2 : chk w = 0) (h3 : stepL l w = some d) (h4 : 2000 < d.length) : stC l w = 4 ∧ stL l w = [] := by
  have e : stC l w = 4 := by unfold stC; rw [if_neg (by simp [h]), if_neg (by simp [h2]), h3]; simp [h4]
  exact ⟨e, by unfold stL; rw [e]; rfl⟩
theorem st_ok {l : List Rw} {w d : List Md} (h : rchk l = 0) (h2 : chk w = 0) (h3 : stepL l w = some d) (h4 : ¬ 2000 < d.length) : stC l w = 0 ∧ stL l w = d := by
  have e : stC l w = 0 := by unfold stC; rw [if_neg (by simp [h]), if_neg (by simp [h2]), h3]; simp; omega
  exact ⟨e, by unfold stL; rw [e, h3]; rfl⟩
/-- How Step ends. -/
def RsEnd (l : List Rw) (wd : List Md) (w : World) (e : Ending) (w' : World) : Prop := ∃ v vs, e = .returned (.tuple #[v, .int .i64 (stC l wd)]) ∧ Below w.heap.size w w' ∧ ModFr w' w.heap.size v (stL l wd) vs
/-- Where the loop stands. -/
structure SAt (w : World) (l : List Rw) (wd : List Md) (k : Nat) (v : Value) (wr : World) : Prop where
  hi : k ≤ wd.length
  below : Below w.heap.size w wr
  own : ∃ d vs, stepL l (wd.take k) = some d ∧ d.length ≤ 20 * k ∧ ModFr wr w.heap.size v d vs
theorem sAt_start (w : World) (l : List Rw) (wd : List Md) : SAt w l wd 0 (.slice none 0 0) w := ⟨Nat.zero_le _, Below.refl _ _, [], [], rfl, by simp, modFr_nil _ _⟩
end Go.Proofs.YtlmofdmbcddddaaGreatDoor
namespace Go.Proofs.YtlmofdmbcddddaaGreatDoor
open Go.RowKit
open WM RM
set_option linter.unusedVariables false
set_option linter.unusedSimpArgs false

theorem succ_args {l : List Rw} (hs : ∀ r ∈ l, RwSm r) {m : Md} (hm : m.a.length ≤ 10) {d : List Md} (h : succM l m = some d) : ∀ x ∈ d, x.a.length ≤ 10 := by
  unfold succM at h
  split at h
  · split at h
    · rename_i r hr
      unfold made at h
      split at h
      · have := Option.some.inj h
        subst this
        intro x hx
        rw [List.mem_map] at hx
        obtain ⟨s, hs2, rfl⟩ := hx
        have := ((hs r (List.mem_of_getElem? hr)).2.2.2 s hs2).1
        simpa [mkM] using this
      · simp at h
    · simp at h
  · have := Option.some.inj h
    subst this
    intro x hx
    rw [List.mem_singleton] at hx
    subst hx; exact hm
theorem stepL_args {l : List Rw} (hs : ∀ r ∈ l, RwSm r) : ∀ (w : List Md) (d : List Md), (∀ m ∈ w, m.a.length ≤ 10) → stepL l w = some d → ∀ x ∈ d, x.a.length ≤ 10
  | [], d, _, h => by simp [stepL] at h; subst h; simp
  | m :: w, d, hw, h => by
    simp only [stepL] at h
    cases h1 : succM l m with
    | none => rw [h1] at h; simp at h
    | some a =>
      cases h2 : stepL l w with
      | none => rw [h1, h2] at h; simp at h
      | some b =>
        rw [h1, h2] at h
        have := Option.some.inj h
        subst this
        intro x hx
        rcases List.mem_append.1 hx with h3 | h3
        · exact succ_args hs (hw m (by simp)) h1 x h3
        · exact stepL_args hs w b (fun y hy => hw y (by simp [hy])) h2 x h3
theorem stL_small {l : List Rw} (hs : ∀ r ∈ l, RwSm r) {w : List Md} (hw : ∀ m ∈ w, m.a.length ≤ 10) : (stL l w).length ≤ 2000 ∧ ∀ m ∈ stL l w, m.a.length ≤ 10 := by
  unfold stL
  by_cases h : stC l w = 0
  · rw [if_pos h]
    cases hd : stepL l w with
    | none => simp
    | some d =>
      refine ⟨?_, stepL_args hs w d hw hd⟩
      unfold stC at h
      rw [hd] at h
      by_cases h1 : rchk l = 0
      · by_cases h2 : chk w = 0
        · simp only [h1, h2, ne_eq, not_true_eq_false, if_false] at h
          show d.length ≤ 2000
          split at h
          · omega
          · omega
        · rw [if_neg (by simp [h1]), if_pos h2] at h; exact absurd h h2
      · rw [if_pos h1] at h; exact absurd h h1
  · rw [if_neg h]; simp
theorem ru_rules {l : List Rw} {w : List Md} {n : Int} (h : rchk l ≠ 0) : ruC l w n = rchk l ∧ ruL l w n = [] := by
  have e : ruC l w n = rchk l := by unfold ruC; rw [if_pos h]
  exact ⟨e, by unfold ruL; rw [e, if_neg h]⟩
theorem ru_word {l : List Rw} {w : List Md} {n : Int} (h : rchk l = 0) (h2 : chk w ≠ 0) : ruC l w n = chk w ∧ ruL l w n = [] := by
  have e : ruC l w n = chk w := by unfold ruC; rw [if_neg (by simp [h]), if_pos h2]
  exact ⟨e, by unfold ruL; rw [e, if_neg h2]⟩
theorem ru_arg {l : List Rw} {w : List Md} {n : Int} (h : rchk l = 0) (h2 : chk w = 0) (h3 : n < 0 ∨ 30 < n) : ruC l w n = 2 ∧ ruL l w n = [] := by
  have e : ruC l w n = 2 := by unfold ruC; rw [if_neg (by simp [h]), if_neg (by simp [h2]), if_pos h3]
  exact ⟨e, by unfold ruL; rw [e]; rfl⟩
theorem ru_run {l : List Rw} {w : List Md} {n : Int} (h : rchk l = 0) (h2 : chk w = 0) (h3 : ¬ (n < 0 ∨ 30 < n)) {c : Int} {u : List Md} (hr : runF l n.toNat w = (c, u)) : ruC l w n = c ∧ ruL l w n = if c = 0 then u else [] := by
  have e : ruC l w n = c := by unfold ruC; rw [if_neg (by simp [h]), if_neg (by simp [h2]), if_neg h3, hr]
  exact ⟨e, by unfold ruL; rw [e, hr]⟩
theorem run_ok {l : List Rw} {u : List Md} {n : Nat} (h : stC l u = 0) : runF l (n + 1) u = runF l n (stL l u) := by rw [runF, if_neg (by simp [h])]
theorem run_no {l : List Rw} {u : List Md} {n : Nat} (h : stC l u ≠ 0) : runF l (n + 1) u = (stC l u, []) := by rw [runF, if_pos h]
theorem own_sl3 {w : World} {base n size : Nat} {e : TypeId} {v : Value} {xs : List Value} (h : w.ownsRow base e size v n xs) : ∃ p c, v = .slice p n c ∧ n ≤ c := by
  rcases h.2 with ⟨h1, h2⟩ | ⟨g, cap, cur, h1, _, _, h3, _⟩
  · exact ⟨none, 0, by rw [h1, h2], by omega⟩
  · exact ⟨_, _, h1, h3⟩
/-- How Run ends. -/
def RuEnd (l : List Rw) (wd : List Md) (n : Int) (w : World) (e : Ending) (w' : World) : Prop := ∃ v vs, e = .returned (.tuple #[v, .int .i64 (ruC l wd n)]) ∧ Below w.heap.size w w' ∧ ModFr w' w.heap.size v (ruL l wd n) vs
/-- Where the loop stands. -/
structure RnAt (w : World) (l : List Rw) (wd : List Md) (n i : Nat) (u : List Md) (v : Value) (wr : World) : Prop where
  hi : i ≤ n
  below : Below w.heap.size w wr
  own : ∃ vs, ModFr wr w.heap.size v u vs
  len : u.length ≤ 2100
  args : ∀ m ∈ u, m.a.length ≤ 10
  eq : runF l n wd = runF l (n - i) u
end Go.Proofs.YtlmofdmbcddddaaGreatDoor
namespace Go.Proofs.YtlmofdmbcddddaaGreatDoor
open WM
set_option linter.unusedVariables false
set_option linter.unusedSimpArgs false
namespace RM
theorem rule_nob {r : Rw} (h : ruleB r = true) : braB r.c = false := by
  unfold ruleB at h
  simp only [Bool.and_eq_true] at h
  simpa using h.1.1.1.1.1.2
theorem rule_chk {r : Rw} (h : ruleB r = true) : chk (r.out.map shM) = 0 := by
  unfold ruleB at h
  simp only [Bool.and_eq_true, decide_eq_true_eq] at h
  exact h.2
theorem rule_shs {r : Rw} (h : ruleB r = true) : ∀ s ∈ r.out, fineB (shM s) = true := by
  unfold ruleB at h
  simp only [Bool.and_eq_true] at h
  intro s hs
  have h1 := List.all_eq_true.1 h.1.2 s hs
  unfold shB at h1
  simp only [Bool.and_eq_true] at h1
  exact h1.1
theorem mk_c (x : List Int) (s : Sh) : (mkM s x).c = (shM s).c := rfl
theorem mk_fine {s : Sh} {x : List Int} (h : fineB (shM s) = true) (hb : mkB s x = true) : fineB (mkM s x) = true := by
  have e : shM s = zerM s.c s.a.length := rfl
  rw [e, fine_zer] at h
  simp only [Bool.and_eq_true, decide_eq_true_eq] at h
  obtain ⟨⟨h1, h2⟩, h3⟩ := h
  have hr : rngB (mkM s x).a = true := by
    unfold rngB mkM
    rw [List.all_map]
    unfold mkB at hb
    rw [List.all_eq_true] at hb ⊢
    intro f hf
    exact hb f hf
  have hl : (mkM s x).a.length = s.a.length := by simp [mkM]
  unfold fineB
  rw [hr, hl]
  have hc : (mkM s x).c = s.c := rfl
  rw [hc, h1]
  simp only [h2, decide_true, Bool.true_and, Bool.and_true]
  exact h3
/-- What holds of a module's successor. -/
structure SucOk (m : Md) (a : List Md) : Prop where
  fine : ∀ x ∈ a, fineB x = true
  dp : dep a = dlt m
  pre : ∀ j, j ≤ a.length → dep (a.take j) = dlt m ∨ 0 ≤ dep (a.take j)
theorem pre_ok {l : List Md} (h : okB l l.length = true) (j : Nat) (hj : j ≤ l.length) : 0 ≤ dep (l.take j) := by
  cases j with
  | zero => simp [dep_nil]
  | succ j => exact okB_iff.1 h j (by omega)
theorem dlt_nob {m : Md} (h : braB m.c = false) : dlt m = 0 := by
  unfold braB at h
  rw [Bool.or_eq_false_iff] at h
  have h1 : m.c ≠ 91 := by simpa using h.1
  have h2 : m.c ≠ 93 := by simpa using h.2
  unfold dlt; rw [if_neg h1, if_neg h2]
theorem first_fits {l : List Rw} {m : Md} : ∀ {k : Nat}, first l m = (k : Int) → ∃ hk : k < l.length, fitB l[k] m = true := by
  have key : ∀ (l : List Rw) (i : Int) (k : Nat), firstF l m i = i + k → 0 ≤ i → ∃ hk : k < l.length, fitB l[k] m = true := by
    intro l
    induction l with
    | nil => intro i k h h0; simp [firstF] at h; omega
    | cons r l ih =>
      intro i k h h0
      unfold firstF at h
      by_cases hf : fitB r m = true
      · rw [if_pos hf] at h
        obtain rfl : k = 0 := by omega
        exact ⟨by simp, hf⟩
      · rw [if_neg hf] at h
        cases k with
        | zero =>
          exfalso
          rcases firstF_rng l m (i + 1) with h2 | ⟨h2, _⟩
          · omega
          · omega
        | succ k =>
          obtain ⟨hk, h3⟩ := ih (i + 1) k (by omega) (by omega)
          exact ⟨by simp; omega, by simpa using h3⟩
  intro k h
  exact key l 0 k (by unfold first at h; omega) (by omega)
theorem suc_ok {l : List Rw} (hl : ∀ r ∈ l, ruleB r = true) {m : Md} (hm : fineB m = true) {a : List Md} (h : succM l m = some a) : SucOk m a := by
  by_cases hz : 0 ≤ first l m
  · obtain ⟨k, hk⟩ : ∃ k : Nat, first l m = (k : Int) := ⟨(first l m).toNat, by omega⟩
    obtain ⟨hkl, hfit⟩ := first_fits hk
    have hs : succM l m = made l[k] m := by
      unfold succM
      rw [dif_pos hz]
      have : (first l m).toNat = k := by omega
      rw [this, List.getElem?_eq_getElem hkl]
    rw [hs] at h
    have hr := hl _ (List.getElem_mem hkl)
    generalize l[k] = r at h hr hfit
    unfold made at h
    split at h
    · rename_i hall
      have ha := (Option.some.inj h).symm
      subst ha
      have hc : braB m.c = false := by
        have : r.c = m.c := by
          unfold fitB at hfit
          simp only [Bool.and_eq_true] at hfit
          simpa using hfit.1.1
        rw [← this]; exact rule_nob hr
      have hd := dlt_nob hc
      obtain ⟨-, -, h3, h4⟩ := chk_zero.1 (rule_chk hr)
      rw [List.length_map] at h3
      have e1 : dep (r.out.map (mkM · m.a)) = 0 := by rw [dep_map (mkM · m.a) shM (fun s => rfl)]; exact h4
      refine ⟨?_, by rw [e1, hd], fun j hj => .inr ?_⟩
      · intro x hx
        obtain ⟨s, hs2, rfl⟩ := List.mem_map.1 hx
        exact mk_fine (rule_shs hr s hs2) (List.all_eq_true.1 hall s hs2)
      · refine pre_ok ?_ j hj
        rw [List.length_map, ok_map (mkM · m.a) shM (fun s => rfl)]
        exact h3
    · simp at h
  · have hs : succM l m = some [m] := by unfold succM; rw [dif_neg hz]
    rw [hs] at h
    have ha := (Option.some.inj h).symm
    subst ha
    refine ⟨by simpa using hm, dep_one m, fun j hj => ?_⟩
    match j, hj with
    | 0, _ => right; simp [dep_nil]
    | 1, _ => left; exact dep_one m
theorem step_fine {l : List Rw} (hl : ∀ r ∈ l, ruleB r = true) : ∀ (u d : List Md), (∀ m ∈ u, fineB m = true) → stepL l u = some d → (∀ x ∈ d, fineB x = true) ∧ dep d = dep u ∧ ∀ c : Int, (∀ j, j ≤ u.length → 0 ≤ c + dep (u.take j)) → ∀ j, j ≤ d.length → 0 ≤ c + dep (d.take j)
  | [], d, _, h => by
    simp only [stepL, Option.some.injEq] at h
    subst h
    exact ⟨by simp, rfl, fun c hc j hj => by simp at hj; subst hj; simpa using hc 0 (by simp)⟩
  | m :: u, d, hu, h => by
    simp only [stepL] at h
    cases h1 : succM l m with
    | none => rw [h1] at h; simp at h
    | some a =>
      cases h2 : stepL l u with
      | none => rw [h1, h2] at h; simp at h
      | some b =>
        rw [h1, h2] at h
        have hd := (Option.some.inj h).symm
        subst hd
        have A := suc_ok hl (hu m (by simp)) h1
        obtain ⟨B1, B2, B3⟩ := step_fine hl u b (fun x hx => hu x (by simp [hx])) h2
        refine ⟨fun x hx => ?_, by rw [dep_app, A.dp, B2, dep_cons], fun c hc j hj => ?_⟩
        · rcases List.mem_append.1 hx with h3 | h3
          · exact A.fine x h3
          · exact B1 x h3
        · have c0 := hc 0 (by simp)
          have c1 := hc 1 (by simp)
          simp only [List.take_zero, dep_nil, List.take_succ_cons, dep_cons] at c0 c1
          by_cases hja : j ≤ a.length
          · rw [List.take_append_of_le_length hja]
            rcases A.pre j hja with e | e <;> omega
          · have e : (a ++ b).take j = a ++ b.take (j - a.length) := by
              rw [List.take_append, List.take_of_length_le (by omega)]
            rw [e, dep_app, A.dp]
            have := B3 (c + dlt m) (fun i hi => by
              have := hc (i + 1) (by simp; omega)
              rw [List.take_succ_cons, dep_cons] at this
              omega) (j - a.length) (by rw [List.length_append] at hj; omega)
            omega
theorem step_chk {l : List Rw} (hl : ∀ r ∈ l, ruleB r = true) {u d : List Md} (hu : chk u = 0) (h : stepL l u = some d) (hd : d.length ≤ 2000) : chk d = 0 := by
  obtain ⟨_, h2, h3, h4⟩ := chk_zero.1 hu
  obtain ⟨a1, a2, a3⟩ := step_fine hl u d (fun m hm => List.all_eq_true.1 h2 m hm) h
  refine chk_zero.2 ⟨hd, List.all_eq_true.2 a1, okB_iff.2 fun i hi => ?_, by rw [a2, h4]⟩
  have := a3 0 (fun j hj => by have := pre_ok h3 j hj; omega) (i + 1) (by omega)
  omega
/-- step's error and word are Step's, of valid rules and a valid word. -/
theorem st_valid {l : List Rw} (hl : rchk l = 0) {u : List Md} (hu : chk u = 0) : stC l u = (match stepL l u with | none => 16 | some d => if 2000 < d.length then 4 else 0) ∧ stL l u = (match stepL l u with | none => [] | some d => if 2000 < d.length then [] else d) := by
  cases hs : stepL l u with
  | none => exact st_none hl hu hs
  | some d =>
    by_cases h : 2000 < d.length
    · have := st_many hl hu hs h
      simpa [h] using this
    · have := st_ok hl hu hs h
      simpa [h] using this
theorem stL_chk {l : List Rw} (hl : rchk l = 0) {u : List Md} (hu : chk u = 0) : chk (stL l u) = 0 := by
  have hr := (rchk_zero hl).2
  rw [(st_valid hl hu).2]
  cases hs : stepL l u with
  | none => decide
  | some d =>
    show chk (if 2000 < d.length then [] else d) = 0
    split
    · decide
    · exact step_chk (fun r h => (hr r h).1) hu hs (by omega)
end RM
end Go.Proofs.YtlmofdmbcddddaaGreatDoor
namespace Go.Proofs.YtlmofdmbcddddaaGreatDoor
open WM RM
set_option linter.unusedVariables false
set_option linter.unusedSimpArgs false
namespace CM

def askB (r : Rw) : Bool := (r.l == 0 || plnB r.l) && (r.r == 0 || plnB r.r)
def wt0B (r : Rw) : Bool := decide (r.wt = 0)
/-- Is a rule valid here? -/
def cruB (r : Rw) : Bool := ruleB r && askB r && wt0B r
/-- Check. -/
def cchk (g : Bs) (l : List Rw) : Int := if manyB l = true then 4 else if (l.all cruB && ignB g) = true then 0 else 8
theorem cchk_zero {g : Bs} {l : List Rw} (h : cchk g l = 0) : manyB l = false ∧ (∀ r ∈ l, ruleB r = true ∧ askB r = true ∧ r.wt = 0) ∧ ignB g = true := by
  unfold cchk at h
  split at h
  · simp at h
  · split at h
    · rename_i h1 h2
      rw [Bool.and_eq_true, List.all_eq_true] at h2
      refine ⟨by simpa using h1, fun r hr => ?_, h2.2⟩
      have h3 := h2.1 r hr
      unfold cruB wt0B at h3
      simp only [Bool.and_eq_true, decide_eq_true_eq] at h3
      exact ⟨h3.1.1, h3.1.2, h3.2⟩
    · simp at h
theorem cchk_of {g : Bs} {l : List Rw} (h1 : manyB l = false) (h2 : ∀ r ∈ l, ruleB r = true ∧ askB r = true ∧ r.wt = 0) (h3 : ignB g = true) : cchk g l = 0 := by
  unfold cchk
  rw [if_neg (by rw [h1]; simp), if_pos]
  rw [h3, Bool.and_true, List.all_eq_true]
  intro r hr
  obtain ⟨a, b, c⟩ := h2 r hr
  unfold cruB wt0B
  rw [a, b, c]; rfl
/-- Left's and Right's error. -/
def askC (g : Bs) (u : List Md) (i : Int) : Int := if chk u ≠ 0 then chk u else if i < 0 ∨ (u.length : Int) ≤ i ∨ plnB (md u i.toNat).c = false then 2 else if ignB g = true then 0 else 8
def lefV (g : Bs) (u : List Md) (i : Int) : Int := if askC g u i = 0 then bef g u i.toNat else 0
def rigV (g : Bs) (u : List Md) (i : Int) : Int := if askC g u i = 0 then beh g u i.toNat else 0
/-- Is a neighbour as it is asked for? -/
def nbB (u : List Md) (k : Int) (c : UInt8) : Bool := c == 0 || (decide (0 ≤ k) && (md u k.toNat).c == c)
def cfitB (g : Bs) (u : List Md) (i : Nat) (r : Rw) : Bool := fitB r (md u i) && nbB u (bef g u i) r.l && nbB u (beh g u i) r.r
def fstF (q : Rw → Bool) : List Rw → Int → Int
  | [], _ => -1
  | r :: l, i => if q r = true then i else fstF q l (i + 1)
def cfirst (g : Bs) (l : List Rw) (u : List Md) (i : Nat) : Int := fstF (cfitB g u i) l 0
theorem fstF_rng (q : Rw → Bool) : ∀ (l : List Rw) (i : Int), fstF q l i = -1 ∨ (i ≤ fstF q l i ∧ fstF q l i < i + l.length)
  | [], _ => .inl rfl
  | r :: l, i => by
    unfold fstF
    split
    · right; simp; omega
    · rcases fstF_rng q l (i + 1) with h | h
      · exact .inl h
      · right; simp; omega
theorem fstF_drop {q : Rw → Bool} {l : List Rw} {k : Nat} (hk : k < l.length) : fstF q (l.drop k) (k : Int) = if q l[k] = true then (k : Int) else fstF q (l.drop (k + 1)) ((k + 1 : Nat) : Int) := by
  rw [List.drop_eq_getElem_cons hk, fstF]
  rfl
theorem fstF_end {q : Rw → Bool} {l : List Rw} {k : Nat} (hk : l.length ≤ k) : fstF q (l.drop k) (k : Int) = -1 := by
  rw [List.drop_of_length_le hk]; rfl
theorem fstF_fit {q : Rw → Bool} {l : List Rw} {k : Nat} (h : fstF q l 0 = (k : Int)) : ∃ hk : k < l.length, q l[k] = true := by
  have key : ∀ (l : List Rw) (i : Int) (k : Nat), fstF q l i = i + k → 0 ≤ i → ∃ hk : k < l.length, q l[k] = true := by
    intro l
    induction l with
    | nil => intro i k h h0; simp [fstF] at h; omega
    | cons r l ih =>
      intro i k h h0
      unfold fstF at h
      by_cases hf : q r = true
      · rw [if_pos hf] at h
        obtain rfl : k = 0 := by omega
        exact ⟨by simp, hf⟩
      · rw [if_neg hf] at h
        cases k with
        | zero =>
          exfalso
          rcases fstF_rng q l (i + 1) with h2 | ⟨h2, _⟩ <;> omega
        | succ k =>
          obtain ⟨hk, h3⟩ := ih (i + 1) k (by omega) (by omega)
          exact ⟨by simp; omega, by simpa using h3⟩
  exact key l 0 k (by omega) (by omega)
theorem fstF_none {q : Rw → Bool} : ∀ {l : List Rw} {i : Int}, (∀ r ∈ l, q r = false) → fstF q l i = -1
  | [], _, _ => rfl
  | r :: l, i, h => by
    rw [fstF, if_neg (by rw [h r (by simp)]; simp)]
    exact fstF_none fun x hx => h x (by simp [hx])
theorem cfit_fit {g : Bs} {u : List Md} {i : Nat} {r : Rw} (h : cfitB g u i r = true) : fitB r (md u i) = true := by
  unfold cfitB at h
  simp only [Bool.and_eq_true] at h
  exact h.1.1
theorem fit_name {r : Rw} {m : Md} (h : fitB r m = true) : r.c = m.c := by
  unfold fitB at h
  simp only [Bool.and_eq_true] at h
  simpa using h.1.1
theorem rule_pln {r : Rw} (h : ruleB r = true) : plnB r.c = true := by
  unfold ruleB at h
  simp only [Bool.and_eq_true] at h
  unfold plnB
  rw [h.1.1.1.1.1.1, h.1.1.1.1.1.2]; rfl
theorem cfirst_bra {g : Bs} {l : List Rw} {u : List Md} {i : Nat} (hl : ∀ r ∈ l, ruleB r = true) (h : plnB (md u i).c = false) : cfirst g l u i = -1 := by
  refine fstF_none fun r hr => ?_
  cases hf : cfitB g u i r
  · rfl
  · have h1 := fit_name (cfit_fit hf)
    have h2 := rule_pln (hl r hr)
    rw [h1, h] at h2; simp at h2
/-- Find's error and index. -/
def cfiC (g : Bs) (l : List Rw) (u : List Md) (i : Int) : Int := if cchk g l ≠ 0 then cchk g l else if chk u ≠ 0 then chk u else if i < 0 ∨ (u.length : Int) ≤ i then 2 else 0
def cfiV (g : Bs) (l : List Rw) (u : List Md) (i : Int) : Int := if cfiC g l u i = 0 then cfirst g l u i.toNat else 0
/-- What becomes of the module at a place. -/
def csuc (g : Bs) (l : List Rw) (u : List Md) (i : Nat) : Option (List Md) := if 0 ≤ cfirst g l u i then (match l[(cfirst g l u i).toNat]? with | some r => made r (md u i) | none => none) else some [md u i]
def cstp (g : Bs) (l : List Rw) (u : List Md) : Nat → Option (List Md)
  | 0 => some []
  | k + 1 => match cstp g l u k, csuc g l u k with
    | some a, some b => some (a ++ b)
    | _, _ => none
theorem csuc_self {g : Bs} {l : List Rw} {u : List Md} {i : Nat} (h : cfirst g l u i < 0) : csuc g l u i = some [md u i] := by unfold csuc; rw [if_neg (by omega)]
theorem csuc_made {g : Bs} {l : List Rw} {u : List Md} {i k : Nat} (h : cfirst g l u i = (k : Int)) (hk : k < l.length) : csuc g l u i = made l[k] (md u i) := by
  unfold csuc
  rw [h, if_pos (by omega), Int.toNat_natCast, List.getElem?_eq_getElem hk]
theorem cstp_succ {g : Bs} {l : List Rw} {u : List Md} {k : Nat} {a b : List Md} (h1 : cstp g l u k = some a) (h2 : csuc g l u k = some b) : cstp g l u (k + 1) = some (a ++ b) := by rw [cstp, h1, h2]
theorem cstp_none {g : Bs} {l : List Rw} {u : List Md} {k : Nat} (h2 : csuc g l u k = none) : ∀ d, cstp g l u (k + 1 + d) = none
  | 0 => by
    rw [Nat.add_zero, cstp, h2]
    cases cstp g l u k <;> rfl
  | d + 1 => by rw [← Nat.add_assoc, cstp, cstp_none h2 d]
theorem made_len {r : Rw} {m : Md} {d : List Md} (h : made r m = some d) : d.length = r.out.length := by
  unfold made at h
  split at h
  · have := (Option.some.inj h).symm
    subst this; simp
  · simp at h
/-- Step's error and word. -/
def csC (g : Bs) (l : List Rw) (u : List Md) : Int := if cchk g l ≠ 0 then cchk g l else if chk u ≠ 0 then chk u else match cstp g l u u.length with
  | none => 16
  | some v => if 2000 < v.length then 4 else 0
def csL (g : Bs) (l : List Rw) (u : List Md) : List Md := if csC g l u = 0 then (cstp g l u u.length).getD [] else []
/-- Run's error and word. -/
def cruF (g : Bs) (l : List Rw) : Nat → List Md → Int × List Md
  | 0, w => (0, w)
  | n + 1, w => if csC g l w ≠ 0 then (csC g l w, []) else cruF g l n (csL g l w)
def cruC (g : Bs) (l : List Rw) (w : List Md) (n : Int) : Int := if cchk g l ≠ 0 then cchk g l else if chk w ≠ 0 then chk w else if n < 0 ∨ 30 < n then 2 else (cruF g l n.toNat w).1
def cruL (g : Bs) (l : List Rw) (w : List Md) (n : Int) : List Md := if cruC g l w n = 0 then (cruF g l n.toNat w).2 else []
section
variable {g : Bs} {l : List Rw} {u : List Md}
theorem cs_rules (h : cchk g l ≠ 0) : csC g l u = cchk g l ∧ csL g l u = [] := by
  have e : csC g l u = cchk g l := by unfold csC; rw [if_pos h]
  exact ⟨e, by unfold csL; rw [e, if_neg h]⟩
theorem cs_word (h : cchk g l = 0) (h1 : chk u ≠ 0) : csC g l u = chk u ∧ csL g l u = [] := by
  have e : csC g l u = chk u := by unfold csC; rw [if_neg (by simp [h]), if_pos h1]
  exact ⟨e, by unfold csL; rw [e, if_neg h1]⟩
theorem cs_none (h : cchk g l = 0) (h1 : chk u = 0) (h2 : cstp g l u u.length = none) : csC g l u = 16 ∧ csL g l u = [] := by
  have e : csC g l u = 16 := by unfold csC; rw [if_neg (by simp [h]), if_neg (by simp [h1]), h2]
  exact ⟨e, by unfold csL; rw [e]; rfl⟩
theorem cs_many {d : List Md} (h : cchk g l = 0) (h1 : chk u = 0) (h2 : cstp g l u u.length = some d) (h3 : 2000 < d.length) : csC g l u = 4 ∧ csL g l u = [] := by
  have e : csC g l u = 4 := by unfold csC; rw [if_neg (by simp [h]), if_neg (by simp [h1]), h2]; simp [h3]
  exact ⟨e, by unfold csL; rw [e]; rfl⟩
theorem cs_ok {d : List Md} (h : cchk g l = 0) (h1 : chk u = 0) (h2 : cstp g l u u.length = some d) (h3 : ¬ 2000 < d.length) : csC g l u = 0 ∧ csL g l u = d := by
  have e : csC g l u = 0 := by unfold csC; rw [if_neg (by simp [h]), if_neg (by simp [h1]), h2]; simp; omega
  exact ⟨e, by unfold csL; rw [e, if_pos rfl, h2]; rfl⟩
theorem cruF_ok {n : Nat} (h : csC g l u = 0) : cruF g l (n + 1) u = cruF g l n (csL g l u) := by rw [cruF, if_neg (by simp [h])]
theorem cruF_no {n : Nat} (h : csC g l u ≠ 0) : cruF g l (n + 1) u = (csC g l u, []) := by rw [cruF, if_pos h]
theorem cru_rules {n : Int} (h : cchk g l ≠ 0) : cruC g l u n = cchk g l ∧ cruL g l u n = [] := by
  have e : cruC g l u n = cchk g l := by unfold cruC; rw [if_pos h]
  exact ⟨e, by unfold cruL; rw [e, if_neg h]⟩
theorem cru_word {n : Int} (h : cchk g l = 0) (h1 : chk u ≠ 0) : cruC g l u n = chk u ∧ cruL g l u n = [] := by
  have e : cruC g l u n = chk u := by unfold cruC; rw [if_neg (by simp [h]), if_pos h1]
  exact ⟨e, by unfold cruL; rw [e, if_neg h1]⟩
theorem cru_arg {n : Int} (h : cchk g l = 0) (h1 : chk u = 0) (h2 : n < 0 ∨ 30 < n) : cruC g l u n = 2 ∧ cruL g l u n = [] := by
  have e : cruC g l u n = 2 := by unfold cruC; rw [if_neg (by simp [h]), if_neg (by simp [h1]), if_pos h2]
  exact ⟨e, by unfold cruL; rw [e]; rfl⟩
theorem cru_run {n : Nat} (h : cchk g l = 0) (h1 : chk u = 0) (h2 : n ≤ 30) {c : Int} {d : List Md} (h3 : cruF g l n u = (c, d)) : cruC g l u (n : Int) = c ∧ cruL g l u (n : Int) = if c = 0 then d else [] := by
  have e : cruC g l u (n : Int) = c := by unfold cruC; rw [if_neg (by simp [h]), if_neg (by simp [h1]), if_neg (by omega), Int.toNat_natCast, h3]
  refine ⟨e, ?_⟩
  unfold cruL; rw [e, Int.toNat_natCast, h3]
/-- A step keeps a word valid. -/
theorem csuc_ok (hl : ∀ r ∈ l, ruleB r = true) {i : Nat} (hm : fineB (md u i) = true) {a : List Md} (h : csuc g l u i = some a) : SucOk (md u i) a := by
  by_cases hz : 0 ≤ cfirst g l u i
  · obtain ⟨k, hk⟩ : ∃ k : Nat, cfirst g l u i = (k : Int) := ⟨(cfirst g l u i).toNat, by omega⟩
    obtain ⟨hkl, hfit⟩ := fstF_fit hk
    rw [csuc_made hk hkl] at h
    have hr := hl _ (List.getElem_mem hkl)
    have hf := cfit_fit hfit
    refine suc_ok (l := [l[k]]) (by simpa using hr) hm ?_
    have e : first [l[k]] (md u i) = 0 := by unfold first firstF; rw [if_pos hf]
    unfold succM
    rw [dif_pos (by omega), e]
    exact h
  · rw [csuc_self (by omega)] at h
    refine suc_ok (l := []) (by simp) hm ?_
    unfold succM
    rw [dif_neg (by simp [first, firstF])]; exact h
theorem cstp_fine (hl : ∀ r ∈ l, ruleB r = true) (hu : ∀ m ∈ u, fineB m = true) : ∀ (k : Nat) (d : List Md), k ≤ u.length → cstp g l u k = some d → (∀ x ∈ d, fineB x = true) ∧ dep d = dep (u.take k) ∧ ((∀ j, j ≤ k → 0 ≤ dep (u.take j)) → ∀ j, j ≤ d.length → 0 ≤ dep (d.take j))
  | 0, d, _, h => by
    simp only [cstp, Option.some.injEq] at h
    subst h
    exact ⟨by simp, rfl, fun _ j hj => by simp at hj; subst hj; simp [dep_nil]⟩
  | k + 1, d, hk, h => by
    have hku : k < u.length := hk
    cases h1 : cstp g l u k with
    | none => rw [cstp, h1] at h; simp at h
    | some a =>
      cases h2 : csuc g l u k with
      | none => rw [cstp, h1, h2] at h; simp at h
      | some b =>
        rw [cstp_succ h1 h2] at h
        have hd := (Option.some.inj h).symm
        subst hd
        have A := csuc_ok (g := g) hl (by rw [md_get hku]; exact hu _ (List.getElem_mem hku)) h2
        obtain ⟨B1, B2, B3⟩ := cstp_fine hl hu k a (by omega) h1
        have hs := dep_snoc hku
        rw [← md_get hku] at hs
        refine ⟨fun x hx => ?_, by rw [dep_app, A.dp, B2, hs], fun hc j hj => ?_⟩
        · rcases List.mem_append.1 hx with h3 | h3
          · exact B1 x h3
          · exact A.fine x h3
        · have c0 := hc k (by omega)
          have c1 := hc (k + 1) (by omega)
          by_cases hja : j ≤ a.length
          · rw [List.take_append_of_le_length hja]
            exact B3 (fun i hi => hc i (by omega)) j hja
          · have e : (a ++ b).take j = a ++ b.take (j - a.length) := by
              rw [List.take_append, List.take_of_length_le (by omega)]
            rw [e, dep_app, B2]
            rcases A.pre (j - a.length) (by rw [List.length_append] at hj; omega) with e | e <;> omega
theorem csL_chk (hl : cchk g l = 0) (hu : chk u = 0) : chk (csL g l u) = 0 := by
  have hr := (cchk_zero hl).2.1
  cases hs : cstp g l u u.length with
  | none => rw [(cs_none hl hu hs).2]; decide
  | some d =>
    by_cases h : 2000 < d.length
    · rw [(cs_many hl hu hs h).2]; decide
    · rw [(cs_ok hl hu hs h).2]
      obtain ⟨_, h2, h3, h4⟩ := chk_zero.1 hu
      obtain ⟨a1, a2, a3⟩ := cstp_fine (g := g) (fun r hr2 => (hr r hr2).1) (fun m hm => List.all_eq_true.1 h2 m hm) u.length d (Nat.le_refl _) hs
      refine chk_zero.2 ⟨by omega, List.all_eq_true.2 a1, okB_iff.2 fun i hi => ?_, by rw [a2, List.take_length, h4]⟩
      exact a3 (fun j hj => pre_ok h3 j hj) (i + 1) (by omega)
/-! Rules that ask for no neighbour. -/
def bareR (r : Rw) : Rw := { r with l := 0, r := 0 }
theorem nb_zero (u : List Md) (k : Int) : nbB u k 0 = true := by unfold nbB; simp
theorem fst_plain {l : List Rw} (h : ∀ r ∈ l, r.l = 0 ∧ r.r = 0) {m : Md} {i : Nat} (hm : md u i = m) : ∀ j : Int, fstF (cfitB g u i) l j = firstF l m j := by
  induction l with
  | nil => intro j; rfl
  | cons r l ih =>
    intro j
    have h0 := h r (by simp)
    have e : cfitB g u i r = fitB r m := by unfold cfitB; rw [h0.1, h0.2, nb_zero, nb_zero, hm]; simp
    rw [fstF, firstF, e, ih fun x hx => h x (by simp [hx])]
theorem csuc_plain (h : ∀ r ∈ l, r.l = 0 ∧ r.r = 0) {i : Nat} : csuc g l u i = succM l (md u i) := by
  have e : cfirst g l u i = first l (md u i) := fst_plain h rfl 0
  unfold csuc succM
  rw [e]
  by_cases hz : 0 ≤ first l (md u i)
  · rw [if_pos hz, dif_pos hz]
    cases l[(first l (md u i)).toNat]? <;> rfl
  · rw [if_neg hz, dif_neg hz]
theorem cstp_plain (h : ∀ r ∈ l, r.l = 0 ∧ r.r = 0) : ∀ k, k ≤ u.length → cstp g l u k = stepL l (u.take k)
  | 0, _ => by simp [cstp, stepL]
  | k + 1, hk => by
    have hku : k < u.length := hk
    rw [cstp, cstp_plain h k (by omega), csuc_plain h, List.take_succ_eq_append_getElem hku, stepL_app, stepL_one, md_get hku]
    cases stepL l (u.take k) <;> cases succM l u[k] <;> rfl
theorem cs_plain (h : ∀ r ∈ l, r.l = 0 ∧ r.r = 0) (hc : cchk g l = 0) : rchk l = 0 ∧ csC g l u = stC l u ∧ csL g l u = stL l u := by
  have hz := cchk_zero hc
  have hr : rchk l = 0 := by
    unfold rchk
    rw [if_neg (by rw [hz.1]; simp), if_pos]
    rw [List.all_eq_true]
    intro r hr
    have := hz.2.1 r hr
    have h0 := h r hr
    unfold plainB
    rw [this.1, h0.1, h0.2, this.2.2]; rfl
  have e : csC g l u = stC l u := by
    unfold csC stC
    rw [hc, hr, cstp_plain h u.length (Nat.le_refl _), List.take_length]
    cases stepL l u <;> rfl
  refine ⟨hr, e, ?_⟩
  unfold csL stL
  rw [e, cstp_plain h u.length (Nat.le_refl _), List.take_length]
theorem many_bare (l : List Rw) : manyB (l.map bareR) = manyB l := by
  unfold manyB
  rw [List.length_map, List.any_map]
  rfl
theorem rule_bare (r : Rw) : ruleB (bareR r) = ruleB r := rfl
theorem fit_bare (r : Rw) (m : Md) : fitB (bareR r) m = fitB r m := rfl
theorem cchk_bare (h : cchk g l = 0) : cchk g (l.map bareR) = 0 := by
  have hz := cchk_zero h
  refine cchk_of (by rw [many_bare]; exact hz.1) (fun r hr => ?_) hz.2.2
  obtain ⟨x, hx, rfl⟩ := List.mem_map.1 hr
  have := hz.2.1 x hx
  exact ⟨this.1, rfl, this.2.2⟩
/-- What the package asks of the rules without their neighbours. -/
theorem rchk_bare (l : List Rw) : rchk (l.map bareR) = if manyB l = true then 4 else if l.all (fun r => ruleB r && wt0B r) = true then 0 else 8 := by
  unfold rchk
  rw [many_bare, List.all_map]
  have : (fun r => ruleB r && plainB r) ∘ bareR = (fun r => ruleB r && wt0B r) := by
    funext r
    show (ruleB (bareR r) && plainB (bareR r)) = _
    rw [rule_bare]
    unfold plainB bareR wt0B
    simp
  rw [this]
theorem cchk_eq (g : Bs) (l : List Rw) : cchk g l = if rchk (l.map bareR) ≠ 0 then rchk (l.map bareR) else if l.all askB = true then (if ignB g = true then 0 else 8) else 8 := by
  rw [rchk_bare]
  unfold cchk
  by_cases hm : manyB l = true
  · rw [if_pos hm, if_pos hm]; rfl
  · rw [if_neg hm, if_neg hm]
    have e : l.all cruB = (l.all (fun r => ruleB r && wt0B r) && l.all askB) := by
      rw [Bool.eq_iff_iff, Bool.and_eq_true, List.all_eq_true, List.all_eq_true, List.all_eq_true]
      unfold cruB
      simp only [Bool.and_eq_true]
      constructor
      · intro h; exact ⟨fun r hr => ⟨(h r hr).1.1, (h r hr).2⟩, fun r hr => (h r hr).1.2⟩
      · rintro ⟨h1, h2⟩ r hr; exact ⟨⟨(h1 r hr).1, h2 r hr⟩, (h1 r hr).2⟩
    rw [e]
    cases l.all (fun r => ruleB r && wt0B r) <;> cases l.all askB <;> cases ignB g <;> rfl
end
/-! A branch that is put in. -/
def insL (u b : List Md) (at' : Nat) : List Md := u.take at' ++ (⟨91, []⟩ :: b ++ ⟨93, []⟩ :: u.drop at')
def mvd (i : Int) (at' n : Nat) : Int := if (at' : Int) ≤ i then i + n else i
section
variable {g : Bs} {u b : List Md} {a : Nat}
theorem ins_len (ha : a ≤ u.length) : (insL u b a).length = u.length + (b.length + 2) := by
  unfold insL; simp; omega
theorem ins_lo (ha : a ≤ u.length) {k : Nat} (hk : k < a) : md (insL u b a) k = md u k := by
  unfold insL md
  simp only [List.getD_eq_getElem?_getD]
  rw [List.getElem?_append_left (by rw [List.length_take]; omega), List.getElem?_take_of_lt hk]
theorem ins_first (ha : a ≤ u.length) : md (insL u b a) a = ⟨91, []⟩ := by
  unfold insL md
  simp only [List.getD_eq_getElem?_getD]
  rw [List.getElem?_append_right (by rw [List.length_take]; omega)]
  have : a - (u.take a).length = 0 := by rw [List.length_take]; omega
  rw [this]; rfl
theorem ins_mid (ha : a ≤ u.length) {k : Nat} (hk : k < b.length) : md (insL u b a) (a + 1 + k) = md b k := by
  unfold insL md
  simp only [List.getD_eq_getElem?_getD]
  rw [List.getElem?_append_right (by rw [List.length_take]; omega)]
  have : a + 1 + k - (u.take a).length = k + 1 := by rw [List.length_take]; omega
  rw [this, List.cons_append, List.getElem?_cons_succ, List.getElem?_append_left hk]
theorem ins_last (ha : a ≤ u.length) : md (insL u b a) (a + 1 + b.length) = ⟨93, []⟩ := by
  unfold insL md
  simp only [List.getD_eq_getElem?_getD]
  rw [List.getElem?_append_right (by rw [List.length_take]; omega)]
  have : a + 1 + b.length - (u.take a).length = b.length + 1 := by rw [List.length_take]; omega
  rw [this, List.cons_append, List.getElem?_cons_succ, List.getElem?_append_right (by omega), Nat.sub_self]
  rfl
theorem ins_hi (ha : a ≤ u.length) {k : Nat} (hk : a ≤ k) : md (insL u b a) (k + (b.length + 2)) = md u k := by
  unfold insL md
  simp only [List.getD_eq_getElem?_getD]
  rw [List.getElem?_append_right (by rw [List.length_take]; omega)]
  have : k + (b.length + 2) - (u.take a).length = (k - a) + b.length + 1 + 1 := by rw [List.length_take]; omega
  rw [this, List.cons_append, List.getElem?_cons_succ, List.getElem?_append_right (by omega)]
  have : (k - a) + b.length + 1 - b.length = (k - a) + 1 := by omega
  rw [this, List.getElem?_cons_succ, List.getElem?_drop]
  congr 2; omega
/-- To the left, over the branch's inside. -/
theorem bf_in (ha : a ≤ u.length) (hb : okB b b.length = true) {c : Int} (hc : 0 < c) : ∀ j, j ≤ b.length → bfF g (insL u b a) (a + 1 + j) (c + dep (b.take j)) = bfF g (insL u b a) (a + 1) c
  | 0, _ => by simp [dep_nil]
  | j + 1, hj => by
    have hjb : j < b.length := hj
    have ih := bf_in ha hb hc j (by omega)
    have hs := dep_snoc hjb
    have p0 := pre_ok hb j (by omega)
    have p1 := pre_ok hb (j + 1) hj
    have em := ins_mid (u := u) ha hjb
    have e2 := md_get hjb
    rw [← ih, show a + 1 + (j + 1) = a + 1 + j + 1 by omega]
    by_cases c1 : (md b j).c = 91
    · have hd : dlt b[j] = 1 := by rw [← e2]; unfold dlt; rw [if_pos c1]
      rw [bf_open (by rw [em]; exact c1) (by omega)]
      congr 1; omega
    · by_cases c2 : (md b j).c = 93
      · have hd : dlt b[j] = -1 := by rw [← e2]; unfold dlt; rw [if_neg c1, if_pos c2]
        rw [bf_close (by rw [em]; exact c2)]
        congr 1; omega
      · have hd : dlt b[j] = 0 := by rw [← e2]; unfold dlt; rw [if_neg c1, if_neg c2]
        rw [bf_pass (by rw [em]; exact c2) (by rw [em]; exact c1) (.inl (by omega))]
        congr 1; omega
theorem bf_over (ha : a ≤ u.length) (hb : okB b b.length = true) (h0 : dep b = 0) {c : Int} (hc : 0 ≤ c) : bfF g (insL u b a) (a + (b.length + 2)) c = bfF g (insL u b a) a c := by
  rw [show a + (b.length + 2) = a + 1 + b.length + 1 by omega, bf_close (by rw [ins_last ha])]
  have h := bf_in (g := g) (u := u) ha hb (c := c + 1) (by omega) b.length (Nat.le_refl _)
  rw [List.take_length, h0] at h
  rw [Int.add_zero] at h
  rw [h, bf_open (by rw [ins_first ha]) (by omega)]
  congr 1; omega
theorem bf_lo (ha : a ≤ u.length) : ∀ k (c : Int), k ≤ a → bfF g (insL u b a) k c = bfF g u k c
  | 0, c, _ => rfl
  | k + 1, c, h => by
    rw [bfF, bfF, ins_lo ha (by omega), bf_lo ha k _ (by omega), bf_lo ha k _ (by omega), bf_lo ha k _ (by omega)]
theorem mvd_lo {i : Int} {n : Nat} (h : i < a) : mvd i a n = i := by unfold mvd; rw [if_neg (by omega)]
theorem mvd_hi {i : Int} {n : Nat} (h : (a : Int) ≤ i) : mvd i a n = i + n := by unfold mvd; rw [if_pos h]
theorem bf_lt (k : Nat) (c : Int) : bfF g u k c < k := by
  rcases bf_rng (g := g) (u := u) k c with h | ⟨x, h, hx, _⟩ <;> omega
theorem bf_hi (ha : a ≤ u.length) (hb : okB b b.length = true) (h0 : dep b = 0) : ∀ d (c : Int), 0 ≤ c → bfF g (insL u b a) (a + d + (b.length + 2)) c = mvd (bfF g u (a + d) c) a (b.length + 2)
  | 0, c, hc => by
    rw [Nat.add_zero, bf_over ha hb h0 hc, bf_lo ha a c (Nat.le_refl _), mvd_lo (bf_lt a c)]
  | d + 1, c, hc => by
    rw [show a + (d + 1) + (b.length + 2) = a + d + (b.length + 2) + 1 by omega, show a + (d + 1) = a + d + 1 by omega]
    have em := ins_hi (u := u) (b := b) ha (k := a + d) (by omega)
    rw [bfF, bfF, em]
    split
    · exact bf_hi ha hb h0 d _ (by omega)
    · split
      · split
        · exact bf_hi ha hb h0 d _ (by omega)
        · exact bf_hi ha hb h0 d _ hc
      · split
        · rw [mvd_hi (by omega)]; omega
        · exact bf_hi ha hb h0 d _ hc
theorem bef_ins (ha : a ≤ u.length) (hb : okB b b.length = true) (h0 : dep b = 0) (i : Nat) : bef g (insL u b a) (mvd i a (b.length + 2)).toNat = mvd (bef g u i) a (b.length + 2) := by
  unfold bef
  by_cases h : a ≤ i
  · rw [mvd_hi (by omega)]
    have := bf_hi (g := g) ha hb h0 (i - a) 0 (by omega)
    rw [show a + (i - a) = i by omega] at this
    rw [← this]; congr 1
  · rw [mvd_lo (by omega), Int.toNat_natCast, bf_lo ha i 0 (by omega), mvd_lo (by have := bf_lt (g := g) (u := u) i 0; omega)]
/-- To the right. -/
theorem bh_hi (ha : a ≤ u.length) : ∀ d k (o : Int), k + d = u.length → a ≤ k → bhd g (insL u b a) (k + (b.length + 2)) o = mvd (bhd g u k o) a (b.length + 2)
  | 0, k, o, hk, hak => by
    rw [bh_out (by rw [ins_len ha]; omega), bh_out (by omega), mvd_lo (by omega)]
  | d + 1, k, o, hk, hak => by
    have hku : k < u.length := by omega
    have hkl : k + (b.length + 2) < (insL u b a).length := by rw [ins_len ha]; omega
    have em := ins_hi (u := u) (b := b) ha hak
    have ih := fun o' => bh_hi ha d (k + 1) o' (by omega) (by omega)
    have e1 : k + (b.length + 2) + 1 = k + 1 + (b.length + 2) := by omega
    by_cases c1 : (md u k).c = 91
    · rw [bh_open hkl (by rw [em]; exact c1), bh_open hku c1, e1, ih]
    · by_cases c2 : (md u k).c = 93
      · by_cases c0 : o = 0
        · subst c0
          rw [bh_end hkl (by rw [em]; exact c2), bh_end hku c2, mvd_lo (by omega)]
        · rw [bh_close hkl (by rw [em]; exact c2) c0, bh_close hku c2 c0, e1, ih]
      · by_cases c3 : o = 0 ∧ hasB g (md u k).c = false
        · obtain ⟨rfl, c3⟩ := c3
          rw [bh_stop hkl (by rw [em]; exact c2) (by rw [em]; exact c1) (by rw [em]; exact c3), bh_stop hku c2 c1 c3, mvd_hi (by omega)]; omega
        · have c4 : o ≠ 0 ∨ hasB g (md u k).c = true := by
            by_cases c4 : o = 0
            · right
              cases hh : hasB g (md u k).c
              · exact absurd ⟨c4, hh⟩ c3
              · rfl
            · exact .inl c4
          rw [bh_pass hkl (by rw [em]; exact c2) (by rw [em]; exact c1) (by rw [em]; exact c4), bh_pass hku c2 c1 c4, e1, ih]
theorem bh_in (ha : a ≤ u.length) (hb : okB b b.length = true) {o : Int} (ho : 0 < o) : ∀ j, j ≤ b.length → bhd g (insL u b a) (a + 1) o = bhd g (insL u b a) (a + 1 + j) (o + dep (b.take j))
  | 0, _ => by simp [dep_nil]
  | j + 1, hj => by
    have hjb : j < b.length := hj
    have ih := bh_in ha hb ho j (by omega)
    have hs := dep_snoc hjb
    have p0 := pre_ok hb j (by omega)
    have em := ins_mid (u := u) ha hjb
    have e2 := md_get hjb
    have hkl : a + 1 + j < (insL u b a).length := by rw [ins_len ha]; omega
    rw [ih, show a + 1 + (j + 1) = a + 1 + j + 1 by omega]
    by_cases c1 : (md b j).c = 91
    · have hd : dlt b[j] = 1 := by rw [← e2]; unfold dlt; rw [if_pos c1]
      rw [bh_open hkl (by rw [em]; exact c1)]
      congr 1; omega
    · by_cases c2 : (md b j).c = 93
      · have hd : dlt b[j] = -1 := by rw [← e2]; unfold dlt; rw [if_neg c1, if_pos c2]
        rw [bh_close hkl (by rw [em]; exact c2) (by omega)]
        congr 1; omega
      · have hd : dlt b[j] = 0 := by rw [← e2]; unfold dlt; rw [if_neg c1, if_neg c2]
        rw [bh_pass hkl (by rw [em]; exact c2) (by rw [em]; exact c1) (.inl (by omega))]
        congr 1; omega
theorem bh_over (ha : a ≤ u.length) (hb : okB b b.length = true) (h0 : dep b = 0) {o : Int} (ho : 0 ≤ o) : bhd g (insL u b a) a o = bhd g (insL u b a) (a + (b.length + 2)) o := by
  rw [bh_open (by rw [ins_len ha]; omega) (by rw [ins_first ha])]
  have h := bh_in (g := g) (u := u) ha hb (o := o + 1) (by omega) b.length (Nat.le_refl _)
  rw [List.take_length, h0, Int.add_zero] at h
  rw [h, bh_close (by rw [ins_len ha]; omega) (by rw [ins_last ha]) (by omega)]
  congr 1 <;> omega
theorem bh_ge (k : Nat) (c : Int) (hk : k ≤ u.length) : bhd g u k c = -1 ∨ (k : Int) ≤ bhd g u k c := by
  rcases bh_rng (g := g) (u := u) (u.length - k) k c (by omega) with h | ⟨x, h, hx, _⟩ <;> omega
theorem bh_lo (ha : a ≤ u.length) (hb : okB b b.length = true) (h0 : dep b = 0) : ∀ d k (o : Int), k + d = a → 0 ≤ o → bhd g (insL u b a) k o = mvd (bhd g u k o) a (b.length + 2)
  | 0, k, o, hk, ho => by
    obtain rfl : k = a := by omega
    rw [bh_over ha hb h0 ho, bh_hi ha (u.length - k) k o (by omega) (Nat.le_refl _)]
  | d + 1, k, o, hk, ho => by
    have hku : k < u.length := by omega
    have hkl : k < (insL u b a).length := by rw [ins_len ha]; omega
    have em := ins_lo (u := u) (b := b) ha (show k < a by omega)
    have ih := fun o' ho' => bh_lo ha hb h0 d (k + 1) o' (by omega) ho'
    by_cases c1 : (md u k).c = 91
    · rw [bh_open hkl (by rw [em]; exact c1), bh_open hku c1, ih _ (by omega)]
    · by_cases c2 : (md u k).c = 93
      · by_cases c0 : o = 0
        · subst c0
          rw [bh_end hkl (by rw [em]; exact c2), bh_end hku c2, mvd_lo (by omega)]
        · rw [bh_close hkl (by rw [em]; exact c2) c0, bh_close hku c2 c0, ih _ (by omega)]
      · by_cases c3 : o = 0 ∧ hasB g (md u k).c = false
        · obtain ⟨rfl, c3⟩ := c3
          rw [bh_stop hkl (by rw [em]; exact c2) (by rw [em]; exact c1) (by rw [em]; exact c3), bh_stop hku c2 c1 c3, mvd_lo (by omega)]
        · have c4 : o ≠ 0 ∨ hasB g (md u k).c = true := by
            by_cases c4 : o = 0
            · right
              cases hh : hasB g (md u k).c
              · exact absurd ⟨c4, hh⟩ c3
              · rfl
            · exact .inl c4
          rw [bh_pass hkl (by rw [em]; exact c2) (by rw [em]; exact c1) (by rw [em]; exact c4), bh_pass hku c2 c1 c4, ih _ ho]
theorem beh_ins (ha : a ≤ u.length) (hb : okB b b.length = true) (h0 : dep b = 0) {i : Nat} (hi : i < u.length) : beh g (insL u b a) (mvd i a (b.length + 2)).toNat = mvd (beh g u i) a (b.length + 2) := by
  unfold beh
  by_cases h : a ≤ i
  · rw [mvd_hi (by omega)]
    rw [← bh_hi ha (u.length - (i + 1)) (i + 1) 0 (by omega) (by omega)]
    congr 1 <;> omega
  · rw [mvd_lo (by omega), Int.toNat_natCast]
    exact bh_lo ha hb h0 (a - (i + 1)) (i + 1) 0 (by omega) (Int.le_refl _)
theorem ins_chk (ha : a ≤ u.length) (hu : chk u = 0) (hb : chk b = 0) (hl : u.length + (b.length + 2) ≤ 2000) : chk (insL u b a) = 0 := by
  obtain ⟨u1, u2, u3, u4⟩ := chk_zero.1 hu
  obtain ⟨b1, b2, b3, b4⟩ := chk_zero.1 hb
  have hd : dep (u.take a) + dep (u.drop a) = dep u := by rw [← dep_app, List.take_append_drop]
  refine chk_zero.2 ⟨by rw [ins_len ha]; omega, ?_, okB_iff.2 fun i hi => ?_, ?_⟩
  · rw [List.all_eq_true] at *
    intro x hx
    unfold insL at hx
    simp only [List.mem_append, List.mem_cons] at hx
    rcases hx with h | (rfl | h) | rfl | h
    · exact u2 x (List.mem_of_mem_take h)
    · decide
    · exact b2 x h
    · decide
    · exact u2 x (List.mem_of_mem_drop h)
  · have hi2 : i + 1 ≤ u.length + (b.length + 2) := by rw [ins_len ha] at hi; omega
    have key : ∀ j, j ≤ (insL u b a).length → 0 ≤ dep ((insL u b a).take j) := by
      intro j hj
      rw [ins_len ha] at hj
      unfold insL
      rcases Nat.lt_or_ge j (a + 1) with h | h
      · rw [List.take_append_of_le_length (by rw [List.length_take]; omega), List.take_take, Nat.min_eq_left (by omega)]
        exact pre_ok u3 j (by omega)
      · have la : (u.take a).length = a := by rw [List.length_take]; omega
        rw [List.take_append, List.take_of_length_le (l := u.take a) (i := j) (by omega), la, dep_app]
        have p := pre_ok u3 a ha
        obtain ⟨t, rfl⟩ : ∃ t, j = a + 1 + t := ⟨j - (a + 1), by omega⟩
        rw [show a + 1 + t - a = t + 1 by omega, List.cons_append, List.take_succ_cons, dep_cons]
        have d1 : dlt ⟨91, []⟩ = 1 := rfl
        rcases Nat.lt_or_ge t (b.length + 1) with h2 | h2
        · rw [List.take_append_of_le_length (by omega)]
          have := pre_ok b3 t (by omega)
          omega
        · rw [List.take_append, List.take_of_length_le (l := b) (i := t) (by omega), dep_app, b4]
          obtain ⟨s, rfl⟩ : ∃ s, t = b.length + 1 + s := ⟨t - (b.length + 1), by omega⟩
          rw [show b.length + 1 + s - b.length = s + 1 by omega, List.take_succ_cons, dep_cons]
          have d2 : dlt ⟨93, []⟩ = -1 := rfl
          have e : dep (u.take a) + dep ((u.drop a).take s) = dep (u.take (a + s)) := by
            rw [← dep_app, List.take_add]
          have := pre_ok u3 (a + s) (by omega)
          omega
    exact key (i + 1) (by omega)
  · unfold insL
    rw [dep_app, List.cons_append, dep_cons, dep_app, dep_cons, b4]
    have d1 : dlt ⟨91, []⟩ = 1 := rfl
    have d2 : dlt ⟨93, []⟩ = -1 := rfl
    omega
end
end CM
end Go.Proofs.YtlmofdmbcddddaaGreatDoor
