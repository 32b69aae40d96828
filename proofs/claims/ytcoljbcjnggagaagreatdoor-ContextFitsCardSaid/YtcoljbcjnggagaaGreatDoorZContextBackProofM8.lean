/-
  Texts of the proof, merged: ZConStM, ZConRefA, ZRewPrA.
-/
import Derived.Test.YtcoljbcjnggagaaGreatDoorZContextBackProofM6
import Derived.Test.YtcoljbcjnggagaaGreatDoorZContextBackProofM7
import Derived.Test.YtcoljbcjnggagaaGreatDoorZContextBackProofM2
namespace Go.Proofs.YtcoljbcjnggagaaGreatDoor
open WM RM
set_option linter.unusedVariables false
set_option linter.unusedSimpArgs false
namespace CM

def askB (r : Rw) : Bool := (r.l == 0 || plnB r.l) && (r.r == 0 || plnB r.r)
def wt0B (r : Rw) : Bool := decide (r.wt = 0)
/-- Is a rule valid here? -/
def cruB (r : Rw) : Bool := ruleB r && askB r && wt0B r
/-- Check. -/
def cchk (g : Bs) (l : List Rw) : Int := if manyB l = true then 4 else if (l.all cruB && ignB g) = true then 0 else 8
theorem cchk_zero {g : Bs} {l : List Rw} (h : cchk g l = 0) : manyB l = false ∧ (∀ r ∈ l, ruleB r = true ∧ askB r = true ∧ r.wt = 0) ∧ ignB g = true := by
  unfold cchk at h
  split at h
  · simp at h
  · split at h
    · rename_i h1 h2
      rw [Bool.and_eq_true, List.all_eq_true] at h2
      refine ⟨by simpa using h1, fun r hr => ?_, h2.2⟩
      have h3 := h2.1 r hr
      unfold cruB wt0B at h3
      simp only [Bool.and_eq_true, decide_eq_true_eq] at h3
      exact ⟨h3.1.1, h3.1.2, h3.2⟩
    · simp at h
theorem cchk_of {g : Bs} {l : List Rw} (h1 : manyB l = false) (h2 : ∀ r ∈ l, ruleB r = true ∧ askB r = true ∧ r.wt = 0) (h3 : ignB g = true) : cchk g l = 0 := by
  unfold cchk
  rw [if_neg (by rw [h1]; simp), if_pos]
  rw [h3, Bool.and_true, List.all_eq_true]
  intro r hr
  obtain ⟨a, b, c⟩ := h2 r hr
  unfold cruB wt0B
  rw [a, b, c]; rfl
/-- Left's and Right's error. -/
def askC (g : Bs) (u : List Md) (i : Int) : Int := if chk u ≠ 0 then chk u else if i < 0 ∨ (u.length : Int) ≤ i ∨ plnB (md u i.toNat).c = false then 2 else if ignB g = true then 0 else 8
def lefV (g : Bs) (u : List Md) (i : Int) : Int := if askC g u i = 0 then bef g u i.toNat else 0
def rigV (g : Bs) (u : List Md) (i : Int) : Int := if askC g u i = 0 then beh g u i.toNat else 0
/-- Is a neighbour as it is asked for? -/
def nbB (u : List Md) (k : Int) (c : UInt8) : Bool := c == 0 || (decide (0 ≤ k) && (md u k.toNat).c == c)
def cfitB (g : Bs) (u : List Md) (i : Nat) (r : Rw) : Bool := fitB r (md u i) && nbB u (bef g u i) r.l && nbB u (beh g u i) r.r
def fstF (q : Rw → Bool) : List Rw → Int → Int
  | [], _ => -1
  | r :: l, i => if q r = true then i else fstF q l (i + 1)
def cfirst (g : Bs) (l : List Rw) (u : List Md) (i : Nat) : Int := fstF (cfitB g u i) l 0
theorem fstF_rng (q : Rw → Bool) : ∀ (l : List Rw) (i : Int), fstF q l i = -1 ∨ (i ≤ fstF q l i ∧ fstF q l i < i + l.length)
  | [], _ => .inl rfl
  | r :: l, i => by
    unfold fstF
    split
    · right; simp; omega
    · rcases fstF_rng q l (i + 1) with h | h
      · exact .inl h
      · right; simp; omega
theorem fstF_drop {q : Rw → Bool} {l : List Rw} {k : Nat} (hk : k < l.length) : fstF q (l.drop k) (k : Int) = if q l[k] = true then (k : Int) else fstF q (l.drop (k + 1)) ((k + 1 : Nat) : Int) := by
  rw [List.drop_eq_getElem_cons hk, fstF]
  rfl
theorem fstF_end {q : Rw → Bool} {l : List Rw} {k : Nat} (hk : l.length ≤ k) : fstF q (l.drop k) (k : Int) = -1 := by
  rw [List.drop_of_length_le hk]; rfl
theorem fstF_fit {q : Rw → Bool} {l : List Rw} {k : Nat} (h : fstF q l 0 = (k : Int)) : ∃ hk : k < l.length, q l[k] = true := by
  have key : ∀ (l : List Rw) (i : Int) (k : Nat), fstF q l i = i + k → 0 ≤ i → ∃ hk : k < l.length, q l[k] = true := by
    intro l
    induction l with
    | nil => intro i k h h0; simp [fstF] at h; omega
    | cons r l ih =>
      intro i k h h0
      unfold fstF at h
      by_cases hf : q r = true
      · rw [if_pos hf] at h
        obtain rfl : k = 0 := by omega
        exact ⟨by simp, hf⟩
      · rw [if_neg hf] at h
        cases k with
        | zero =>
          exfalso
          rcases fstF_rng q l (i + 1) with h2 | ⟨h2, _⟩ <;> omega
        | succ k =>
          obtain ⟨hk, h3⟩ := ih (i + 1) k (by omega) (by omega)
          exact ⟨by simp; omega, by simpa using h3⟩
  exact key l 0 k (by omega) (by omega)
theorem fstF_none {q : Rw → Bool} : ∀ {l : List Rw} {i : Int}, (∀ r ∈ l, q r = false) → fstF q l i = -1
  | [], _, _ => rfl
  | r :: l, i, h => by
    rw [fstF, if_neg (by rw [h r (by simp)]; simp)]
    exact fstF_none fun x hx => h x (by simp [hx])
theorem cfit_fit {g : Bs} {u : List Md} {i : Nat} {r : Rw} (h : cfitB g u i r = true) : fitB r (md u i) = true := by
  unfold cfitB at h
  simp only [Bool.and_eq_true] at h
  exact h.1.1
theorem fit_name {r : Rw} {m : Md} (h : fitB r m = true) : r.c = m.c := by
  unfold fitB at h
  simp only [Bool.and_eq_true] at h
  simpa using h.1.1
theorem rule_pln {r : Rw} (h : ruleB r = true) : plnB r.c = true := by
  unfold ruleB at h
  simp only [Bool.and_eq_true] at h
  unfold plnB
  rw [h.1.1.1.1.1.1, h.1.1.1.1.1.2]; rfl
theorem cfirst_bra {g : Bs} {l : List Rw} {u : List Md} {i : Nat} (hl : ∀ r ∈ l, ruleB r = true) (h : plnB (md u i).c = false) : cfirst g l u i = -1 := by
  refine fstF_none fun r hr => ?_
  cases hf : cfitB g u i r
  · rfl
  · have h1 := fit_name (cfit_fit hf)
    have h2 := rule_pln (hl r hr)
    rw [h1, h] at h2; simp at h2
/-- Find's error and index. -/
def cfiC (g : Bs) (l : List Rw) (u : List Md) (i : Int) : Int := if cchk g l ≠ 0 then cchk g l else if chk u ≠ 0 then chk u else if i < 0 ∨ (u.length : Int) ≤ i then 2 else 0
def cfiV (g : Bs) (l : List Rw) (u : List Md) (i : Int) : Int := if cfiC g l u i = 0 then cfirst g l u i.toNat else 0
/-- What becomes of the module at a place. -/
def csuc (g : Bs) (l : List Rw) (u : List Md) (i : Nat) : Option (List Md) := if 0 ≤ cfirst g l u i then (match l[(cfirst g l u i).toNat]? with | some r => made r (md u i) | none => none) else some [md u i]
def cstp (g : Bs) (l : List Rw) (u : List Md) : Nat → Option (List Md)
  | 0 => some []
  | k + 1 => match cstp g l u k, csuc g l u k with
    | some a, some b => some (a ++ b)
    | _, _ => none
theorem csuc_self {g : Bs} {l : List Rw} {u : List Md} {i : Nat} (h : cfirst g l u i < 0) : csuc g l u i = some [md u i] := by unfold csuc; rw [if_neg (by omega)]
theorem csuc_made {g : Bs} {l : List Rw} {u : List Md} {i k : Nat} (h : cfirst g l u i = (k : Int)) (hk : k < l.length) : csuc g l u i = made l[k] (md u i) := by
  unfold csuc
  rw [h, if_pos (by omega), Int.toNat_natCast, List.getElem?_eq_getElem hk]
theorem cstp_succ {g : Bs} {l : List Rw} {u : List Md} {k : Nat} {a b : List Md} (h1 : cstp g l u k = some a) (h2 : csuc g l u k = some b) : cstp g l u (k + 1) = some (a ++ b) := by rw [cstp, h1, h2]
theorem cstp_none {g : Bs} {l : List Rw} {u : List Md} {k : Nat} (h2 : csuc g l u k = none) : ∀ d, cstp g l u (k + 1 + d) = none
  | 0 => by
    rw [Nat.add_zero, cstp, h2]
    cases cstp g l u k <;> rfl
  | d + 1 => by rw [← Nat.add_assoc, cstp, cstp_none h2 d]
theorem made_len {r : Rw} {m : Md} {d : List Md} (h : made r m = some d) : d.length = r.out.length := by
  unfold made at h
  split at h
  · have := (Option.some.inj h).symm
    subst this; simp
  · simp at h
/-- Step's error and word. -/
def csC (g : Bs) (l : List Rw) (u : List Md) : Int := if cchk g l ≠ 0 then cchk g l else if chk u ≠ 0 then chk u else match cstp g l u u.length with
  | none => 16
  | some v => if 2000 < v.length then 4 else 0
def csL (g : Bs) (l : List Rw) (u : List Md) : List Md := if csC g l u = 0 then (cstp g l u u.length).getD [] else []
/-- Run's error and word. -/
def cruF (g : Bs) (l : List Rw) : Nat → List Md → Int × List Md
  | 0, w => (0, w)
  | n + 1, w => if csC g l w ≠ 0 then (csC g l w, []) else cruF g l n (csL g l w)
def cruC (g : Bs) (l : List Rw) (w : List Md) (n : Int) : Int := if cchk g l ≠ 0 then cchk g l else if chk w ≠ 0 then chk w else if n < 0 ∨ 30 < n then 2 else (cruF g l n.toNat w).1
def cruL (g : Bs) (l : List Rw) (w : List Md) (n : Int) : List Md := if cruC g l w n = 0 then (cruF g l n.toNat w).2 else []
section
variable {g : Bs} {l : List Rw} {u : List Md}
theorem cs_rules (h : cchk g l ≠ 0) : csC g l u = cchk g l ∧ csL g l u = [] := by
  have e : csC g l u = cchk g l := by unfold csC; rw [if_pos h]
  exact ⟨e, by unfold csL; rw [e, if_neg h]⟩
theorem cs_word (h : cchk g l = 0) (h1 : chk u ≠ 0) : csC g l u = chk u ∧ csL g l u = [] := by
  have e : csC g l u = chk u := by unfold csC; rw [if_neg (by simp [h]), if_pos h1]
  exact ⟨e, by unfold csL; rw [e, if_neg h1]⟩
theorem cs_none (h : cchk g l = 0) (h1 : chk u = 0) (h2 : cstp g l u u.length = none) : csC g l u = 16 ∧ csL g l u = [] := by
  have e : csC g l u = 16 := by unfold csC; rw [if_neg (by simp [h]), if_neg (by simp [h1]), h2]
  exact ⟨e, by unfold csL; rw [e]; rfl⟩
theorem cs_many {d : List Md} (h : cchk g l = 0) (h1 : chk u = 0) (h2 : cstp g l u u.length = some d) (h3 : 2000 < d.length) : csC g l u = 4 ∧ csL g l u = [] := by
  have e : csC g l u = 4 := by unfold csC; rw [if_neg (by simp [h]), if_neg (by simp [h1]), h2]; simp [h3]
  exact ⟨e, by unfold csL; rw [e]; rfl⟩
theorem cs_ok {d : List Md} (h : cchk g l = 0) (h1 : chk u = 0) (h2 : cstp g l u u.length = some d) (h3 : ¬ 2000 < d.length) : csC g l u = 0 ∧ csL g l u = d := by
  have e : csC g l u = 0 := by unfold csC; rw [if_neg (by simp [h]), if_neg (by simp [h1]), h2]; simp; omega
  exact ⟨e, by unfold csL; rw [e, if_pos rfl, h2]; rfl⟩
theorem cruF_ok {n : Nat} (h : csC g l u = 0) : cruF g l (n + 1) u = cruF g l n (csL g l u) := by rw [cruF, if_neg (by simp [h])]
theorem cruF_no {n : Nat} (h : csC g l u ≠ 0) : cruF g l (n + 1) u = (csC g l u, []) := by rw [cruF, if_pos h]
theorem cru_rules {n : Int} (h : cchk g l ≠ 0) : cruC g l u n = cchk g l ∧ cruL g l u n = [] := by
  have e : cruC g l u n = cchk g l := by unfold cruC; rw [if_pos h]
  exact ⟨e, by unfold cruL; rw [e, if_neg h]⟩
theorem cru_word {n : Int} (h : cchk g l = 0) (h1 : chk u ≠ 0) : cruC g l u n = chk u ∧ cruL g l u n = [] := by
  have e : cruC g l u n = chk u := by unfold cruC; rw [if_neg (by simp [h]), if_pos h1]
  exact ⟨e, by unfold cruL; rw [e, if_neg h1]⟩
theorem cru_arg {n : Int} (h : cchk g l = 0) (h1 : chk u = 0) (h2 : n < 0 ∨ 30 < n) : cruC g l u n = 2 ∧ cruL g l u n = [] := by
  have e : cruC g l u n = 2 := by unfold cruC; rw [if_neg (by simp [h]), if_neg (by simp [h1]), if_pos h2]
  exact ⟨e, by unfold cruL; rw [e]; rfl⟩
theorem cru_run {n : Nat} (h : cchk g l = 0) (h1 : chk u = 0) (h2 : n ≤ 30) {c : Int} {d : List Md} (h3 : cruF g l n u = (c, d)) : cruC g l u (n : Int) = c ∧ cruL g l u (n : Int) = if c = 0 then d else [] := by
  have e : cruC g l u (n : Int) = c := by unfold cruC; rw [if_neg (by simp [h]), if_neg (by simp [h1]), if_neg (by omega), Int.toNat_natCast, h3]
  refine ⟨e, ?_⟩
  unfold cruL; rw [e, Int.toNat_natCast, h3]
/-- A step keeps a word valid. -/
theorem csuc_ok (hl : ∀ r ∈ l, ruleB r = true) {i : Nat} (hm : fineB (md u i) = true) {a : List Md} (h : csuc g l u i = some a) : SucOk (md u i) a := by
  by_cases hz : 0 ≤ cfirst g l u i
  · obtain ⟨k, hk⟩ : ∃ k : Nat, cfirst g l u i = (k : Int) := ⟨(cfirst g l u i).toNat, by omega⟩
    obtain ⟨hkl, hfit⟩ := fstF_fit hk
    rw [csuc_made hk hkl] at h
    have hr := hl _ (List.getElem_mem hkl)
    have hf := cfit_fit hfit
    refine suc_ok (l := [l[k]]) (by simpa using hr) hm ?_
    have e : first [l[k]] (md u i) = 0 := by unfold first firstF; rw [if_pos hf]
    unfold succM
    rw [dif_pos (by omega), e]
    exact h
  · rw [csuc_self (by omega)] at h
    refine suc_ok (l := []) (by simp) hm ?_
    unfold succM
    rw [dif_neg (by simp [first, firstF])]; exact h
theorem cstp_fine (hl : ∀ r ∈ l, ruleB r = true) (hu : ∀ m ∈ u, fineB m = true) : ∀ (k : Nat) (d : List Md), k ≤ u.length → cstp g l u k = some d → (∀ x ∈ d, fineB x = true) ∧ dep d = dep (u.take k) ∧ ((∀ j, j ≤ k → 0 ≤ dep (u.take j)) → ∀ j, j ≤ d.length → 0 ≤ dep (d.take j))
  | 0, d, _, h => by
    simp only [cstp, Option.some.injEq] at h
    subst h
    exact ⟨by simp, rfl, fun _ j hj => by simp at hj; subst hj; simp [dep_nil]⟩
  | k + 1, d, hk, h => by
    have hku : k < u.length := hk
    cases h1 : cstp g l u k with
    | none => rw [cstp, h1] at h; simp at h
    | some a =>
      cases h2 : csuc g l u k with
      | none => rw [cstp, h1, h2] at h; simp at h
      | some b =>
        rw [cstp_succ h1 h2] at h
        have hd := (Option.some.inj h).symm
        subst hd
        have A := csuc_ok (g := g) hl (by rw [md_get hku]; exact hu _ (List.getElem_mem hku)) h2
        obtain ⟨B1, B2, B3⟩ := cstp_fine hl hu k a (by omega) h1
        have hs := dep_snoc hku
        rw [← md_get hku] at hs
        refine ⟨fun x hx => ?_, by rw [dep_app, A.dp, B2, hs], fun hc j hj => ?_⟩
        · rcases List.mem_append.1 hx with h3 | h3
          · exact B1 x h3
          · exact A.fine x h3
        · have c0 := hc k (by omega)
          have c1 := hc (k + 1) (by omega)
          by_cases hja : j ≤ a.length
          · rw [List.take_append_of_le_length hja]
            exact B3 (fun i hi => hc i (by omega)) j hja
          · have e : (a ++ b).take j = a ++ b.take (j - a.length) := by
              rw [List.take_append, List.take_of_length_le (by omega)]
            rw [e, dep_app, B2]
            rcases A.pre (j - a.length) (by rw [List.length_append] at hj; omega) with e | e <;> omega
theorem csL_chk (hl : cchk g l = 0) (hu : chk u = 0) : chk (csL g l u) = 0 := by
  have hr := (cchk_zero hl).2.1
  cases hs : cstp g l u u.length with
  | none => rw [(cs_none hl hu hs).2]; decide
  | some d =>
    by_cases h : 2000 < d.length
    · rw [(cs_many hl hu hs h).2]; decide
    · rw [(cs_ok hl hu hs h).2]
      obtain ⟨_, h2, h3, h4⟩ := chk_zero.1 hu
      obtain ⟨a1, a2, a3⟩ := cstp_fine (g := g) (fun r hr2 => (hr r hr2).1) (fun m hm => List.all_eq_true.1 h2 m hm) u.length d (Nat.le_refl _) hs
      refine chk_zero.2 ⟨by omega, List.all_eq_true.2 a1, okB_iff.2 fun i hi => ?_, by rw [a2, List.take_length, h4]⟩
      exact a3 (fun j hj => pre_ok h3 j hj) (i + 1) (by omega)
/-! Rules that ask for no neighbour. -/
def bareR (r : Rw) : Rw := { r with l := 0, r := 0 }
theorem nb_zero (u : List Md) (k : Int) : nbB u k 0 = true := by unfold nbB; simp
theorem fst_plain {l : List Rw} (h : ∀ r ∈ l, r.l = 0 ∧ r.r = 0) {m : Md} {i : Nat} (hm : md u i = m) : ∀ j : Int, fstF (cfitB g u i) l j = firstF l m j := by
  induction l with
  | nil => intro j; rfl
  | cons r l ih =>
    intro j
    have h0 := h r (by simp)
    have e : cfitB g u i r = fitB r m := by unfold cfitB; rw [h0.1, h0.2, nb_zero, nb_zero, hm]; simp
    rw [fstF, firstF, e, ih fun x hx => h x (by simp [hx])]
theorem csuc_plain (h : ∀ r ∈ l, r.l = 0 ∧ r.r = 0) {i : Nat} : csuc g l u i = succM l (md u i) := by
  have e : cfirst g l u i = first l (md u i) := fst_plain h rfl 0
  unfold csuc succM
  rw [e]
  by_cases hz : 0 ≤ first l (md u i)
  · rw [if_pos hz, dif_pos hz]
    cases l[(first l (md u i)).toNat]? <;> rfl
  · rw [if_neg hz, dif_neg hz]
theorem cstp_plain (h : ∀ r ∈ l, r.l = 0 ∧ r.r = 0) : ∀ k, k ≤ u.length → cstp g l u k = stepL l (u.take k)
  | 0, _ => by simp [cstp, stepL]
  | k + 1, hk => by
    have hku : k < u.length := hk
    rw [cstp, cstp_plain h k (by omega), csuc_plain h, List.take_succ_eq_append_getElem hku, stepL_app, stepL_one, md_get hku]
    cases stepL l (u.take k) <;> cases succM l u[k] <;> rfl
theorem cs_plain (h : ∀ r ∈ l, r.l = 0 ∧ r.r = 0) (hc : cchk g l = 0) : rchk l = 0 ∧ csC g l u = stC l u ∧ csL g l u = stL l u := by
  have hz := cchk_zero hc
  have hr : rchk l = 0 := by
    unfold rchk
    rw [if_neg (by rw [hz.1]; simp), if_pos]
    rw [List.all_eq_true]
    intro r hr
    have := hz.2.1 r hr
    have h0 := h r hr
    unfold plainB
    rw [this.1, h0.1, h0.2, this.2.2]; rfl
  have e : csC g l u = stC l u := by
    unfold csC stC
    rw [hc, hr, cstp_plain h u.length (Nat.le_refl _), List.take_length]
    cases stepL l u <;> rfl
  refine ⟨hr, e, ?_⟩
  unfold csL stL
  rw [e, cstp_plain h u.length (Nat.le_refl _), List.take_length]
theorem many_bare (l : List Rw) : manyB (l.map bareR) = manyB l := by
  unfold manyB
  rw [List.length_map, List.any_map]
  rfl
theorem rule_bare (r : Rw) : ruleB (bareR r) = ruleB r := rfl
theorem fit_bare (r : Rw) (m : Md) : fitB (bareR r) m = fitB r m := rfl
theorem cchk_bare (h : cchk g l = 0) : cchk g (l.map bareR) = 0 := by
  have hz := cchk_zero h
  refine cchk_of (by rw [many_bare]; exact hz.1) (fun r hr => ?_) hz.2.2
  obtain ⟨x, hx, rfl⟩ := List.mem_map.1 hr
  have := hz.2.1 x hx
  exact ⟨this.1, rfl, this.2.2⟩
/-- What the package asks of the rules without their neighbours. -/
theorem rchk_bare (l : List Rw) : rchk (l.map bareR) = if manyB l = true then 4 else if l.all (fun r => ruleB r && wt0B r) = true then 0 else 8 := by
  unfold rchk
  rw [many_bare, List.all_map]
  have : (fun r => ruleB r && plainB r) ∘ bareR = (fun r => ruleB r && wt0B r) := by
    funext r
    show (ruleB (bareR r) && plainB (bareR r)) = _
    rw [rule_bare]
    unfold plainB bareR wt0B
    simp
  rw [this]
theorem cchk_eq (g : Bs) (l : List Rw) : cchk g l = if rchk (l.map bareR) ≠ 0 then rchk (l.map bareR) else if l.all askB = true then (if ignB g = true then 0 else 8) else 8 := by
  rw [rchk_bare]
  unfold cchk
  by_cases hm : manyB l = true
  · rw [if_pos hm, if_pos hm]; rfl
  · rw [if_neg hm, if_neg hm]
    have e : l.all cruB = (l.all (fun r => ruleB r && wt0B r) && l.all askB) := by
      rw [Bool.eq_iff_iff, Bool.and_eq_true, List.all_eq_true, List.all_eq_true, List.all_eq_true]
      unfold cruB
      simp only [Bool.and_eq_true]
      constructor
      · intro h; exact ⟨fun r hr => ⟨(h r hr).1.1, (h r hr).2⟩, fun r hr => (h r hr).1.2⟩
      · rintro ⟨h1, h2⟩ r hr; exact ⟨⟨(h1 r hr).1, h2 r hr⟩, (h1 r hr).2⟩
    rw [e]
    cases l.all (fun r => ruleB r && wt0B r) <;> cases l.all askB <;> cases ignB g <;> rfl
end
/-! A branch that is put in. -/
def insL (u b : List Md) (at' : Nat) : List Md := u.take at' ++ (⟨91, []⟩ :: b ++ ⟨93, []⟩ :: u.drop at')
def mvd (i : Int) (at' n : Nat) : Int := if (at' : Int) ≤ i then i + n else i
section
variable {g : Bs} {u b : List Md} {a : Nat}
theorem ins_len (ha : a ≤ u.length) : (insL u b a).length = u.length + (b.length + 2) := by
  unfold insL; simp; omega
theorem ins_lo (ha : a ≤ u.length) {k : Nat} (hk : k < a) : md (insL u b a) k = md u k := by
  unfold insL md
  simp only [List.getD_eq_getElem?_getD]
  rw [List.getElem?_append_left (by rw [List.length_take]; omega), List.getElem?_take_of_lt hk]
theorem ins_first (ha : a ≤ u.length) : md (insL u b a) a = ⟨91, []⟩ := by
  unfold insL md
  simp only [List.getD_eq_getElem?_getD]
  rw [List.getElem?_append_right (by rw [List.length_take]; omega)]
  have : a - (u.take a).length = 0 := by rw [List.length_take]; omega
  rw [this]; rfl
theorem ins_mid (ha : a ≤ u.length) {k : Nat} (hk : k < b.length) : md (insL u b a) (a + 1 + k) = md b k := by
  unfold insL md
  simp only [List.getD_eq_getElem?_getD]
  rw [List.getElem?_append_right (by rw [List.length_take]; omega)]
  have : a + 1 + k - (u.take a).length = k + 1 := by rw [List.length_take]; omega
  rw [this, List.cons_append, List.getElem?_cons_succ, List.getElem?_append_left hk]
theorem ins_last (ha : a ≤ u.length) : md (insL u b a) (a + 1 + b.length) = ⟨93, []⟩ := by
  unfold insL md
  simp only [List.getD_eq_getElem?_getD]
  rw [List.getElem?_append_right (by rw [List.length_take]; omega)]
  have : a + 1 + b.length - (u.take a).length = b.length + 1 := by rw [List.length_take]; omega
  rw [this, List.cons_append, List.getElem?_cons_succ, List.getElem?_append_right (by omega), Nat.sub_self]
  rfl
theorem ins_hi (ha : a ≤ u.length) {k : Nat} (hk : a ≤ k) : md (insL u b a) (k + (b.length + 2)) = md u k := by
  unfold insL md
  simp only [List.getD_eq_getElem?_getD]
  rw [List.getElem?_append_right (by rw [List.length_take]; omega)]
  have : k + (b.length + 2) - (u.take a).length = (k - a) + b.length + 1 + 1 := by rw [List.length_take]; omega
  rw [this, List.cons_append, List.getElem?_cons_succ, List.getElem?_append_right (by omega)]
  have : (k - a) + b.length + 1 - b.length = (k - a) + 1 := by omega
  rw [this, List.getElem?_cons_succ, List.getElem?_drop]
  congr 2; omega
/-- To the left, over the branch's inside. -/
theorem bf_in (ha : a ≤ u.length) (hb : okB b b.length = true) {c : Int} (hc : 0 < c) : ∀ j, j ≤ b.length → bfF g (insL u b a) (a + 1 + j) (c + dep (b.take j)) = bfF g (insL u b a) (a + 1) c
  | 0, _ => by simp [dep_nil]
  | j + 1, hj => by
    have hjb : j < b.length := hj
    have ih := bf_in ha hb hc j (by omega)
    have hs := dep_snoc hjb
    have p0 := pre_ok hb j (by omega)
    have p1 := pre_ok hb (j + 1) hj
    have em := ins_mid (u := u) ha hjb
    have e2 := md_get hjb
    rw [← ih, show a + 1 + (j + 1) = a + 1 + j + 1 by omega]
    by_cases c1 : (md b j).c = 91
    · have hd : dlt b[j] = 1 := by rw [← e2]; unfold dlt; rw [if_pos c1]
      rw [bf_open (by rw [em]; exact c1) (by omega)]
      congr 1; omega
    · by_cases c2 : (md b j).c = 93
      · have hd : dlt b[j] = -1 := by rw [← e2]; unfold dlt; rw [if_neg c1, if_pos c2]
        rw [bf_close (by rw [em]; exact c2)]
        congr 1; omega
      · have hd : dlt b[j] = 0 := by rw [← e2]; unfold dlt; rw [if_neg c1, if_neg c2]
        rw [bf_pass (by rw [em]; exact c2) (by rw [em]; exact c1) (.inl (by omega))]
        congr 1; omega
theorem bf_over (ha : a ≤ u.length) (hb : okB b b.length = true) (h0 : dep b = 0) {c : Int} (hc : 0 ≤ c) : bfF g (insL u b a) (a + (b.length + 2)) c = bfF g (insL u b a) a c := by
  rw [show a + (b.length + 2) = a + 1 + b.length + 1 by omega, bf_close (by rw [ins_last ha])]
  have h := bf_in (g := g) (u := u) ha hb (c := c + 1) (by omega) b.length (Nat.le_refl _)
  rw [List.take_length, h0] at h
  rw [Int.add_zero] at h
  rw [h, bf_open (by rw [ins_first ha]) (by omega)]
  congr 1; omega
theorem bf_lo (ha : a ≤ u.length) : ∀ k (c : Int), k ≤ a → bfF g (insL u b a) k c = bfF g u k c
  | 0, c, _ => rfl
  | k + 1, c, h => by
    rw [bfF, bfF, ins_lo ha (by omega), bf_lo ha k _ (by omega), bf_lo ha k _ (by omega), bf_lo ha k _ (by omega)]
theorem mvd_lo {i : Int} {n : Nat} (h : i < a) : mvd i a n = i := by unfold mvd; rw [if_neg (by omega)]
theorem mvd_hi {i : Int} {n : Nat} (h : (a : Int) ≤ i) : mvd i a n = i + n := by unfold mvd; rw [if_pos h]
theorem bf_lt (k : Nat) (c : Int) : bfF g u k c < k := by
  rcases bf_rng (g := g) (u := u) k c with h | ⟨x, h, hx, _⟩ <;> omega
theorem bf_hi (ha : a ≤ u.length) (hb : okB b b.length = true) (h0 : dep b = 0) : ∀ d (c : Int), 0 ≤ c → bfF g (insL u b a) (a + d + (b.length + 2)) c = mvd (bfF g u (a + d) c) a (b.length + 2)
  | 0, c, hc => by
    rw [Nat.add_zero, bf_over ha hb h0 hc, bf_lo ha a c (Nat.le_refl _), mvd_lo (bf_lt a c)]
  | d + 1, c, hc => by
    rw [show a + (d + 1) + (b.length + 2) = a + d + (b.length + 2) + 1 by omega, show a + (d + 1) = a + d + 1 by omega]
    have em := ins_hi (u := u) (b := b) ha (k := a + d) (by omega)
    rw [bfF, bfF, em]
    split
    · exact bf_hi ha hb h0 d _ (by omega)
    · split
      · split
        · exact bf_hi ha hb h0 d _ (by omega)
        · exact bf_hi ha hb h0 d _ hc
      · split
        · rw [mvd_hi (by omega)]; omega
        · exact bf_hi ha hb h0 d _ hc
theorem bef_ins (ha : a ≤ u.length) (hb : okB b b.length = true) (h0 : dep b = 0) (i : Nat) : bef g (insL u b a) (mvd i a (b.length + 2)).toNat = mvd (bef g u i) a (b.length + 2) := by
  unfold bef
  by_cases h : a ≤ i
  · rw [mvd_hi (by omega)]
    have := bf_hi (g := g) ha hb h0 (i - a) 0 (by omega)
    rw [show a + (i - a) = i by omega] at this
    rw [← this]; congr 1
  · rw [mvd_lo (by omega), Int.toNat_natCast, bf_lo ha i 0 (by omega), mvd_lo (by have := bf_lt (g := g) (u := u) i 0; omega)]
/-- To the right. -/
theorem bh_hi (ha : a ≤ u.length) : ∀ d k (o : Int), k + d = u.length → a ≤ k → bhd g (insL u b a) (k + (b.length + 2)) o = mvd (bhd g u k o) a (b.length + 2)
  | 0, k, o, hk, hak => by
    rw [bh_out (by rw [ins_len ha]; omega), bh_out (by omega), mvd_lo (by omega)]
  | d + 1, k, o, hk, hak => by
    have hku : k < u.length := by omega
    have hkl : k + (b.length + 2) < (insL u b a).length := by rw [ins_len ha]; omega
    have em := ins_hi (u := u) (b := b) ha hak
    have ih := fun o' => bh_hi ha d (k + 1) o' (by omega) (by omega)
    have e1 : k + (b.length + 2) + 1 = k + 1 + (b.length + 2) := by omega
    by_cases c1 : (md u k).c = 91
    · rw [bh_open hkl (by rw [em]; exact c1), bh_open hku c1, e1, ih]
    · by_cases c2 : (md u k).c = 93
      · by_cases c0 : o = 0
        · subst c0
          rw [bh_end hkl (by rw [em]; exact c2), bh_end hku c2, mvd_lo (by omega)]
        · rw [bh_close hkl (by rw [em]; exact c2) c0, bh_close hku c2 c0, e1, ih]
      · by_cases c3 : o = 0 ∧ hasB g (md u k).c = false
        · obtain ⟨rfl, c3⟩ := c3
          rw [bh_stop hkl (by rw [em]; exact c2) (by rw [em]; exact c1) (by rw [em]; exact c3), bh_stop hku c2 c1 c3, mvd_hi (by omega)]; omega
        · have c4 : o ≠ 0 ∨ hasB g (md u k).c = true := by
            by_cases c4 : o = 0
            · right
              cases hh : hasB g (md u k).c
              · exact absurd ⟨c4, hh⟩ c3
              · rfl
            · exact .inl c4
          rw [bh_pass hkl (by rw [em]; exact c2) (by rw [em]; exact c1) (by rw [em]; exact c4), bh_pass hku c2 c1 c4, e1, ih]
theorem bh_in (ha : a ≤ u.length) (hb : okB b b.length = true) {o : Int} (ho : 0 < o) : ∀ j, j ≤ b.length → bhd g (insL u b a) (a + 1) o = bhd g (insL u b a) (a + 1 + j) (o + dep (b.take j))
  | 0, _ => by simp [dep_nil]
  | j + 1, hj => by
    have hjb : j < b.length := hj
    have ih := bh_in ha hb ho j (by omega)
    have hs := dep_snoc hjb
    have p0 := pre_ok hb j (by omega)
    have em := ins_mid (u := u) ha hjb
    have e2 := md_get hjb
    have hkl : a + 1 + j < (insL u b a).length := by rw [ins_len ha]; omega
    rw [ih, show a + 1 + (j + 1) = a + 1 + j + 1 by omega]
    by_cases c1 : (md b j).c = 91
    · have hd : dlt b[j] = 1 := by rw [← e2]; unfold dlt; rw [if_pos c1]
      rw [bh_open hkl (by rw [em]; exact c1)]
      congr 1; omega
    · by_cases c2 : (md b j).c = 93
      · have hd : dlt b[j] = -1 := by rw [← e2]; unfold dlt; rw [if_neg c1, if_pos c2]
        rw [bh_close hkl (by rw [em]; exact c2) (by omega)]
        congr 1; omega
      · have hd : dlt b[j] = 0 := by rw [← e2]; unfold dlt; rw [if_neg c1, if_neg c2]
        rw [bh_pass hkl (by rw [em]; exact c2) (by rw [em]; exact c1) (.inl (by omega))]
        congr 1; omega
theorem bh_over (ha : a ≤ u.length) (hb : okB b b.length = true) (h0 : dep b = 0) {o : Int} (ho : 0 ≤ o) : bhd g (insL u b a) a o = bhd g (insL u b a) (a + (b.length + 2)) o := by
  rw [bh_open (by rw [ins_len ha]; omega) (by rw [ins_first ha])]
  have h := bh_in (g := g) (u := u) ha hb (o := o + 1) (by omega) b.length (Nat.le_refl _)
  rw [List.take_length, h0, Int.add_zero] at h
  rw [h, bh_close (by rw [ins_len ha]; omega) (by rw [ins_last ha]) (by omega)]
  congr 1 <;> omega
theorem bh_ge (k : Nat) (c : Int) (hk : k ≤ u.length) : bhd g u k c = -1 ∨ (k : Int) ≤ bhd g u k c := by
  rcases bh_rng (g := g) (u := u) (u.length - k) k c (by omega) with h | ⟨x, h, hx, _⟩ <;> omega
theorem bh_lo (ha : a ≤ u.length) (hb : okB b b.length = true) (h0 : dep b = 0) : ∀ d k (o : Int), k + d = a → 0 ≤ o → bhd g (insL u b a) k o = mvd (bhd g u k o) a (b.length + 2)
  | 0, k, o, hk, ho => by
    obtain rfl : k = a := by omega
    rw [bh_over ha hb h0 ho, bh_hi ha (u.length - k) k o (by omega) (Nat.le_refl _)]
  | d + 1, k, o, hk, ho => by
    have hku : k < u.length := by omega
    have hkl : k < (insL u b a).length := by rw [ins_len ha]; omega
    have em := ins_lo (u := u) (b := b) ha (show k < a by omega)
    have ih := fun o' ho' => bh_lo ha hb h0 d (k + 1) o' (by omega) ho'
    by_cases c1 : (md u k).c = 91
    · rw [bh_open hkl (by rw [em]; exact c1), bh_open hku c1, ih _ (by omega)]
    · by_cases c2 : (md u k).c = 93
      · by_cases c0 : o = 0
        · subst c0
          rw [bh_end hkl (by rw [em]; exact c2), bh_end hku c2, mvd_lo (by omega)]
        · rw [bh_close hkl (by rw [em]; exact c2) c0, bh_close hku c2 c0, ih _ (by omega)]
      · by_cases c3 : o = 0 ∧ hasB g (md u k).c = false
        · obtain ⟨rfl, c3⟩ := c3
          rw [bh_stop hkl (by rw [em]; exact c2) (by rw [em]; exact c1) (by rw [em]; exact c3), bh_stop hku c2 c1 c3, mvd_lo (by omega)]
        · have c4 : o ≠ 0 ∨ hasB g (md u k).c = true := by
            by_cases c4 : o = 0
            · right
              cases hh : hasB g (md u k).c
              · exact absurd ⟨c4, hh⟩ c3
              · rfl
            · exact .inl c4
          rw [bh_pass hkl (by rw [em]; exact c2) (by rw [em]; exact c1) (by rw [em]; exact c4), bh_pass hku c2 c1 c4, ih _ ho]
theorem beh_ins (ha : a ≤ u.length) (hb : okB b b.length = true) (h0 : dep b = 0) {i : Nat} (hi : i < u.length) : beh g (insL u b a) (mvd i a (b.length + 2)).toNat = mvd (beh g u i) a (b.length + 2) := by
  unfold beh
  by_cases h : a ≤ i
  · rw [mvd_hi (by omega)]
    rw [← bh_hi ha (u.length - (i + 1)) (i + 1) 0 (by omega) (by omega)]
    congr 1 <;> omega
  · rw [mvd_lo (by omega), Int.toNat_natCast]
    exact bh_lo ha hb h0 (a - (i + 1)) (i + 1) 0 (by omega) (Int.le_refl _)
theorem ins_chk (ha : a ≤ u.length) (hu : chk u = 0) (hb : chk b = 0) (hl : u.length + (b.length + 2) ≤ 2000) : chk (insL u b a) = 0 := by
  obtain ⟨u1, u2, u3, u4⟩ := chk_zero.1 hu
  obtain ⟨b1, b2, b3, b4⟩ := chk_zero.1 hb
  have hd : dep (u.take a) + dep (u.drop a) = dep u := by rw [← dep_app, List.take_append_drop]
  refine chk_zero.2 ⟨by rw [ins_len ha]; omega, ?_, okB_iff.2 fun i hi => ?_, ?_⟩
  · rw [List.all_eq_true] at *
    intro x hx
    unfold insL at hx
    simp only [List.mem_append, List.mem_cons] at hx
    rcases hx with h | (rfl | h) | rfl | h
    · exact u2 x (List.mem_of_mem_take h)
    · decide
    · exact b2 x h
    · decide
    · exact u2 x (List.mem_of_mem_drop h)
  · have hi2 : i + 1 ≤ u.length + (b.length + 2) := by rw [ins_len ha] at hi; omega
    have key : ∀ j, j ≤ (insL u b a).length → 0 ≤ dep ((insL u b a).take j) := by
      intro j hj
      rw [ins_len ha] at hj
      unfold insL
      rcases Nat.lt_or_ge j (a + 1) with h | h
      · rw [List.take_append_of_le_length (by rw [List.length_take]; omega), List.take_take, Nat.min_eq_left (by omega)]
        exact pre_ok u3 j (by omega)
      · have la : (u.take a).length = a := by rw [List.length_take]; omega
        rw [List.take_append, List.take_of_length_le (l := u.take a) (i := j) (by omega), la, dep_app]
        have p := pre_ok u3 a ha
        obtain ⟨t, rfl⟩ : ∃ t, j = a + 1 + t := ⟨j - (a + 1), by omega⟩
        rw [show a + 1 + t - a = t + 1 by omega, List.cons_append, List.take_succ_cons, dep_cons]
        have d1 : dlt ⟨91, []⟩ = 1 := rfl
        rcases Nat.lt_or_ge t (b.length + 1) with h2 | h2
        · rw [List.take_append_of_le_length (by omega)]
          have := pre_ok b3 t (by omega)
          omega
        · rw [List.take_append, List.take_of_length_le (l := b) (i := t) (by omega), dep_app, b4]
          obtain ⟨s, rfl⟩ : ∃ s, t = b.length + 1 + s := ⟨t - (b.length + 1), by omega⟩
          rw [show b.length + 1 + s - b.length = s + 1 by omega, List.take_succ_cons, dep_cons]
          have d2 : dlt ⟨93, []⟩ = -1 := rfl
          have e : dep (u.take a) + dep ((u.drop a).take s) = dep (u.take (a + s)) := by
            rw [← dep_app, List.take_add]
          have := pre_ok u3 (a + s) (by omega)
          omega
    exact key (i + 1) (by omega)
  · unfold insL
    rw [dep_app, List.cons_append, dep_cons, dep_app, dep_cons, b4]
    have d1 : dlt ⟨91, []⟩ = 1 := rfl
    have d2 : dlt ⟨93, []⟩ = -1 := rfl
    omega
end
end CM
end Go.Proofs.YtcoljbcjnggagaaGreatDoor
namespace Go.Proofs.YtcoljbcjnggagaaGreatDoor
open Go.RowKit
open WM RM CM
set_option linter.unusedVariables false
set_option linter.unusedSimpArgs false

theorem has_at {s : Bs} {c : UInt8} {k : Nat} (hk : k < s.length) (h : (s[k] == c) = true) : hasB s c = true := by
  unfold hasB; rw [List.any_eq_true]; exact ⟨_, List.getElem_mem hk, h⟩
theorem has_no {s : Bs} {c : UInt8} (h : ∀ k, (hk : k < s.length) → (s[k] == c) = false) : hasB s c = false := by
  unfold hasB; rw [List.any_eq_false]
  intro x hx
  obtain ⟨k, hk, rfl⟩ := List.mem_iff_getElem.1 hx
  rw [h k hk]; simp
set_option maxHeartbeats 800000 in
theorem refhas_any (s : ByteArray) (hs : s.size ≤ 9223372036854775807) (c : UInt8) (w : World) : Calls Tryz.prog 22 #[.string s, .int .u8 c.toNat] w fun e w' => e = .returned (.bool (hasB (lA s) c)) ∧ w = w' := by
  have hc := c.toNat_lt
  go_enter Tryz.func22, Tryz.ntmps22
  go_wp2_with fail
  go_loop [5] (fun i => ∃ k : Nat, k ≤ s.size ∧ i = .int .i64 k ∧ ∀ j, (hj : j < s.size) → j < k → (s[j]'hj == c) = false) (fun i => s.size - (intOf i).toNat)
  case atStart => exact ⟨0, Nat.zero_le _, rfl, fun j _ h => by omega⟩
  case round =>
    obtain ⟨k, hk, rfl, hno⟩ := hrel
    have HN := Lib.hid hno
    clear hno
    by_cases hlt : k < s.size
    · obtain ⟨b, hb⟩ : ∃ b, s[k]'hlt = b := ⟨_, rfl⟩
      cases he : (b == c) with
      | true =>
        have HL : Hid (hasB (lA s) c = true) := Lib.hid (has_at (s := lA s) (k := k) (by rw [lA_len]; exact hlt) (by rw [lA_get s k hlt, hb]; exact he))
        have e1 : ((s[k].toNat : Int) == (c.toNat : Int)) = true := by rw [u8_eq, hb]; exact he
        clear he hb
        go_wp2_with fail
        go_ret
        exact ⟨ret_bool HL.out.symm, rfl⟩
      | false =>
        have e1 : ((s[k].toNat : Int) == (c.toNat : Int)) = false := by rw [u8_eq, hb]; exact he
        have HG : Hid (∀ j, (hj : j < s.size) → j < k + 1 → (s[j]'hj == c) = false) := Lib.hid (fun j hj h => by
          rcases Nat.lt_or_eq_of_le (Nat.le_of_lt_succ h) with h1 | h1
          · exact HN.out j hj h1
          · subst h1; rw [hb]; exact he)
        clear he hb
        go_wp2_with fail
        go_round
        case rel => exact ⟨k + 1, by omega, by go_num, HG.out⟩
        case measure => simp [intOf]; omega
    · obtain rfl : k = s.size := by omega
      have HL : Hid (hasB (lA s) c = false) := Lib.hid (has_no fun j hj => by
        have hj2 : j < s.size := by rw [lA_len] at hj; exact hj
        rw [lA_get s j hj2]; exact HN.out j hj2 hj2)
      clear HN
      go_wp2_with fail
      go_ret
      exact ⟨ret_bool HL.out.symm, rfl⟩
theorem pln_eq (c : UInt8) : plnB c = (letB c && (((c.toNat : Int) != 91) && ((c.toNat : Int) != 93))) := by
  unfold plnB braB
  rw [show (91 : Int) = ((91 : UInt8).toNat : Int) from rfl, show (93 : Int) = ((93 : UInt8).toNat : Int) from rfl, bne, bne, u8_eq, u8_eq, Bool.not_or]
set_option maxHeartbeats 800000 in
theorem refplain_any (c : UInt8) (w : World) : Calls Tryz.prog 73 #[.int .u8 c.toNat] w fun e w' => e = .returned (.bool (plnB c)) ∧ w = w' := by
  have hc := c.toNat_lt
  have KL := Lib.hid (fun w => letter_any c w)
  have HP := Lib.hid (pln_eq c)
  obtain ⟨x, hx⟩ : ∃ x : Int, (c.toNat : Int) = x := ⟨_, rfl⟩
  rw [hx] at KL HP ⊢
  clear hx hc
  cases hl : letB c with
  | false =>
    rw [hl] at KL HP
    clear hl
    go_enter Tryz.func73, Tryz.ntmps73
    go_wp2_with fail
    refine (KL.out _).mono ?_
    rintro e w2 ⟨rfl, rfl⟩
    go_wp2_with fail
    go_ret
    exact ⟨ret_bool (by rw [HP.out]; rfl), rfl⟩
  | true =>
    rw [hl] at KL HP
    clear hl
    cases t1 : (x != 91) with
    | false =>
      rw [t1] at HP
      go_enter Tryz.func73, Tryz.ntmps73
      go_wp2_with fail
      refine (KL.out _).mono ?_
      rintro e w2 ⟨rfl, rfl⟩
      go_wp2_with fail
      go_ret
      exact ⟨ret_bool (by rw [HP.out]; rfl), rfl⟩
    | true =>
      rw [t1, Bool.true_and, Bool.true_and] at HP
      go_enter Tryz.func73, Tryz.ntmps73
      go_wp2_with fail
      refine (KL.out _).mono ?_
      rintro e w2 ⟨rfl, rfl⟩
      go_wp2_with fail
      go_ret
      exact ⟨ret_bool (by rw [HP.out]), rfl⟩
theorem ign_len {s : Bs} (h : 20 < s.length) : ignB s = false := by
  unfold ignB
  rw [decide_eq_false (by omega)]; rfl
theorem ignU_bad {s : Bs} {k : Nat} (hk : k < s.length) (h : plnB s[k] = false ∨ hasB (s.take k) s[k] = true) : ignB s = false := by
  have e : ignU s (k + 1) = false := by
    rw [ignU_succ, show s.getD k 0 = s[k] by simp [List.getD, hk]]
    rcases h with h | h <;> (rw [h]; simp)
  have : ignU s s.length = false := by
    cases hh : ignU s s.length
    · rfl
    · rw [ignU_mono (j := k + 1) (by omega) hh] at e; simp at e
  unfold ignB
  rw [this]; simp
theorem ignU_good {s : Bs} {k : Nat} (hk : k < s.length) (h0 : ignU s k = true) (h1 : plnB s[k] = true) (h2 : hasB (s.take k) s[k] = false) : ignU s (k + 1) = true := by
  rw [ignU_succ, show s.getD k 0 = s[k] by simp [List.getD, hk], h0, h1, h2]; rfl
theorem lA_take (s : ByteArray) (k : Nat) : lA (s.extract 0 k) = (lA s).take k := by
  unfold lA
  simp [ByteArray.data_extract]
set_option maxHeartbeats 1600000 in
theorem refignored_any (s : ByteArray) (hs : s.size ≤ 9223372036854775807) (w : World) : Calls Tryz.prog 74 #[.string s] w fun e w' => e = .returned (.bool (ignB (lA s))) ∧ Below w.heap.size w w' := by
  have KH : Hid (∀ (t : ByteArray) (_ : t.size ≤ s.size) (c : UInt8) (w : World), Calls Tryz.prog 22 #[.string t, .int .u8 c.toNat] w fun e w' => e = .returned (.bool (hasB (lA t) c)) ∧ w' = w) := Lib.hid (fun t ht c w => (refhas_any t (by omega) c w).mono (fun _ _ h => ⟨h.1, h.2.symm⟩))
  have KP : Hid (∀ (c : UInt8) (w : World), Calls Tryz.prog 73 #[.int .u8 c.toNat] w fun e w' => e = .returned (.bool (plnB c)) ∧ w' = w) := Lib.hid (fun c w => (refplain_any c w).mono (fun _ _ h => ⟨h.1, h.2.symm⟩))
  have HSz := Lib.hid (lA_len s)
  go_enter Tryz.func74, Tryz.ntmps74
  go_wp2_with fail
  go_loopw [3] (fun i wr => ∃ k : Nat, k ≤ s.size ∧ i = .int .i64 k ∧ Below w.heap.size w wr ∧ ignU (lA s) k = true) (fun i _ => s.size - (intOf i).toNat)
  case atStart => exact ⟨0, Nat.zero_le _, rfl, Below.refl _ _, ignU_zero _⟩
  case round =>
    obtain ⟨k, hk, rfl, hb0, hok⟩ := hrel
    have HK := Lib.hid hok
    have HB := Lib.hid hb0
    clear hok hb0
    by_cases hlt : k < s.size
    · have hl2 : k < (lA s).length := by rw [HSz.out]; exact hlt
      have HG := Lib.hid (lA_get s k hlt hl2)
      obtain ⟨b, hb⟩ : ∃ b, s[k]'hlt = b := ⟨_, rfl⟩
      rw [hb] at HG
      cases hp : plnB b with
      | false =>
        have KP1 : Hid (∀ w, Calls Tryz.prog 73 #[.int .u8 (s[k]'hlt).toNat] w fun e w' => e = .returned (.bool false) ∧ w' = w) := Lib.hid (fun w => by have := KP.out b w; rw [hp] at this; rw [hb]; exact this)
        have HF : Hid (ignB (lA s) = false) := Lib.hid (ignU_bad hl2 (.inl (by rw [HG.out]; exact hp)))
        clear hp hb
        go_wp2_with fail
        go_quiet ((go_at_call 73; exact Calls.quiet_of_same (KP1.out _)))
        go_wp2_with fail
        go_ret
        exact ⟨ret_bool HF.out.symm, below_drewN HB.out _⟩
      | true =>
        have KP1 : Hid (∀ w, Calls Tryz.prog 73 #[.int .u8 (s[k]'hlt).toNat] w fun e w' => e = .returned (.bool true) ∧ w' = w) := Lib.hid (fun w => by have := KP.out b w; rw [hp] at this; rw [hb]; exact this)
        have KH1 := Lib.hid (fun w => KH.out (s.extract 0 k) (by rw [ByteArray.size_extract]; omega) b w)
        rw [lA_take] at KH1
        cases hh : hasB ((lA s).take k) b with
        | true =>
          have KH2 : Hid (∀ w, Calls Tryz.prog 22 #[.string (s.extract 0 k), .int .u8 (s[k]'hlt).toNat] w fun e w' => e = .returned (.bool true) ∧ w' = w) := Lib.hid (fun w => by have := KH1.out w; rw [hh] at this; rw [hb]; exact this)
          have HF : Hid (ignB (lA s) = false) := Lib.hid (ignU_bad hl2 (.inr (by rw [HG.out]; exact hh)))
          clear hp hb hh KH1
          go_wp2_with fail
          go_quiet (first | (go_at_call 73; exact Calls.quiet_of_same (KP1.out _)) | (go_at_call 22; exact Calls.quiet_of_same (KH2.out _)))
          go_wp2_with fail
          go_ret
          exact ⟨ret_bool HF.out.symm, below_drewN HB.out _⟩
        | false =>
          have KH2 : Hid (∀ w, Calls Tryz.prog 22 #[.string (s.extract 0 k), .int .u8 (s[k]'hlt).toNat] w fun e w' => e = .returned (.bool false) ∧ w' = w) := Lib.hid (fun w => by have := KH1.out w; rw [hh] at this; rw [hb]; exact this)
          have HF : Hid (ignU (lA s) (k + 1) = true) := Lib.hid (ignU_good hl2 HK.out (by rw [HG.out]; exact hp) (by rw [HG.out]; exact hh))
          clear hp hb hh KH1
          go_wp2_with fail
          go_quiet (first | (go_at_call 73; exact Calls.quiet_of_same (KP1.out _)) | (go_at_call 22; exact Calls.quiet_of_same (KH2.out _)))
          go_wp2_with fail
          go_roundw
          case rel => exact ⟨k + 1, by omega, by go_num, below_drewN HB.out _, HF.out⟩
          case measure => simp [intOf]; omega
    · obtain rfl : k = s.size := by omega
      have HE : Hid (ignB (lA s) = decide ((s.size : Int) ≤ 20)) := Lib.hid (by
        unfold ignB
        rw [HSz.out, HK.out, Bool.and_true]
        congr 1
        rw [eq_iff_iff]; omega)
      by_cases h20 : (s.size : Int) ≤ 20
      · rw [decide_eq_true h20] at HE
        go_wp2_with fail
        go_ret
        exact ⟨ret_bool HE.out.symm, HB.out⟩
      · rw [decide_eq_false h20] at HE
        go_wp2_with fail
        go_ret
        exact ⟨ret_bool HE.out.symm, HB.out⟩
end Go.Proofs.YtcoljbcjnggagaaGreatDoor
namespace Go.Proofs.YtcoljbcjnggagaaGreatDoor
open Go.RowKit
open WM RM
set_option linter.unusedVariables false
set_option linter.unusedSimpArgs false

set_option maxHeartbeats 800000 in
theorem within_any (n m : Int) (hm : 0 ≤ m ∧ m ≤ 1000000000) (w : World) :
    Calls Tryz.prog 122 #[.int .i64 n, .int .i64 m] w fun e w' => e = .returned (.bool (decide (-m ≤ n) && decide (n ≤ m))) ∧ w = w' := by
  have hw : wrap64 (-m) = -m := by unfold wrap64; omega
  by_cases h1 : -m ≤ n
  · by_cases h2 : n ≤ m
    · go_enter Tryz.func122, Tryz.ntmps122
      go_wp2_with fail
      go_ret
      exact ⟨ret_bool (by simp [h1, h2]), rfl⟩
    · go_enter Tryz.func122, Tryz.ntmps122
      go_wp2_with fail
      go_ret
      exact ⟨ret_bool (by simp [h1, h2]), rfl⟩
  · go_enter Tryz.func122, Tryz.ntmps122
    go_wp2_with fail
    go_ret
    exact ⟨ret_bool (by simp; omega), rfl⟩
theorem within_coef (n : Int) (w : World) : Calls Tryz.prog 122 #[.int .i64 n, .int .i64 1000000] w fun e w' => e = .returned (.bool (coefB n)) ∧ w = w' := within_any n 1000000 (by decide) w
theorem within_arg (n : Int) (w : World) : Calls Tryz.prog 122 #[.int .i64 n, .int .i64 1000000000] w fun e w' => e = .returned (.bool (decide (-1000000000 ≤ n) && decide (n ≤ 1000000000))) ∧ w = w' := within_any n 1000000000 (by decide) w
set_option maxRecDepth 100000 in
set_option maxHeartbeats 1600000 in
theorem formed_any (f : Fm) (v : Value) (n : Int) (hm : f.cs.length ≤ 9223372036854775807) (w : World) (hv : Ints w v f.cs) :
    Calls Tryz.prog 102 #[.agg #[.int .i64 f.k, v], .int .i64 n] w fun e w' => e = .returned (.bool (formB f n)) ∧ Below w.heap.size w w' := by
  obtain ⟨p, cap, rfl⟩ := hv.slice
  obtain ⟨W0, hW0⟩ : ∃ W, W = w.alloc (.cells #[.int .i64 f.k, .slice p f.cs.length cap] 111) := ⟨_, rfl⟩
  have N0 : W0.heap[w.heap.size]? = some (.cells #[.int .i64 f.k, .slice p f.cs.length cap] 111 (0, 0)) := by rw [hW0]; exact heap_alloc_new _ _
  have B0 : Below w.heap.size w W0 := by rw [hW0]; exact (Below.refl _ _).alloc (Nat.le_refl _) _
  have HB := Lib.hid B0
  have HV0 := Lib.hid (hv.later B0)
  have q0 := cell_two0 N0
  have q1 := cell_two1 N0
  have l1 := lt_of_block N0
  have KW := Lib.hid within_coef
  clear N0 B0 hv
  by_cases h3 : (f.cs.length : Int) = n
  · have t3 : ((f.cs.length : Int) != n) = false := by rw [h3]; simp
    have HN := Lib.hid h3
    cases hk : coefB f.k with
    | false =>
      have HF := Lib.hid (form_k (n := n) hk)
      have K1 := Lib.hid (KW.out f.k)
      rw [hk] at K1
      clear h3 hk
      go_enter Tryz.func102, Tryz.ntmps102
      go_wp2_with fail
      rw [← hW0]
      clear hW0
      go_wp2_with fail
      refine (K1.out _).mono ?_
      rintro e w1 ⟨rfl, rfl⟩
      go_wp2_with fail
      go_ret
      exact ⟨ret_bool HF.out.symm, HB.out⟩
    | true =>
      have HK := Lib.hid hk
      have K1 := Lib.hid (KW.out f.k)
      rw [hk] at K1
      clear h3 hk
      go_enter Tryz.func102, Tryz.ntmps102
      go_wp2_with fail
      rw [← hW0]
      clear hW0
      go_wp2_with fail
      refine (K1.out _).mono ?_
      rintro e w1 ⟨rfl, rfl⟩
      go_wp2_with fail
      go_loopw [21] (fun i wr => ∃ k : Nat, k ≤ f.cs.length ∧ i = .int .i64 k ∧ wr = W0 ∧ ∀ j, (h : j < f.cs.length) → j < k → coefB f.cs[j] = true) (fun i _ => f.cs.length - (intOf i).toNat)
      case atStart => exact ⟨0, Nat.zero_le _, rfl, rfl, fun j _ h => by omega⟩
      case round =>
        obtain ⟨k, hk, rfl, rfl, hok⟩ := hrel
        have HO := Lib.hid hok
        clear hok
        by_cases hlt : k < f.cs.length
        · obtain ⟨b, off, cap', hp, e1, lb⟩ := HV0.out.at hlt
          obtain rfl : p = some ⟨b, off, none⟩ := by cases hp; rfl
          have k1 : (k : Int) < (f.cs.length : Int) := by omega
          have K2 := Lib.hid (KW.out f.cs[k])
          obtain ⟨t, ht⟩ : ∃ t, coefB f.cs[k] = t := ⟨_, rfl⟩
          have HT := Lib.hid ht
          rw [ht] at K2
          clear hp ht
          generalize f.cs[k] = x at e1 K2
          cases t with
          | false =>
            have HF := Lib.hid (form_bad (n := n) hlt HT.out)
            go_wp2_with fail
            refine (K2.out _).mono ?_
            rintro e w1 ⟨rfl, rfl⟩
            go_wp2_with fail
            go_ret
            exact ⟨ret_bool HF.out.symm, HB.out⟩
          | true =>
            have HG : Hid (∀ j, (h : j < f.cs.length) → j < k + 1 → coefB f.cs[j] = true) := Lib.hid (fun j h hj => by
              rcases Nat.lt_or_eq_of_le (Nat.le_of_lt_succ hj) with h6 | h6
              · exact HO.out j h h6
              · subst h6; exact HT.out)
            go_wp2_with fail
            refine (K2.out _).mono ?_
            rintro e w1 ⟨rfl, rfl⟩
            go_wp2_with fail
            go_roundw
            case rel => exact ⟨k + 1, by omega, by go_num, (by first | trivial | rfl), HG.out⟩
            case measure => simp [intOf]; omega
        · obtain rfl : k = f.cs.length := by omega
          have HF := Lib.hid (form_ok HK.out HN.out (fun i hi => HO.out i hi hi))
          go_wp2_with fail
          go_ret
          exact ⟨ret_bool HF.out.symm, HB.out⟩
  · have HF := Lib.hid (form_len h3)
    have t3 : ((f.cs.length : Int) != n) = true := by rw [bne_iff_ne]; exact h3
    go_enter Tryz.func102, Tryz.ntmps102
    go_wp2_with fail
    rw [← hW0]
    clear hW0
    go_wp2_with fail
    go_ret
    exact ⟨ret_bool HF.out.symm, HB.out⟩
/-- Of a form that is valid for the args, which are in range. -/
theorem total_any (f : Fm) (x : List Int) (v u : Value) (hf : formB f (x.length : Int) = true) (hl : x.length ≤ 4) (hx : ∀ y ∈ x, -1000000000 ≤ y ∧ y ≤ 1000000000) (w : World) (hv : Ints w v f.cs) (hu : Ints w u x) :
    Calls Tryz.prog 78 #[.agg #[.int .i64 f.k, v], u] w fun e w' => e = .returned (.int .i64 (worth f x)) ∧ Below w.heap.size w w' := by
  obtain ⟨f1, f2, f3⟩ := form_iff hf
  have hlen : f.cs.length = x.length := by omega
  obtain ⟨p, cap, rfl⟩ := hv.slice
  obtain ⟨p2, cap2, rfl⟩ := hu.slice
  obtain ⟨W0, hW0⟩ : ∃ W, W = w.alloc (.cells #[.int .i64 f.k, .slice p f.cs.length cap] 111) := ⟨_, rfl⟩
  have N0 : W0.heap[w.heap.size]? = some (.cells #[.int .i64 f.k, .slice p f.cs.length cap] 111 (0, 0)) := by rw [hW0]; exact heap_alloc_new _ _
  have B0 : Below w.heap.size w W0 := by rw [hW0]; exact (Below.refl _ _).alloc (Nat.le_refl _) _
  have HB := Lib.hid B0
  have HV0 := Lib.hid (hv.later B0)
  have HU0 := Lib.hid (hu.later B0)
  have q0 := cell_two0 N0
  have q1 := cell_two1 N0
  have l1 := lt_of_block N0
  have HR := Lib.hid (wor_rng hlen f1 f3 hx)
  have HS : Hid (∀ k, (h : k < x.length) → wor f.k (f.cs.take (k + 1)) (x.take (k + 1)) = wor f.k (f.cs.take k) (x.take k) + f.cs[k]'(hlen.symm ▸ h) * x[k]) := Lib.hid (fun k h => wor_take hlen h)
  have HM : Hid (∀ k, (h : k < x.length) → -1000000000000000 ≤ f.cs[k]'(hlen.symm ▸ h) * x[k] ∧ f.cs[k]'(hlen.symm ▸ h) * x[k] ≤ 1000000000000000) := Lib.hid (fun k h => mul_rng (coefB_iff.1 (List.all_eq_true.1 f3 _ (List.getElem_mem (show k < f.cs.length by omega)))) (hx _ (List.getElem_mem h)))
  have HE : Hid (wor f.k (f.cs.take x.length) (x.take x.length) = worth f x) := Lib.hid (by rw [← hlen, List.take_length, hlen, List.take_length]; rfl)
  have H0 : Hid (wor f.k (f.cs.take 0) (x.take 0) = f.k) := Lib.hid (by simp [wor])
  rw [hlen] at q1
  rw [hlen] at hW0
  rw [hlen]
  clear N0 B0 hv hu hf hx f1 f2 f3
  go_enter Tryz.func78, Tryz.ntmps78
  go_wp2_with fail
  rw [← hW0]
  clear hW0
  go_wp2_with fail
  go_loopw [5, 13] (fun m i wr => ∃ k : Nat, k ≤ x.length ∧ i = .int .i64 k ∧ m = .int .i64 (wor f.k (f.cs.take k) (x.take k)) ∧ wr = W0) (fun _ i _ => x.length - (intOf i).toNat)
  case atStart => exact ⟨0, Nat.zero_le _, rfl, by rw [H0.out], rfl⟩
  case round =>
    obtain ⟨k, hk, rfl, rfl, rfl⟩ := hrel
    have hr := HR.out k hk
    by_cases hlt : k < x.length
    · obtain ⟨b, off, cap', hp, e1, lb⟩ := HV0.out.at (k := k) (by omega)
      obtain rfl : p = some ⟨b, off, none⟩ := by cases hp; rfl
      obtain ⟨b2, off2, cap3, hp2, e2, lb2⟩ := HU0.out.at hlt
      obtain rfl : p2 = some ⟨b2, off2, none⟩ := by cases hp2; rfl
      have k1 : (k : Int) < (x.length : Int) := by omega
      have HS1 := Lib.hid (HS.out k hlt)
      have hm := HM.out k hlt
      clear hp hp2
      obtain ⟨m, hmm⟩ : ∃ m, wor f.k (f.cs.take k) (x.take k) = m := ⟨_, rfl⟩
      rw [hmm] at HS1 hr ⊢
      obtain ⟨c, hc⟩ : ∃ c, f.cs[k]'(hlen.symm ▸ hlt) = c := ⟨_, rfl⟩
      rw [hc] at HS1 hm e1
      obtain ⟨y, hy⟩ : ∃ y, x[k] = y := ⟨_, rfl⟩
      rw [hy] at HS1 hm e2
      obtain ⟨z, hz⟩ : ∃ z, c * y = z := ⟨_, rfl⟩
      have hz1 : -1000000000000000 ≤ z ∧ z ≤ 1000000000000000 := by rw [← hz]; exact hm
      rw [hz] at HS1
      have hrr : -5000000001000000 ≤ m ∧ m ≤ 5000000001000000 := by
        have : (k : Int) ≤ 4 := by omega
        omega
      clear hmm hc hy hm hr
      go_wp2_with fail
      go_roundw
      case rel => exact ⟨k + 1, by omega, by go_num, by rw [HS1.out], (by first | trivial | rfl)⟩
      case measure => simp [intOf]; omega
    · obtain rfl : k = x.length := by omega
      rw [HE.out]
      go_wp2_with fail
      go_ret
      exact ⟨rfl, HB.out⟩
theorem all_no {fs : List Fm} {n : Int} {k : Nat} (hk : k < fs.length) (h : formB fs[k] n = false) : fs.all (formB · n) = false := by
  rw [List.all_eq_false]; exact ⟨_, List.getElem_mem hk, by rw [h]; simp⟩
theorem all_yes {fs : List Fm} {n : Int} (h : ∀ k, (hk : k < fs.length) → formB fs[k] n = true) : fs.all (formB · n) = true := by
  rw [List.all_eq_true]
  intro x hx
  obtain ⟨j, hj, rfl⟩ := List.mem_iff_getElem.1 hx
  exact h j hj
set_option maxRecDepth 100000 in
set_option maxHeartbeats 1600000 in
theorem allformed_any (fs : List Fm) (v : Value) (n : Int) (hm : fs.length ≤ 9223372036854775807) (hms : ∀ f ∈ fs, f.cs.length ≤ 9223372036854775807) (w : World) (hv : Fms w v fs) :
    Calls Tryz.prog 89 #[v, .int .i64 n] w fun e w' => e = .returned (.bool (fs.all (formB · n))) ∧ Below w.heap.size w w' := by
  obtain ⟨p, cap, rfl⟩ := hv.slice
  have HV := Lib.hid hv
  have HA := Lib.hid hms
  clear hv hms
  go_enter Tryz.func89, Tryz.ntmps89
  go_wp2_with fail
  go_loopw [9] (fun i wr => ∃ k : Nat, k ≤ fs.length ∧ i = .int .i64 k ∧ Below w.heap.size w wr ∧ ∀ j, (h : j < fs.length) → j < k → formB fs[j] n = true) (fun i _ => fs.length - (intOf i).toNat)
  case atStart => exact ⟨0, Nat.zero_le _, rfl, Below.refl _ _, fun j _ h => by omega⟩
  case round =>
    obtain ⟨k, hk, rfl, hb, hok⟩ := hrel
    have HK := Lib.hid hok
    have HB := Lib.hid hb
    clear hok hb
    by_cases hlt : k < fs.length
    · obtain ⟨b, off, cap', q, c, hp, e1, e2, hin, lb⟩ := (HV.out.later (HB.out.mono (Nat.le_refl _))).at hlt
      obtain rfl : p = some ⟨b, off, none⟩ := by cases hp; rfl
      have k1 : (k : Int) < (fs.length : Int) := by omega
      have HI := Lib.hid hin
      have KF := Lib.hid (fun (w : World) (h : Ints w (.slice q fs[k].cs.length c) fs[k].cs) => formed_any fs[k] (.slice q fs[k].cs.length c) n (HA.out _ (List.getElem_mem hlt)) w h)
      obtain ⟨t, ht⟩ : ∃ t, formB fs[k] n = t := ⟨_, rfl⟩
      have HT := Lib.hid ht
      rw [ht] at KF
      generalize fs[k].k = fk at e1 KF
      generalize fs[k].cs.length = fl at e2 KF HI
      obtain ⟨W1, hW1⟩ : ∃ W, W = wr.alloc (.cells #[.int .i64 fk, .slice q fl c] 111) := ⟨_, rfl⟩
      have N1 : W1.heap[wr.heap.size]? = some (.cells #[.int .i64 fk, .slice q fl c] 111 (0, 0)) := by rw [hW1]; exact heap_alloc_new _ _
      have b1 : Below wr.heap.size wr W1 := by rw [hW1]; exact (Below.refl _ _).alloc (Nat.le_refl _) _
      have B1 := Lib.hid b1
      have q0 := cell_two0 N1
      have q1 := cell_two1 N1
      clear hp hin ht N1 b1
      cases t with
      | false =>
        have HF := Lib.hid (all_no hlt HT.out)
        go_wp2_with fail
        rw [← hW1]
        clear hW1
        go_wp2_with fail
        refine (KF.out _ (HI.out.later B1.out)).mono ?_
        rintro e w1 ⟨rfl, hb⟩
        have HB1 := Lib.hid (HB.out.trans ((B1.out.trans (hb.mono B1.out.size)).mono HB.out.size))
        clear hb
        go_wp2_with fail
        go_ret
        exact ⟨ret_bool HF.out.symm, HB1.out⟩
      | true =>
        have HG : Hid (∀ j, (h : j < fs.length) → j < k + 1 → formB fs[j] n = true) := Lib.hid (fun j h hj => by
          rcases Nat.lt_or_eq_of_le (Nat.le_of_lt_succ hj) with h1 | h1
          · exact HK.out j h h1
          · subst h1; exact HT.out)
        go_wp2_with fail
        rw [← hW1]
        clear hW1
        go_wp2_with fail
        refine (KF.out _ (HI.out.later B1.out)).mono ?_
        rintro e w1 ⟨rfl, hb⟩
        have HB1 := Lib.hid (HB.out.trans ((B1.out.trans (hb.mono B1.out.size)).mono HB.out.size))
        clear hb
        go_wp2_with fail
        go_roundw
        case rel => exact ⟨k + 1, by omega, by go_num, HB1.out, HG.out⟩
        case measure => simp [intOf]; omega
    · obtain rfl : k = fs.length := by omega
      have HF := Lib.hid (all_yes (fun i hi => HK.out i hi hi))
      go_wp2_with fail
      go_ret
      exact ⟨ret_bool HF.out.symm, HB.out⟩
end Go.Proofs.YtcoljbcjnggagaaGreatDoor
