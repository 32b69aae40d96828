/-
  What the package's Parse hands back.
-/
import Derived.Test.YtjjjopopalcokaaDoorWordLsB
import Derived.Test.YtjjjopopalcokaaDoorWordTxB
namespace Go.Proofs.YtjjjopopalcokaaDoor
open Go.RowKit
open WM
set_option linter.unusedVariables false
set_option linter.unusedSimpArgs false

theorem looseM_len : ∀ (n : Nat) (s : Bs), s.length ≤ n → (looseM s).length ≤ s.length ∧ ∀ m ∈ looseM s, m.a.length ≤ s.length + 1 := by
  intro n
  induction n with
  | zero =>
    intro s hs
    have : s = [] := List.length_eq_zero_iff.1 (by omega)
    subst this; rw [looseM_nil]; simp
  | succ n ih =>
    intro s hs
    cases s with
    | nil => rw [looseM_nil]; simp
    | cons c t =>
      simp at hs
      by_cases h : t.head? = some 40
      · rw [looseM_arg h]
        have h1 := cut_rest t.tail 41
        have h2 := cut_len t.tail 41
        have h3 : t.tail.length ≤ t.length := by simp
        obtain ⟨i1, i2⟩ := ih (Lib.cut t.tail [41]).2.1 (by omega)
        refine ⟨by simp; omega, fun m hm => ?_⟩
        rcases List.mem_cons.1 hm with e | e
        · subst e
          have h4 := pcs_len (Lib.cut t.tail [41]).1
          show (looseA (Lib.cut t.tail [41]).1).length ≤ _
          rw [looseA_length]; simp; omega
        · have := i2 m e; simp; omega
      · rw [looseM_bare h]
        obtain ⟨i1, i2⟩ := ih t (by omega)
        refine ⟨by simp; omega, fun m hm => ?_⟩
        rcases List.mem_cons.1 hm with e | e
        · subst e; simp
        · have := i2 m e; simp; omega
/-- Parse's error and word. -/
def pC (s : Bs) : Int := if 50000 < s.length then 12 else if (prs s).isSome = true then 0 else 12
def pL (s : Bs) : List Md := if 50000 < s.length then [] else (prs s).getD []
theorem pC_long {s : Bs} (h : 50000 < s.length) : pC s = 12 ∧ pL s = [] := by
  unfold pC pL; rw [if_pos h, if_pos h]; exact ⟨rfl, rfl⟩
theorem pC_none {s : Bs} (h : ¬ 50000 < s.length) (h2 : prs s = none) : pC s = 12 ∧ pL s = [] := by
  unfold pC pL; rw [if_neg h, if_neg h, h2]; exact ⟨rfl, rfl⟩
theorem pC_some {s : Bs} {w : List Md} (h : ¬ 50000 < s.length) (h2 : prs s = some w) : pC s = 0 ∧ pL s = w := by
  unfold pC pL; rw [if_neg h, if_neg h, h2]; exact ⟨rfl, rfl⟩
theorem prs_loose {s : Bs} (h1 : tC (looseM s) = 0) (h2 : txt (looseM s) = s) : prs s = some (looseM s) := by
  refine prs_iff.2 ⟨?_, h2⟩
  by_cases h : chk (looseM s) = 0
  · exact h
  · rw [(tC_no h).1] at h1; exact absurd h1 h
theorem prs_not {s : Bs} (hs : ¬ 50000 < s.length) (h : tC (looseM s) ≠ 0 ∨ txt (looseM s) ≠ s) : prs s = none := by
  cases hp : prs s with
  | none => rfl
  | some w =>
    exfalso
    have e := loose_prs hp
    obtain ⟨h1, h2⟩ := prs_iff.1 hp
    rw [e] at h
    rcases h with h | h
    · rw [(tC_yes h1 (by rw [h2]; exact hs)).1] at h; exact h rfl
    · exact h h2
/-- How Parse ends. -/
def PsEnd (s : Bs) (w : World) (e : Ending) (w' : World) : Prop := ∃ v vs, e = .returned (.tuple #[v, .int .i64 (pC s)]) ∧ Below w.heap.size w w' ∧ ModFr w' w.heap.size v (pL s) vs
set_option maxRecDepth 100000 in
set_option maxHeartbeats 1600000 in
theorem pparse_any (s : ByteArray) (hs : s.size ≤ 9223372036854775807) (w : World) (he : Env w) :
    Calls Tryd.prog 14 #[.string s] w (PsEnd (lA s) w) := by
  by_cases hlong : 50000 < s.size
  · have hl : 50000 < (lA s).length := by rw [lA_len]; exact hlong
    have HE : Hid (PsEnd (lA s) w (.returned (.tuple #[.slice none 0 0, .int .i64 12])) w) := Lib.hid ⟨_, [], by rw [(pC_long hl).1], Below.refl _ _, by rw [(pC_long hl).2]; exact modFr_nil _ _⟩
    have c1 : (50000 : Int) < (s.size : Int) := by omega
    clear hl
    go_enter Tryd.func14, Tryd.ntmps14
    go_wp2_with fail
    go_ret2
    exact HE.out
  · have hl : ¬ 50000 < (lA s).length := by rw [lA_len]; exact hlong
    have c1 : ¬ (50000 : Int) < (s.size : Int) := by omega
    have KL := Lib.hid (loose_any s (by omega) w he)
    have HEn := Lib.hid he
    obtain ⟨b1, b2⟩ := looseM_len _ (lA s) (Nat.le_refl _)
    have KT := Lib.hid (fun v w hv he => ptext_any v (looseM (lA s)) (by omega) (fun m hm => by have := b2 m hm; omega) w hv he)
    have HNo : Hid (∀ w', Below w.heap.size w w' → (tC (looseM (lA s)) ≠ 0 ∨ txt (looseM (lA s)) ≠ lA s) → PsEnd (lA s) w (.returned (.tuple #[.slice none 0 0, .int .i64 12])) w') := Lib.hid (fun w' hb h => by
      have hp := prs_not hl h
      exact ⟨_, [], by rw [(pC_none hl hp).1], hb, by rw [(pC_none hl hp).2]; exact modFr_nil _ _⟩)
    have HYes : Hid (∀ w' v vs, Below w.heap.size w w' → tC (looseM (lA s)) = 0 → txt (looseM (lA s)) = lA s → ModFr w' w.heap.size v (looseM (lA s)) vs → PsEnd (lA s) w (.returned (.tuple #[v, .int .i64 0])) w') := Lib.hid (fun w' v vs hb h1 h2 hm => by
      have hp := prs_loose h1 h2
      exact ⟨v, vs, by rw [(pC_some hl hp).1], hb, by rw [(pC_some hl hp).2]; exact hm⟩)
    have HTS : Hid (tC (looseM (lA s)) = 0 → tS (looseM (lA s)) = txt (looseM (lA s))) := Lib.hid (fun h => by unfold tS; rw [if_pos h])
    clear he b1 b2 hl hlong
    generalize looseM (lA s) = L at KL KT HNo HYes HTS
    obtain ⟨x, hx⟩ : ∃ x, tC L = x := ⟨_, rfl⟩
    rw [hx] at KT HNo HYes HTS
    clear hx
    by_cases h0 : x = 0
    · subst h0
      rw [HTS.out rfl] at KT
      have HNo := Lib.hid (fun w' hb h => HNo.out w' hb (.inr h))
      have HYes := Lib.hid (fun w' v vs hb h hm => HYes.out w' v vs hb rfl h hm)
      by_cases ht : txt L = lA s
      · have hbt : bA (txt L) = s := by rw [ht]; rfl
        rw [hbt] at KT
        have HY := Lib.hid (fun w' v vs hb hm => HYes.out w' v vs hb ht hm)
        have hq : (!(s.toList == s.toList)) = false := by simp
        clear ht hbt HNo HYes
        go_enter Tryd.func14, Tryd.ntmps14
        go_wp2_with fail
        refine KL.out.mono ?_
        rintro e w1 ⟨v, vs, rfl, hb, hm⟩
        have B1 := Lib.hid hb
        have M1 := Lib.hid hm
        have HE1 := Lib.hid (HEn.out.later hb)
        clear hb hm
        go_wp2_with fail
        refine (KT.out _ _ M1.out.mods HE1.out).mono ?_
        rintro e w2 ⟨rfl, hb⟩
        have B2 := Lib.hid (B1.out.trans (hb.mono B1.out.size))
        have M2 := Lib.hid (M1.out.later hb)
        clear hb
        go_wp2_with fail
        go_ret2
        exact HY.out _ _ _ B2.out M2.out
      · have hq : (!((bA (txt L)).toList == s.toList)) = true := by
          have : (bA (txt L)).toList ≠ s.toList := fun e => by
            rw [ByteArray.toList_eq, ByteArray.toList_eq] at e
            apply ht
            have e2 : (bA (txt L)).data.toList = txt L := lA_bA _
            rw [← e2]; exact e
          simpa using this
        have HN := Lib.hid (fun w' hb => HNo.out w' hb ht)
        clear ht HNo HYes
        generalize bA (txt L) = S at KT hq
        go_enter Tryd.func14, Tryd.ntmps14
        go_wp2_with fail
        refine KL.out.mono ?_
        rintro e w1 ⟨v, vs, rfl, hb, hm⟩
        have B1 := Lib.hid hb
        have M1 := Lib.hid hm
        have HE1 := Lib.hid (HEn.out.later hb)
        clear hb hm
        go_wp2_with fail
        refine (KT.out _ _ M1.out.mods HE1.out).mono ?_
        rintro e w2 ⟨rfl, hb⟩
        have B2 := Lib.hid (B1.out.trans (hb.mono B1.out.size))
        clear hb
        go_wp2_with fail
        go_ret2
        exact HN.out _ B2.out
    · have h1 : (x != 0) = true := by rw [bne_iff_ne]; exact h0
      have HN := Lib.hid (fun w' hb => HNo.out w' hb (.inl h0))
      clear h0 HNo HYes HTS
      go_enter Tryd.func14, Tryd.ntmps14
      go_wp2_with fail
      refine KL.out.mono ?_
      rintro e w1 ⟨v, vs, rfl, hb, hm⟩
      have B1 := Lib.hid hb
      have M1 := Lib.hid hm
      have HE1 := Lib.hid (HEn.out.later hb)
      clear hb hm
      go_wp2_with fail
      refine (KT.out _ _ M1.out.mods HE1.out).mono ?_
      rintro e w2 ⟨rfl, hb⟩
      have B2 := Lib.hid (B1.out.trans (hb.mono B1.out.size))
      clear hb
      go_wp2_with fail
      go_ret2
      exact HN.out _ B2.out
end Go.Proofs.YtjjjopopalcokaaDoor
