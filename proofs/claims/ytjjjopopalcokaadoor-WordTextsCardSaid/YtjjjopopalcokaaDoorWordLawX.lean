/-
  The walk of WordTexts.
-/
import Derived.Test.YtjjjopopalcokaaDoorWordLawB
import Derived.Test.YtjjjopopalcokaaDoorWordRp
import Derived.Test.YtjjjopopalcokaaDoorWordText
import Derived.Test.YtjjjopopalcokaaDoorWordTrM
namespace Go.Proofs.YtjjjopopalcokaaDoor
open Go.RowKit
open WM
set_option linter.unusedVariables false
set_option linter.unusedSimpArgs false

theorem text_u (v : Value) (l : List Md) (hmax : l.length ≤ 2100) (hargs : ∀ m ∈ l, m.a.length ≤ 10) (w : World) (hv : Mods w v l) :
    Calls Tryd.prog 20 #[v] w fun e w' => e = .returned (.tuple #[.string (bA (tS l)), .int .i64 (tC l)]) ∧ Below w.heap.size w w' := by
  have fin : ∀ e w', TxEnd l w e w' → e = .returned (.tuple #[.string (bA (tS l)), .int .i64 (tC l)]) ∧ Below w.heap.size w w' := by
    rintro e w' ⟨hb, ⟨h0, rfl⟩ | ⟨h0, h1, rfl⟩ | ⟨h0, h1, rfl⟩⟩
    · rw [(tC_no h0).1, (tC_no h0).2]; exact ⟨rfl, hb⟩
    · rw [(tC_many h0 h1).1, (tC_many h0 h1).2]; exact ⟨rfl, hb⟩
    · rw [(tC_yes h0 h1).1, (tC_yes h0 h1).2]; exact ⟨rfl, hb⟩
  by_cases h0 : chk l = 0
  · exact (text_yes v l hargs h0 w hv).mono fin
  · exact (text_no v l hmax hargs h0 w hv).mono fin
theorem parse_u (s : ByteArray) (hs : s.size ≤ 60000) (w : World) :
    Calls Tryd.prog 21 #[.string s] w fun e w' => ∃ v, e = .returned (.tuple #[v, .int .i64 (pC (lA s))]) ∧ Below w.heap.size w w' ∧ Mods w' v (pL (lA s)) := by
  refine (rparse_any s hs w).mono ?_
  rintro e w' ⟨v, c, l, rfl, hb, hm, ⟨h1, rfl, rfl⟩ | ⟨h1, h2, rfl⟩⟩
  · refine ⟨v, ?_, hb, ?_⟩
    · by_cases hl : 50000 < (lA s).length
      · rw [(pC_long hl).1]
      · rw [(pC_none hl (h1.resolve_left hl)).1]
    · by_cases hl : 50000 < (lA s).length
      · rw [(pC_long hl).2]; exact hm
      · rw [(pC_none hl (h1.resolve_left hl)).2]; exact hm
  · exact ⟨v, by rw [(pC_some h1 h2).1], hb, by rw [(pC_some h1 h2).2]; exact hm⟩
theorem pL_small (L : Bs) : (pL L).length ≤ 2000 ∧ ∀ m ∈ pL L, m.a.length ≤ 4 := by
  unfold pL; split
  · simp
  · cases h : prs L with
    | none => simp
    | some l =>
      have h1 := (prs_iff.1 h).1
      refine ⟨(chk_zero.1 h1).1, fun m hm => ?_⟩
      have := chk_fine h1 m hm
      exact (fine_args this).1
set_option maxRecDepth 100000 in
set_option maxHeartbeats 1600000 in
theorem texts_walk (v : Value) (l : List Md) (hmax : l.length ≤ 9223372036854775807) (hargs : ∀ m ∈ l, m.a.length ≤ 9223372036854775807) (s : ByteArray) (hs : s.size ≤ 9223372036854775807) (w : World) (hv : Mods w v l) (he : Env w) :
    Calls Tryd.prog 4 #[v, .string s] w fun e w' => e = .returned (.bool true) ∧ Below w.heap.size w w' := by
  have KG := Lib.hid (great_any v l hmax w hv hargs)
  have HE := Lib.hid he
  have HV := Lib.hid hv
  cases hg : greatB l with
  | true =>
    rw [hg] at KG
    clear hv he hargs hg
    go_enter Tryd.func4, Tryd.ntmps4
    go_wp2_with fail
    refine KG.out.mono ?_
    rintro e wx ⟨rfl, rfl⟩
    go_wp2_with fail
    go_ret
    exact ⟨rfl, Below.refl _ _⟩
  | false =>
    obtain ⟨la, laa⟩ := great_no hg
    rw [hg] at KG
    by_cases hlong : 60000 < s.size
    · have c1 : (60000 : Int) < (s.size : Int) := by omega
      clear hv he hargs hg laa
      go_enter Tryd.func4, Tryd.ntmps4
      go_wp2_with fail
      refine KG.out.mono ?_
      rintro e wx ⟨rfl, rfl⟩
      go_wp2_with fail
      go_ret
      exact ⟨rfl, Below.refl _ _⟩
    · have c1 : ¬ (60000 : Int) < (s.size : Int) := by omega
      have K1 := Lib.hid (fun w hv he => ptext_any v l hmax hargs w hv he)
      have K2 := Lib.hid (fun w hv => text_u v l la laa w hv)
      have K3 := Lib.hid (fun w he => pparse_any s hs w he)
      have K4 := Lib.hid (fun w => parse_u s (by omega) w)
      obtain ⟨p1, p2⟩ := pL_small (lA s)
      have K5 : Hid (∀ x y w, Mods w x (pL (lA s)) → Mods w y (pL (lA s)) → Calls Tryd.prog 22 #[x, y] w fun e w' => e = .returned (.bool true) ∧ Below w.heap.size w w') := Lib.hid (fun x y w h1 h2 => by
        have := same_any x y (pL (lA s)) (pL (lA s)) (by omega) (by omega) (fun m hm => by have := p2 m hm; omega) (fun m hm => by have := p2 m hm; omega) w h1 h2
        rwa [decide_eq_true rfl] at this)
      unfold PsEnd at K3
      generalize pL (lA s) = P at *
      obtain ⟨g, hgg⟩ : ∃ g, pC (lA s) = g := ⟨_, rfl⟩
      obtain ⟨f, hf⟩ : ∃ f, tC l = f := ⟨_, rfl⟩
      rw [hgg] at K3 K4
      rw [hf] at K1 K2
      generalize bA (tS l) = S at K1 K2
      have hq : (S.toList == S.toList) = true := by simp
      have hq1 : (f == f) = true := by simp
      have hq2 : (g == g) = true := by simp
      clear hv he hargs hg laa p1 p2 hgg hf hlong
      go_enter Tryd.func4, Tryd.ntmps4
      go_wp2_with fail
      refine KG.out.mono ?_
      rintro e wx ⟨rfl, rfl⟩
      go_wp2_with fail
      refine (K1.out _ HV.out HE.out).mono ?_
      rintro e w1 ⟨rfl, hb⟩
      have B1 := Lib.hid hb
      clear hb
      go_wp2_with fail
      refine (K2.out _ (HV.out.later B1.out)).mono ?_
      rintro e w2 ⟨rfl, hb⟩
      have B2 := Lib.hid (B1.out.trans (hb.mono B1.out.size))
      clear hb
      go_wp2_with fail
      refine (K3.out _ (HE.out.later B2.out)).mono ?_
      rintro e w3 ⟨x, vs, rfl, hb, hm⟩
      have B3 := Lib.hid (B2.out.trans (hb.mono B2.out.size))
      have X3 := Lib.hid hm.mods
      clear hb hm
      go_wp2_with fail
      refine (K4.out _).mono ?_
      rintro e w4 ⟨y, rfl, hb, hm⟩
      have B4 := Lib.hid (B3.out.trans (hb.mono B3.out.size))
      have X4 := Lib.hid (X3.out.later hb)
      have Y4 := Lib.hid hm
      clear hb hm
      go_wp2_with fail
      refine (K5.out _ _ _ X4.out Y4.out).mono ?_
      rintro e w5 ⟨rfl, hb⟩
      have B5 := Lib.hid (B4.out.trans (hb.mono B4.out.size))
      clear hb
      go_wp2_with fail
      go_ret
      exact ⟨rfl, B5.out⟩
end Go.Proofs.YtjjjopopalcokaaDoor
