/-
  What parse of package label hands back.
-/
import Derived.Test.YtjladbgidodhbaaLabNumber
import Derived.Test.YtjladbgidodhbaaRatKept
namespace Go.Proofs.Ytjladbgidodhbaa
open Go.RowKit
open LM
set_option linter.unusedVariables false
set_option linter.unusedSimpArgs false

/-- Block b is a variable of two cells. -/
def Two (w : World) (b : Nat) (x y : Value) (t : TypeId) : Prop := w.heap[b]? = some (.cells #[x, y] t (0, 0))
theorem Two.later {w w1 : World} {b : Nat} {x y : Value} {t : TypeId} (h : Two w b x y t) (hb : Below w.heap.size w w1) : Two w1 b x y t := below_new hb h
theorem Two.lt {w : World} {b : Nat} {x y : Value} {t : TypeId} (h : Two w b x y t) : b < w.heap.size := lt_of_block h
theorem Two.c0 {w : World} {b : Nat} {x y : Value} {t : TypeId} (h : Two w b x y t) : w.cell? ⟨b, 0, none⟩ = some x := cell_two0 h
theorem Two.c1 {w : World} {b : Nat} {x y : Value} {t : TypeId} (h : Two w b x y t) : w.cell? ⟨b, 1, none⟩ = some y := cell_two1 h
theorem Two.f0 {w : World} {b : Nat} {x y : Value} {t : TypeId} (h : Two w b x y t) : w.frozen? ⟨b, 0, none⟩ = false := free_two0 h
theorem Two.f1 {w : World} {b : Nat} {x y : Value} {t : TypeId} (h : Two w b x y t) : w.frozen? ⟨b, 1, none⟩ = false := free_two1 h
theorem two_new (w : World) (x y : Value) (t : TypeId) : Two (w.alloc (.cells #[x, y] t)) w.heap.size x y t := heap_alloc_new w _

theorem suffix_no {l : Bs} (h : Lib.hasSuffix l [93] = false) : l.getLast? ≠ some 93 := fun e => by
  have := last_back e
  rw [this] at h
  have h2 : Lib.hasSuffix (l.dropLast ++ [93]) [93] = true := by
    rw [Lib.hasSuffix, List.isSuffixOf_iff_suffix]; exact List.suffix_append _ _
  rw [h] at h2; exact absurd h2 (by simp)
theorem suffix_yes {l : Bs} (h : Lib.hasSuffix l [93] = true) : l.getLast? = some 93 ∧ Lib.trimSuffix l [93] = l.dropLast := by
  have h2 := h
  rw [Lib.hasSuffix, List.isSuffixOf_iff_suffix] at h2
  obtain ⟨t, ht⟩ := h2
  constructor
  · rw [← ht]; simp
  · rw [Lib.trimSuffix, if_pos h, List.dropLast_eq_take]; simp
theorem trim_len (l : Bs) : (Lib.trimSuffix l [93]).length ≤ l.length := by
  unfold Lib.trimSuffix; split
  · rw [List.length_take]; omega
  · exact Nat.le_refl _
/-- How parse ends. -/
def PaEnd (l : Bs) (w : World) (e : Ending) (w' : World) : Prop := e = .returned (.tuple #[.agg #[.string (bA (stN l)), .int .i64 (stI l)], .bool (stepB l)]) ∧ Below w.heap.size w w'
theorem pa_no {l : Bs} (h : stepB l = false) {w w' : World} (hb : Below w.heap.size w w') : PaEnd l w (.returned (.tuple #[.agg #[.string ByteArray.empty, .int .i64 0], .bool false])) w' :=
  ⟨by rw [(stN_no h).1, (stN_no h).2, h]; rfl, hb⟩
theorem pa_yes {l : Bs} (h : stepB l = true) {x : Bs} {n : Int} (hx : x = preL l) (hn : n = indI l) {w w' : World} (hb : Below w.heap.size w w') : PaEnd l w (.returned (.tuple #[.agg #[.string (bA x), .int .i64 n], .bool true])) w' :=
  ⟨by rw [(stN_yes h).1, (stN_yes h).2, h, hx, hn], hb⟩

set_option maxHeartbeats 2000000 in
theorem parse_any (s : ByteArray) (hs : s.size ≤ 200000) (w : World) (hl : Len w) : Calls Try.prog 40 #[.string s] w (PaEnd (lA s) w) := by
  have hle := cut_le (lA s) 91
  rw [lA_len] at hle
  obtain ⟨u, hu⟩ : ∃ u, preL (lA s) = u := ⟨_, rfl⟩
  obtain ⟨v, hv⟩ : ∃ v, posL (lA s) = v := ⟨_, rfl⟩
  obtain ⟨t, ht⟩ : ∃ t, hasI (lA s) = t := ⟨_, rfl⟩
  have hul : (bA u).size ≤ 200000 := by rw [bA_size, ← hu]; exact Nat.le_trans hle.1 hs
  have hvl : (bA v).size ≤ 200000 := by rw [bA_size, ← hv]; exact Nat.le_trans hle.2 hs
  have K1 : Hid (∀ w, Len w → Calls Try.prog 54 #[.string s, .string ⟨#[91]⟩] w fun e w' => e = .returned (.tuple #[.string (bA u), .string (bA v), .bool t]) ∧ Below w.heap.size w w') := Lib.hid (fun w hl => by
    have := cut_lib s 91 hs w hl
    rw [show (Lib.cut (lA s) [91]).1 = u from hu, show (Lib.cut (lA s) [91]).2.1 = v from hv, show (Lib.cut (lA s) [91]).2.2 = t from ht] at this
    exact this)
  obtain ⟨nb, hnb⟩ : ∃ nb, nameB u = nb := ⟨_, rfl⟩
  have K2 : Hid (∀ w, Calls Try.prog 17 #[.string (bA u)] w fun e w' => e = .returned (.bool nb) ∧ Below w.heap.size w w') := Lib.hid (fun w => by
    have := name_any (bA u) hul w
    rwa [lA_bA, hnb] at this)
  obtain ⟨d, hd⟩ : ∃ d, Lib.trimSuffix v [93] = d := ⟨_, rfl⟩
  obtain ⟨cl, hcl⟩ : ∃ cl, Lib.hasSuffix v [93] = cl := ⟨_, rfl⟩
  have hdl : (bA d).size ≤ 200000 := by rw [bA_size, ← hd]; rw [bA_size] at hvl; exact Nat.le_trans (trim_len v) hvl
  have K3 : Hid (∀ w, Calls Try.prog 57 #[.string (bA v), .string ⟨#[93]⟩] w fun e w' => e = .returned (.tuple #[.string (bA d), .bool cl]) ∧ w = w') := Lib.hid (fun w => by
    have := cutsuffix_lib (bA v) 93 hvl w
    rwa [lA_bA, hd, hcl] at this)
  obtain ⟨n, hn⟩ : ∃ n, nuV d = n := ⟨_, rfl⟩
  obtain ⟨ok, hok⟩ : ∃ ok, numB d = ok := ⟨_, rfl⟩
  have K4 : Hid (∀ w, Calls Try.prog 58 #[.string (bA d)] w fun e w' => e = .returned (.tuple #[.int .i64 n, .bool ok]) ∧ Below w.heap.size w w') := Lib.hid (fun w => by
    have := number_any (bA d) hdl w
    unfold NuEnd at this
    rwa [lA_bA, hn, hok] at this)
  have HU := Lib.hid hu
  have HL := Lib.hid hl
  have hst : stepB (lA s) = (nb && (!t || (decide (v.getLast? = some 93) && numB v.dropLast))) := by unfold stepB digL; rw [hu, hv, ht, hnb]
  have hin : indI (lA s) = if t = true then (valF 0 v.dropLast : Int) else -1 := by unfold indI digL; rw [hv, ht]
  cases nb
  · have HS : Hid (stepB (lA s) = false) := Lib.hid (by rw [hst]; rfl)
    clear hu hv ht hnb hd hcl hn hok hst hin hle hul hvl hdl hl
    go_enter Try.func40, Try.ntmps40
    go_wp2_with fail
    have b0 : Below w.heap.size w (w.alloc (.cells #[.string { data := #[] }, .int .i64 0] 66)) := (Below.refl _ _).alloc (Nat.le_refl _) _
    refine (K1.out _ (HL.out.later b0)).mono ?_
    rintro e w1 ⟨rfl, hb⟩
    have B1 := Lib.hid (b0.trans (hb.mono b0.size))
    have E_1 := Lib.hid ((two_new w (.string { data := #[] }) (.int .i64 0) 66).later hb)
    clear hb b0
    go_wp2_with fail
    refine (K2.out _).mono ?_
    rintro e w2 ⟨rfl, hb⟩
    have B2 := Lib.hid (B1.out.trans (hb.mono B1.out.size))
    have E_2 := Lib.hid (E_1.out.later hb)
    clear hb B1 E_1
    have l2 := E_2.out.lt
    have p2 := E_2.out.c0
    have q2 := E_2.out.c1
    have f2 := E_2.out.f0
    have g2 := E_2.out.f1
    go_wp2_with fail
    refine bodyPost_ret (v := .tuple #[.agg #[.string { data := #[] }, .int .i64 0], .bool false]) (by simp [results, Try.results40, go_sem, p2, q2, l2]) rfl ?_
    exact pa_no HS.out ((B2.out.setCell (p := ⟨w.heap.size, 0, none⟩) (Nat.le_refl _) _).setCell (p := ⟨w.heap.size, 1, none⟩) (Nat.le_refl _) _)
  · cases t
    · have HS : Hid (stepB (lA s) = true) := Lib.hid (by rw [hst]; rfl)
      have HI : Hid (indI (lA s) = -1) := Lib.hid (by rw [hin]; rfl)
      clear hu hv ht hnb hd hcl hn hok hst hin hle hul hvl hdl hl
      go_enter Try.func40, Try.ntmps40
      go_wp2_with fail
      have b0 : Below w.heap.size w (w.alloc (.cells #[.string { data := #[] }, .int .i64 0] 66)) := (Below.refl _ _).alloc (Nat.le_refl _) _
      refine (K1.out _ (HL.out.later b0)).mono ?_
      rintro e w1 ⟨rfl, hb⟩
      have B1 := Lib.hid (b0.trans (hb.mono b0.size))
      have E_1 := Lib.hid ((two_new w (.string { data := #[] }) (.int .i64 0) 66).later hb)
      clear hb b0
      go_wp2_with fail
      refine (K2.out _).mono ?_
      rintro e w2 ⟨rfl, hb⟩
      have B2 := Lib.hid (B1.out.trans (hb.mono B1.out.size))
      have E_2 := Lib.hid (E_1.out.later hb)
      clear hb B1 E_1
      have l2 := E_2.out.lt
      have p2 := E_2.out.c0
      have q2 := E_2.out.c1
      have f2 := E_2.out.f0
      have g2 := E_2.out.f1
      go_wp2_with fail
      refine bodyPost_ret (v := .tuple #[.agg #[.string (bA u), .int .i64 (-1)], .bool true]) (by simp [results, Try.results40, go_sem, p2, q2, l2]) rfl ?_
      exact pa_yes HS.out HU.out.symm HI.out.symm ((B2.out.setCell (p := ⟨w.heap.size, 0, none⟩) (Nat.le_refl _) _).setCell (p := ⟨w.heap.size, 1, none⟩) (Nat.le_refl _) _)
    · cases cl
      · have HS : Hid (stepB (lA s) = false) := Lib.hid (by rw [hst, decide_eq_false (suffix_no hcl)]; rfl)
        clear hu hv ht hnb hd hcl hn hok hst hin hle hul hvl hdl hl
        go_enter Try.func40, Try.ntmps40
        go_wp2_with fail
        have b0 : Below w.heap.size w (w.alloc (.cells #[.string { data := #[] }, .int .i64 0] 66)) := (Below.refl _ _).alloc (Nat.le_refl _) _
        refine (K1.out _ (HL.out.later b0)).mono ?_
        rintro e w1 ⟨rfl, hb⟩
        have B1 := Lib.hid (b0.trans (hb.mono b0.size))
        have E_1 := Lib.hid ((two_new w (.string { data := #[] }) (.int .i64 0) 66).later hb)
        clear hb b0
        go_wp2_with fail
        refine (K2.out _).mono ?_
        rintro e w2 ⟨rfl, hb⟩
        have B2 := Lib.hid (B1.out.trans (hb.mono B1.out.size))
        have E_2 := Lib.hid (E_1.out.later hb)
        clear hb B1 E_1
        go_wp2_with fail
        refine (K3.out _).mono ?_
        rintro e ws ⟨rfl, rfl⟩
        go_wp2_with fail
        refine (K4.out _).mono ?_
        rintro e w3 ⟨rfl, hb⟩
        have B3 := Lib.hid (B2.out.trans (hb.mono B2.out.size))
        have E_3 := Lib.hid (E_2.out.later hb)
        clear hb B2 E_2
        have l2 := E_3.out.lt
        have p2 := E_3.out.c0
        have q2 := E_3.out.c1
        have f2 := E_3.out.f0
        have g2 := E_3.out.f1
        go_wp2_with fail
        refine bodyPost_ret (v := .tuple #[.agg #[.string { data := #[] }, .int .i64 0], .bool false]) (by simp [results, Try.results40, go_sem, p2, q2, l2]) rfl ?_
        exact pa_no HS.out ((B3.out.setCell (p := ⟨w.heap.size, 0, none⟩) (Nat.le_refl _) _).setCell (p := ⟨w.heap.size, 1, none⟩) (Nat.le_refl _) _)
      · have hsf := suffix_yes hcl
        have hd2 : v.dropLast = d := by rw [← hd, hsf.2]
        cases ok
        · have HS : Hid (stepB (lA s) = false) := Lib.hid (by rw [hst, hd2, hok]; simp)
          clear hu hv ht hnb hd hcl hn hok hst hin hle hul hvl hdl hl hsf hd2
          go_enter Try.func40, Try.ntmps40
          go_wp2_with fail
          have b0 : Below w.heap.size w (w.alloc (.cells #[.string { data := #[] }, .int .i64 0] 66)) := (Below.refl _ _).alloc (Nat.le_refl _) _
          refine (K1.out _ (HL.out.later b0)).mono ?_
          rintro e w1 ⟨rfl, hb⟩
          have B1 := Lib.hid (b0.trans (hb.mono b0.size))
          have E_1 := Lib.hid ((two_new w (.string { data := #[] }) (.int .i64 0) 66).later hb)
          clear hb b0
          go_wp2_with fail
          refine (K2.out _).mono ?_
          rintro e w2 ⟨rfl, hb⟩
          have B2 := Lib.hid (B1.out.trans (hb.mono B1.out.size))
          have E_2 := Lib.hid (E_1.out.later hb)
          clear hb B1 E_1
          go_wp2_with fail
          refine (K3.out _).mono ?_
          rintro e ws ⟨rfl, rfl⟩
          go_wp2_with fail
          refine (K4.out _).mono ?_
          rintro e w3 ⟨rfl, hb⟩
          have B3 := Lib.hid (B2.out.trans (hb.mono B2.out.size))
          have E_3 := Lib.hid (E_2.out.later hb)
          clear hb B2 E_2
          have l2 := E_3.out.lt
          have p2 := E_3.out.c0
          have q2 := E_3.out.c1
          have f2 := E_3.out.f0
          have g2 := E_3.out.f1
          go_wp2_with fail
          refine bodyPost_ret (v := .tuple #[.agg #[.string { data := #[] }, .int .i64 0], .bool false]) (by simp [results, Try.results40, go_sem, p2, q2, l2]) rfl ?_
          exact pa_no HS.out ((B3.out.setCell (p := ⟨w.heap.size, 0, none⟩) (Nat.le_refl _) _).setCell (p := ⟨w.heap.size, 1, none⟩) (Nat.le_refl _) _)
        · have HS : Hid (stepB (lA s) = true) := Lib.hid (by rw [hst, hd2, hok, hsf.1]; simp)
          have HI : Hid (indI (lA s) = n) := Lib.hid (by rw [hin, hd2, ← hn, nuV, if_pos hok]; rfl)
          clear hu hv ht hnb hd hcl hn hok hst hin hle hul hvl hdl hl hsf hd2
          go_enter Try.func40, Try.ntmps40
          go_wp2_with fail
          have b0 : Below w.heap.size w (w.alloc (.cells #[.string { data := #[] }, .int .i64 0] 66)) := (Below.refl _ _).alloc (Nat.le_refl _) _
          refine (K1.out _ (HL.out.later b0)).mono ?_
          rintro e w1 ⟨rfl, hb⟩
          have B1 := Lib.hid (b0.trans (hb.mono b0.size))
          have E_1 := Lib.hid ((two_new w (.string { data := #[] }) (.int .i64 0) 66).later hb)
          clear hb b0
          go_wp2_with fail
          refine (K2.out _).mono ?_
          rintro e w2 ⟨rfl, hb⟩
          have B2 := Lib.hid (B1.out.trans (hb.mono B1.out.size))
          have E_2 := Lib.hid (E_1.out.later hb)
          clear hb B1 E_1
          go_wp2_with fail
          refine (K3.out _).mono ?_
          rintro e ws ⟨rfl, rfl⟩
          go_wp2_with fail
          refine (K4.out _).mono ?_
          rintro e w3 ⟨rfl, hb⟩
          have B3 := Lib.hid (B2.out.trans (hb.mono B2.out.size))
          have E_3 := Lib.hid (E_2.out.later hb)
          clear hb B2 E_2
          have l2 := E_3.out.lt
          have p2 := E_3.out.c0
          have q2 := E_3.out.c1
          have f2 := E_3.out.f0
          have g2 := E_3.out.f1
          go_wp2_with fail
          refine bodyPost_ret (v := .tuple #[.agg #[.string (bA u), .int .i64 n], .bool true]) (by simp [results, Try.results40, go_sem, p2, q2, l2]) rfl ?_
          exact pa_yes HS.out HU.out.symm HI.out.symm ((B3.out.setCell (p := ⟨w.heap.size, 0, none⟩) (Nat.le_refl _) _).setCell (p := ⟨w.heap.size, 1, none⟩) (Nat.le_refl _) _)
end Go.Proofs.Ytjladbgidodhbaa
