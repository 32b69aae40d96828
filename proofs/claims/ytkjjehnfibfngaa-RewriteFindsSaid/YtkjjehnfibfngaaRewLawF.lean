/-
  The walk of RewriteFinds.
-/
import Derived.Test.YtkjjehnfibfngaaRewRefN
import Derived.Test.YtkjjehnfibfngaaRewRefG
import Derived.Test.YtkjjehnfibfngaaRewPrG
namespace Go.Proofs.Ytkjjehnfibfngaa
open Go.RowKit
open WM RM
set_option linter.unusedVariables false
set_option linter.unusedSimpArgs false

set_option maxRecDepth 100000 in
set_option maxHeartbeats 3200000 in
theorem finds_walk (v : Value) (l : List Rw) (hmax : l.length ≤ 9223372036854775807) (f : Fm) (fv : Value) (hfm : f.cs.length ≤ 9223372036854775807) (x : List Int) (xv : Value) (hxm : x.length ≤ 9223372036854775807) (m : Md) (mv : Value) (hmm : m.a.length ≤ 9223372036854775807)
    (w : World) (h1 : Rws w v l) (h2 : Ints w fv f.cs) (h3 : Ints w xv x) (h4 : Ints w mv m.a) (hn : NilOr mv) :
    Calls Try.prog 3 #[v, .agg #[.int .i64 f.k, fv], xv, .agg #[.int .u8 m.c.toNat, mv]] w fun e w' => e = .returned (.bool true) ∧ Below w.heap.size w w' := by
  obtain ⟨p, cap, rfl⟩ := h1.slice
  obtain ⟨p2, cap2, rfl⟩ := h2.slice
  obtain ⟨p3, cap3, rfl⟩ := h3.slice
  obtain ⟨p4, cap4, rfl⟩ := h4.slice
  obtain ⟨W0, hW0⟩ : ∃ W, W = (w.alloc (.cells #[.int .i64 f.k, .slice p2 f.cs.length cap2] 25)).alloc (.cells #[.int .u8 m.c.toNat, .slice p4 m.a.length cap4] 27) := ⟨_, rfl⟩
  have N1 : W0.heap[w.heap.size]? = some (.cells #[.int .i64 f.k, .slice p2 f.cs.length cap2] 25 (0, 0)) := by rw [hW0]; exact heap_alloc_old (heap_alloc_new _ _) _
  have N2 : W0.heap[w.heap.size + 1]? = some (.cells #[.int .u8 m.c.toNat, .slice p4 m.a.length cap4] 27 (0, 0)) := by
    have := heap_alloc_new (w.alloc (.cells #[.int .i64 f.k, .slice p2 f.cs.length cap2] 25)) (.cells #[.int .u8 m.c.toNat, .slice p4 m.a.length cap4] 27)
    rw [hW0]; simpa using this
  have B0 : Below w.heap.size w W0 := by rw [hW0]; exact ((Below.refl _ _).alloc (Nat.le_refl _) _).alloc (by simp) _
  have HB := Lib.hid B0
  have H1 := Lib.hid (h1.later B0)
  have H2 := Lib.hid (h2.later B0)
  have H3 := Lib.hid (h3.later B0)
  have H4 := Lib.hid (h4.later B0)
  have a0 := cell_two0 N1
  have a1 := cell_two1 N1
  have b0 := cell_two0 N2
  have b1 := cell_two1 N2
  have la := lt_of_block N1
  have lb := lt_of_block N2
  have KG := Lib.hid (refgreat_any (.slice p l.length cap) l hmax W0 H1.out)
  clear N1 N2 B0 h1 h2 h3 h4
  cases hg : greatR l with
  | true =>
    rw [hg] at KG
    clear hg
    go_enter Try.func3, Try.ntmps3
    go_wp2_with fail
    rw [← hW0]
    clear hW0
    go_wp2_with fail
    refine KG.out.mono ?_
    rintro e wx ⟨rfl, rfl⟩
    go_wp2_with fail
    go_ret
    exact ⟨rfl, HB.out⟩
  | false =>
    rw [hg] at KG
    obtain ⟨g1, g2⟩ := greatR_sm hg
    clear hg
    by_cases c1 : 10 < f.cs.length
    · have c1' : (10 : Int) < (f.cs.length : Int) := by omega
      go_enter Try.func3, Try.ntmps3
      go_wp2_with fail
      rw [← hW0]
      clear hW0
      go_wp2_with fail
      refine KG.out.mono ?_
      rintro e wx ⟨rfl, rfl⟩
      go_wp2_with fail
      go_ret
      exact ⟨rfl, HB.out⟩
    have c1' : ¬ (10 : Int) < (f.cs.length : Int) := by omega
    by_cases c2 : 10 < x.length
    · have c2' : (10 : Int) < (x.length : Int) := by omega
      go_enter Try.func3, Try.ntmps3
      go_wp2_with fail
      rw [← hW0]
      clear hW0
      go_wp2_with fail
      refine KG.out.mono ?_
      rintro e wx ⟨rfl, rfl⟩
      go_wp2_with fail
      go_ret
      exact ⟨rfl, HB.out⟩
    have c2' : ¬ (10 : Int) < (x.length : Int) := by omega
    by_cases c3 : 10 < m.a.length
    · have c3' : (10 : Int) < (m.a.length : Int) := by omega
      go_enter Try.func3, Try.ntmps3
      go_wp2_with fail
      rw [← hW0]
      clear hW0
      go_wp2_with fail
      refine KG.out.mono ?_
      rintro e wx ⟨rfl, rfl⟩
      go_wp2_with fail
      go_ret
      exact ⟨rfl, HB.out⟩
    have c3' : ¬ (10 : Int) < (m.a.length : Int) := by omega
    have K1 := Lib.hid (fun w h h' => prvalue_any f x (.slice p2 f.cs.length cap2) (.slice p3 x.length cap3) hfm hxm w h h')
    have K2 := Lib.hid (fun w h h' => refvalue_any f x (.slice p2 f.cs.length cap2) (.slice p3 x.length cap3) hfm hxm w h h')
    have K3 := Lib.hid (fun w h h' => prfind_any (.slice p l.length cap) l m (.slice p4 m.a.length cap4) hmax g2 hmm w h h' hn)
    have K4 := Lib.hid (fun w h h' => reffind_any fineR_any (.slice p l.length cap) l m (.slice p4 m.a.length cap4) hmax g2 hmm w h h')
    have K5 := Lib.hid (fun w h => prcheck_any (.slice p l.length cap) l hmax g2 w h)
    have K6 := Lib.hid (fun w h => refcheck_any fineR_any (.slice p l.length cap) l hmax g2 w h)
    obtain ⟨z1, hz1⟩ : ∃ z, vaV f x = z := ⟨_, rfl⟩
    obtain ⟨z2, hz2⟩ : ∃ z, vaC f x = z := ⟨_, rfl⟩
    obtain ⟨z3, hz3⟩ : ∃ z, finV l m = z := ⟨_, rfl⟩
    obtain ⟨z4, hz4⟩ : ∃ z, finC l m = z := ⟨_, rfl⟩
    obtain ⟨z5, hz5⟩ : ∃ z, rchk l = z := ⟨_, rfl⟩
    rw [hz1, hz2] at K1 K2
    rw [hz3, hz4] at K3 K4
    rw [hz5] at K5 K6
    have t1 : (z1 == z1) = true := by simp
    have t2 : (z2 == z2) = true := by simp
    have t3 : (z3 == z3) = true := by simp
    have t4 : (z4 == z4) = true := by simp
    have t5 : (z5 == z5) = true := by simp
    clear hz1 hz2 hz3 hz4 hz5 g1 g2 c1 c2 c3 hn
    go_enter Try.func3, Try.ntmps3
    go_wp2_with fail
    rw [← hW0]
    clear hW0
    go_wp2_with fail
    refine KG.out.mono ?_
    rintro e wx ⟨rfl, rfl⟩
    go_wp2_with fail
    refine (K1.out _ H2.out H3.out).mono ?_
    rintro e w1 ⟨rfl, hb⟩
    have D1 := Lib.hid hb
    have x0 := (hb.cell (p := ⟨w.heap.size, 0, none⟩) la).trans a0
    have x1 := (hb.cell (p := ⟨w.heap.size, 1, none⟩) la).trans a1
    clear hb
    go_wp2_with fail
    refine (K2.out _ (H2.out.later D1.out) (H3.out.later D1.out)).mono ?_
    rintro e w2 ⟨rfl, hb⟩
    have D2 := Lib.hid (D1.out.trans (hb.mono D1.out.size))
    clear hb x0 x1
    have y0 := (D2.out.cell (p := ⟨w.heap.size + 1, 0, none⟩) lb).trans b0
    have y1 := (D2.out.cell (p := ⟨w.heap.size + 1, 1, none⟩) lb).trans b1
    go_wp2_with fail
    refine (K3.out _ (H1.out.later D2.out) (H4.out.later D2.out)).mono ?_
    rintro e w3 ⟨rfl, hb⟩
    have D3 := Lib.hid (D2.out.trans (hb.mono D2.out.size))
    clear hb y0 y1
    have y0 := (D3.out.cell (p := ⟨w.heap.size + 1, 0, none⟩) lb).trans b0
    have y1 := (D3.out.cell (p := ⟨w.heap.size + 1, 1, none⟩) lb).trans b1
    go_wp2_with fail
    refine (K4.out _ (H1.out.later D3.out) (H4.out.later D3.out)).mono ?_
    rintro e w4 ⟨rfl, hb⟩
    have D4 := Lib.hid (D3.out.trans (hb.mono D3.out.size))
    clear hb y0 y1
    go_wp2_with fail
    refine (K5.out _ (H1.out.later D4.out)).mono ?_
    rintro e w5 ⟨rfl, hb⟩
    have D5 := Lib.hid (D4.out.trans (hb.mono D4.out.size))
    clear hb
    go_wp2_with fail
    refine (K6.out _ (H1.out.later D5.out)).mono ?_
    rintro e w6 ⟨rfl, hb⟩
    have B6 := Lib.hid (HB.out.trans ((D5.out.trans (hb.mono D5.out.size)).mono HB.out.size))
    clear hb
    go_wp2_with fail
    go_ret
    exact ⟨(by first | rfl | simp), B6.out⟩
end Go.Proofs.Ytkjjehnfibfngaa
