/-
  What the package's filled hands back.
-/
import Derived.Test.YtkjjehnfibfngaaRewPrG
import Derived.Test.YtkjjehnfibfngaaRewRefM
import Derived.Laws.ResultCell
namespace Go.Proofs.Ytkjjehnfibfngaa
open Go.RowKit
open WM RM
set_option linter.unusedVariables false
set_option linter.unusedSimpArgs false

theorem mkB_no {s : Sh} {x : List Int} {k : Nat} (hk : k < s.a.length) (h : argB (worth s.a[k] x) = false) : mkB s x = false := by
  unfold mkB
  rw [List.all_eq_false]
  exact ⟨_, List.getElem_mem hk, by rw [h]; simp⟩
theorem va_two {f : Fm} {x : List Int} (h1 : x.length ≤ 4) (h2 : formB f (x.length : Int) = true) (h3 : fineB ⟨70, x⟩ = true) : (argB (worth f x) = false → vaC f x = 16 ∧ vaV f x = 0) ∧ (argB (worth f x) = true → vaC f x = 0 ∧ vaV f x = worth f x) := by
  obtain ⟨a, b⟩ := va_good (by omega) h2 h3
  exact ⟨fun h => a (by rw [← argB_iff, h]; decide), fun h => b (argB_iff.1 h)⟩
theorem fine70_of {m : Md} (h : fineB m = true) : fineB ⟨70, m.a⟩ = true := by
  obtain ⟨h1, h2⟩ := fine_args4 h
  exact fine70_ok (by omega) fun k hk => argB_iff.2 (h2 _ (List.getElem_mem hk))
theorem two_set {w : World} {b : Nat} {x y : Value} {t : TypeId} (h : w.heap[b]? = some (.cells #[x, y] t (0, 0))) (x' y' : Value) : ((w.setCell ⟨b, 0, none⟩ x').setCell ⟨b, 1, none⟩ y').heap[b]? = some (.cells #[x', y'] t (0, 0)) := by
  have h1 := Lib.heap_setCell_same (i := 0) h x'
  have h2 := Lib.heap_setCell_same (i := 1) h1 y'
  simpa using h2
/-- How filled ends. -/
def FlEnd (s : Sh) (x : List Int) (w : World) (e : Ending) (w' : World) : Prop :=
  Below w.heap.size w w' ∧ ((mkB s x = false ∧ e = .returned (.tuple #[.agg #[.int .u8 0, .slice none 0 0], .int .i64 16])) ∨
    (mkB s x = true ∧ ∃ v, e = .returned (.tuple #[.agg #[.int .u8 s.c.toNat, v], .int .i64 0]) ∧ w'.ownsRow w.heap.size 3 1 v s.a.length (valsL (s.a.map (worth · x)))))
set_option maxRecDepth 100000 in
set_option maxHeartbeats 3200000 in
theorem filled_any (s : Sh) (x : List Int) (sv u : Value) (hs : s.a.length ≤ 10) (hf : ∀ f ∈ s.a, formB f (x.length : Int) = true) (hfi : fineB ⟨70, x⟩ = true) (w : World) (h1 : Fms w sv s.a) (h2 : Ints w u x) :
    Calls Try.prog 51 #[.agg #[.int .u8 s.c.toNat, sv], u] w (FlEnd s x w) := by
  obtain ⟨p, cap, rfl⟩ := h1.slice
  obtain ⟨p2, cap2, rfl⟩ := h2.slice
  have hx4 : x.length ≤ 4 := (fine_args4 hfi).1
  obtain ⟨WA, hWA⟩ : ∃ W, W = (w.alloc (.cells #[.int .u8 s.c.toNat, .slice p s.a.length cap] 56)).alloc (.cells #[.int .u8 0, .slice none 0 0] 27) := ⟨_, rfl⟩
  have hsz : WA.heap.size = w.heap.size + 1 + 1 := by rw [hWA]; simp
  obtain ⟨W0, hW0⟩ : ∃ W, W = WA.alloc (.cells #[.int .u8 s.c.toNat, .slice none 0 0] 27) := ⟨_, rfl⟩
  have N1 : WA.heap[w.heap.size]? = some (.cells #[.int .u8 s.c.toNat, .slice p s.a.length cap] 56 (0, 0)) := by rw [hWA]; exact heap_alloc_old (heap_alloc_new _ _) _
  have N2 : WA.heap[w.heap.size + 1]? = some (.cells #[.int .u8 0, .slice none 0 0] 27 (0, 0)) := by
    have := heap_alloc_new (w.alloc (.cells #[.int .u8 s.c.toNat, .slice p s.a.length cap] 56)) (.cells #[.int .u8 0, .slice none 0 0] 27)
    rw [hWA]; simpa using this
  have BA : Below w.heap.size w WA := by rw [hWA]; exact ((Below.refl _ _).alloc (Nat.le_refl _) _).alloc (by simp) _
  have I0 := inM_start WA s.c s.a x
  rw [← hW0] at I0
  rw [hWA] at hW0
  have HA := Lib.hid BA
  have HN2 := Lib.hid N2
  have H1 := Lib.hid (h1.later BA)
  have H2 := Lib.hid (h2.later BA)
  have q1 := cell_two1 N1
  have l1 := lt_of_block N1
  have l2 := lt_of_block N2
  have HF := Lib.hid hf
  have HFi := Lib.hid hfi
  have HI0 := Lib.hid I0
  have x1 := (I0.below.cell (p := ⟨w.heap.size, 1, none⟩) l1).trans q1
  obtain ⟨i0, hi, hz0, hz1, hz2⟩ := info_parts info_int
  have HM : Hid (maxLen = 9223372036854775807) := Lib.hid rfl
  have HE0 : Hid (∀ w', Below w.heap.size w w' → mkB s x = false → FlEnd s x w (.returned (.tuple #[.agg #[.int .u8 0, .slice none 0 0], .int .i64 16])) w') := Lib.hid (fun w' hb h => ⟨hb, .inl ⟨h, rfl⟩⟩)
  clear N1 N2 BA h1 h2 hf hfi I0
  go_enter Try.func51, Try.ntmps51
  go_wp2_with fail
  rw [← hW0]
  clear hW0 hWA
  go_wp2_with fail
  go_loopw [17] (fun i wr => ∃ (k : Nat) (va : Value), i = .int .i64 (k : Nat) ∧ InM WA s.c s.a x k va wr) (fun i _ => s.a.length - (intOf i).toNat)
  case atStart => exact ⟨0, _, rfl, HI0.out⟩
  case round =>
    obtain ⟨k, va, rfl, hI⟩ := hrel
    obtain ⟨pa, capa, rfl⟩ := fr_slice hI.own
    have HI := Lib.hid hI
    have hki := hI.hi
    have hbz := hI.below.size
    have HB : Hid (Below w.heap.size w wr) := Lib.hid (HA.out.trans (hI.below.mono HA.out.size))
    have u0 := cell_two0 hI.blk
    have u1 := cell_two1 hI.blk
    have lw := lt_of_block hI.blk
    rw [hsz] at u0 u1 lw
    have y1 := (hI.below.cell (p := ⟨w.heap.size, 1, none⟩) l1).trans q1
    have hb2 := Lib.hid ((hI.below.block _ l2).trans HN2.out)
    have lr := lt_of_block hb2.out
    clear hI
    by_cases hlk : k < s.a.length
    · obtain ⟨b, off, cap', pf, cf, hp, g0, g1, hin, lb⟩ := (H1.out.later HI.out.below).at hlk
      obtain rfl : p = some ⟨b, off, none⟩ := by cases hp; rfl
      have k2 : (k : Int) < (s.a.length : Int) := by omega
      have hff := HF.out _ (List.getElem_mem hlk)
      have hflen : s.a[k].cs.length ≤ 9223372036854775807 := by have := (form_iff hff).2.1; omega
      have HVa := Lib.hid (va_two hx4 hff HFi.out)
      have HBad : Hid (argB (worth s.a[k] x) = false → mkB s x = false) := Lib.hid (mkB_no hlk)
      have HStep : Hid (∀ (wi w3 : World) (v2 : Value) (tmp : Obj), InM WA s.c s.a x k (.slice pa k capa) wi → w3.ownsRow (WA.heap.size + 1) 3 1 v2 (k + 1) (valsL (wos s.a x k) ++ [.int .i64 (worth s.a[k] x)]) → (wi.alloc tmp).grownBy w3 (Value.slice pa k capa).ownBlock → argB (worth s.a[k] x) = true → InM WA s.c s.a x (k + 1) v2 (w3.setCell ⟨WA.heap.size, 1, none⟩ v2)) := Lib.hid (fun wi w3 v2 tmp h ho hg hb => inM_step h hlk ho hg hb)
      obtain ⟨W2, hW2⟩ : ∃ W, W = wr.alloc (.cells #[.int .i64 s.a[k].k, .slice pf s.a[k].cs.length cf] 25) := ⟨_, rfl⟩
      have bb2 : Below wr.heap.size wr W2 := by rw [hW2]; exact (Below.refl _ _).alloc (Nat.le_refl _) _
      have E2 := Lib.hid bb2
      have KV := Lib.hid (prvalue_any s.a[k] x _ _ hflen (by omega) W2 (hin.later bb2) ((H2.out.later HI.out.below).later bb2))
      obtain ⟨z, hz⟩ : ∃ z, worth s.a[k] x = z := ⟨_, rfl⟩
      obtain ⟨zc, hzc⟩ : ∃ z, vaC s.a[k] x = z := ⟨_, rfl⟩
      obtain ⟨zv, hzv⟩ : ∃ z, vaV s.a[k] x = z := ⟨_, rfl⟩
      rw [hz] at HVa HBad HStep
      rw [hzc, hzv] at HVa KV
      generalize s.a[k].k = fk at g0 hW2 KV
      generalize s.a[k].cs.length = fl at g1 hW2 KV
      clear hp hin hff hflen hz hzc hzv bb2
      cases hab : argB z with
      | false =>
        obtain ⟨rfl, rfl⟩ := HVa.out.1 hab
        have HBd := Lib.hid (HBad.out hab)
        clear hab
        go_wp2_with fail
        rw [← hW2]
        clear hW2
        go_wp2_with fail
        refine KV.out.mono ?_
        rintro e w3 ⟨rfl, hb⟩
        have E3 := Lib.hid (E2.out.trans (hb.mono E2.out.size))
        have HB3 := Lib.hid (HB.out.trans (E3.out.mono HB.out.size))
        have b3 := (E3.out.block _ lr).trans hb2.out
        have HBe : Hid (∀ v v', Below w.heap.size w ((w3.setCell ⟨w.heap.size + 1, 0, none⟩ v).setCell ⟨w.heap.size + 1, 1, none⟩ v')) := Lib.hid (fun v v' => (HB3.out.setCell (p := ⟨w.heap.size + 1, 0, none⟩) (Nat.le_succ _) _).setCell (p := ⟨w.heap.size + 1, 1, none⟩) (Nat.le_succ _) _)
        have s0 := cell_two0 b3
        have s1 := cell_two1 b3
        have f0 := free_two0 b3
        have f1 := free_two1 b3
        have l3 := lt_of_block b3
        have HB3b := Lib.hid b3
        clear hb b3
        go_wp2_with fail
        have e3 := two_set HB3b.out (.int .u8 0) (.slice none 0 0)
        have e0 := cell_two0 e3
        have e1 := cell_two1 e3
        exact bodyPost_ret (v := .tuple #[.agg #[.int .u8 0, .slice none 0 0], .int .i64 16]) (by simp [results, Try.results51, go_sem, e0, e1] <;> rfl) rfl (HE0.out _ (HBe.out _ _) HBd.out)
      | true =>
        obtain ⟨rfl, rfl⟩ := HVa.out.2 hab
        have HGd := Lib.hid hab
        clear hab
        go_wp2_with fail
        rw [← hW2]
        clear hW2
        go_wp2_with fail
        refine KV.out.mono ?_
        rintro e w3 ⟨rfl, hb⟩
        have E3 := Lib.hid (E2.out.trans (hb.mono E2.out.size))
        have HI3 := Lib.hid (HI.out.later E3.out)
        have m1 := (E3.out.cell (p := ⟨w.heap.size + 1 + 1, 1, none⟩) lw).trans u1
        have P6 : Hid ((w3.alloc (.cells #[.int .i64 zv] 3)).ownsRow (WA.heap.size + 1) 3 1 (.slice pa k capa) k (valsL (wos s.a x k))) := Lib.hid (HI3.out.own.alloc _)
        have hzq := HI3.out.below.size
        clear hb
        go_wp2_with (at_builtin; refine wpList_append_own _ rfl _ _ 23 rfl (WA.heap.size + 1) 3 i0 (.int .i64 0) 1 8 Try.underlying23 hi hz0 hz1 hz2 rfl (by decide) (.slice pa k capa) k (valsL (wos s.a x k)) rfl P6.out ⟨w3.heap.size, 0, none⟩ 1 1 [.int .i64 zv] rfl rfl (cell_one_new _ _ _) (by simp [Value.oneCell']) (by rw [HM.out]; omega) (by omega) (by simp; omega) ?_; intro v2 w4 ho2 hg2 hn2; have N3 := inM_blk HI3.out hg2; have I2 := Lib.hid (HStep.out _ _ _ _ HI3.out ho2 hg2 HGd.out); obtain ⟨p4, c4, rfl⟩ := fr_slice ho2; rw [hsz] at N3; rw [hsz] at I2; have q2 := cell_two0 N3; have q3 := cell_two1 N3; have fr1 : w4.frozen? ⟨w.heap.size + 1 + 1, 1, none⟩ = false := (by simp [World.frozen?, N3]); have l3 : w.heap.size + 1 + 1 < w4.heap.size := (lt_of_block N3); clear ho2 hg2 hn2 N3)
        go_wp2_with fail
        go_roundw
        case rel => exact ⟨k + 1, _, by go_num, I2.out⟩
        case measure => simp [intOf]; omega
    · obtain rfl : k = s.a.length := by omega
      have b3 := hb2.out
      have HBe : Hid (∀ v v', Below w.heap.size w ((wr.setCell ⟨w.heap.size + 1, 0, none⟩ v).setCell ⟨w.heap.size + 1, 1, none⟩ v')) := Lib.hid (fun v v' => (HB.out.setCell (p := ⟨w.heap.size + 1, 0, none⟩) (Nat.le_succ _) _).setCell (p := ⟨w.heap.size + 1, 1, none⟩) (Nat.le_succ _) _)
      have s0 := cell_two0 b3
      have s1 := cell_two1 b3
      have f0 := free_two0 b3
      have f1 := free_two1 b3
      have HE : Hid (∀ v v', FlEnd s x w (.returned (.tuple #[.agg #[.int .u8 s.c.toNat, .slice pa s.a.length capa], .int .i64 0])) ((wr.setCell ⟨w.heap.size + 1, 0, none⟩ v).setCell ⟨w.heap.size + 1, 1, none⟩ v')) := Lib.hid (fun v v' => by
        refine ⟨HBe.out v v', .inr ⟨mkB_ok (fun j hj => HI.out.good j hj hj), _, rfl, ?_⟩⟩
        have h := HI.out.own
        rw [wos_all] at h
        have h2 := ownsRow_setCell_other h (a := ⟨w.heap.size + 1, 0, none⟩) (by intro e; have h9 : WA.heap.size + 1 ≤ w.heap.size + 1 := (owns_lt h _ e).1; omega) v
        have h3 := ownsRow_setCell_other h2 (a := ⟨w.heap.size + 1, 1, none⟩) (by intro e; have h9 : WA.heap.size + 1 ≤ w.heap.size + 1 := (owns_lt h2 _ e).1; omega) v'
        exact owns_mono h3 (by omega))
      clear b3
      go_wp2_with fail
      have e3 := two_set hb2.out (.int .u8 s.c.toNat) (.slice pa s.a.length capa)
      have e0 := cell_two0 e3
      have e1 := cell_two1 e3
      exact bodyPost_ret (v := .tuple #[.agg #[.int .u8 s.c.toNat, .slice pa s.a.length capa], .int .i64 0]) (by simp [results, Try.results51, go_sem, e0, e1] <;> rfl) rfl (HE.out _ _)
end Go.Proofs.Ytkjjehnfibfngaa
