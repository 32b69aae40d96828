/-
  Texts of the proof, merged: NRewRefM, NRewPrH, NRewRng, NRewPrI.
-/
import Derived.Test.YtlmofdmbcddddaaDoorNRewriteNamesProofM5
import Derived.Test.YtlmofdmbcddddaaDoorNRewriteNamesProofM3
import Derived.Lib.BufferMore
import Derived.Test.YtlmofdmbcddddaaDoorNRewriteNamesProofM6
import Derived.Laws.ResultCell
import Derived.RangeFuncNested
import Derived.RangeFuncBound
import Derived.RangeFuncCalls
import Derived.RangeFuncLeaves
import Derived.RangeFuncBox
import Derived.Shelf.Abstract
import Derived.Shelf.RegionOpen
import Derived.OwnWalkIn
import Derived.TacticsInMore
import Derived.LoopNIn
import Derived.LoopIn
namespace Go.Proofs.YtlmofdmbcddddaaDoor
open Go.RowKit
open WM RM
set_option linter.unusedVariables false
set_option linter.unusedSimpArgs false

theorem fr_slice {w : World} {base n size : Nat} {e : TypeId} {v : Value} {xs : List Value} (h : w.ownsRow base e size v n xs) : ∃ p c, v = .slice p n c := by
  rcases h.2 with ⟨h1, h2⟩ | ⟨g, cap, cur, h1, _⟩
  · exact ⟨none, 0, by rw [h1, h2]⟩
  · exact ⟨_, _, h1⟩
/-- The values of the first forms. -/
def wos (fs : List Fm) (x : List Int) (k : Nat) : List Int := (fs.take k).map (worth · x)
theorem wos_len {fs : List Fm} {x : List Int} {k : Nat} (h : k ≤ fs.length) : (wos fs x k).length = k := by unfold wos; rw [List.length_map, List.length_take]; omega
theorem wos_snoc {fs : List Fm} {x : List Int} {k : Nat} (h : k < fs.length) : wos fs x (k + 1) = wos fs x k ++ [worth fs[k] x] := by
  unfold wos; rw [List.take_succ_eq_append_getElem h, List.map_append]; rfl
theorem wos_all (fs : List Fm) (x : List Int) : wos fs x fs.length = fs.map (worth · x) := by unfold wos; rw [List.take_length]
/-- Where the loop over a shape's args stands. -/
structure InM (wo : World) (c : UInt8) (fs : List Fm) (x : List Int) (k : Nat) (va : Value) (wi : World) : Prop where
  below : Below wo.heap.size wo wi
  blk : wi.heap[wo.heap.size]? = some (.cells #[.int .u8 c.toNat, va] 25 (0, 0))
  own : wi.ownsRow (wo.heap.size + 1) 3 1 va k (valsL (wos fs x k))
  hi : k ≤ fs.length
  good : ∀ j, (h : j < fs.length) → j < k → argB (worth fs[j] x) = true
theorem inM_start (wo : World) (c : UInt8) (fs : List Fm) (x : List Int) : InM wo c fs x 0 (.slice none 0 0) (wo.alloc (.cells #[.int .u8 c.toNat, .slice none 0 0] 25)) :=
  ⟨(Below.refl _ _).alloc (Nat.le_refl _) _, heap_alloc_new _ _, by simpa [wos, valsL] using World.ownsRow_nil (wo.alloc (.cells #[.int .u8 c.toNat, .slice none 0 0] 25)) (wo.heap.size + 1) 3 1, Nat.zero_le _, fun j _ h => by omega⟩
theorem InM.later {wo wi w2 : World} {c : UInt8} {fs : List Fm} {x : List Int} {k : Nat} {va : Value} (h : InM wo c fs x k va wi) (hb : Below wi.heap.size wi w2) : InM wo c fs x k va w2 :=
  ⟨h.below.trans (hb.mono h.below.size), (hb.block _ (lt_of_block h.blk)).trans h.blk, l_own_later h.own hb, h.hi, h.good⟩
theorem inM_blk {wo wi w3 : World} {c : UInt8} {fs : List Fm} {x : List Int} {k : Nat} {va : Value} {tmp : Obj} (h : InM wo c fs x k va wi) (hg : (wi.alloc tmp).grownBy w3 va.ownBlock) : w3.heap[wo.heap.size]? = some (.cells #[.int .u8 c.toNat, va] 25 (0, 0)) := by
  have hlt2 := lt_of_block h.blk
  rw [hg.block wo.heap.size (by simp; omega) (fun e => by have := (owns_lt h.own _ e.symm).1; omega)]
  exact heap_alloc_old h.blk _
theorem inM_step {wo wi w3 : World} {c : UInt8} {fs : List Fm} {x : List Int} {k : Nat} {va v2 : Value} {tmp : Obj} (h : InM wo c fs x k va wi) (hk : k < fs.length) (ho : w3.ownsRow (wo.heap.size + 1) 3 1 v2 (k + 1) (valsL (wos fs x k) ++ [.int .i64 (worth fs[k] x)])) (hg : (wi.alloc tmp).grownBy w3 va.ownBlock)
    (hb : argB (worth fs[k] x) = true) : InM wo c fs x (k + 1) v2 (w3.setCell ⟨wo.heap.size, 1, none⟩ v2) := by
  have z := h.below.size
  have hv := owns_lt h.own
  have hb3 := inM_blk h hg
  have ho2 : w3.ownsRow (wo.heap.size + 1) 3 1 v2 (k + 1) (valsL (wos fs x (k + 1))) := by
    rw [wos_snoc hk, valsL_app]; exact ho
  refine ⟨((h.below.alloc z tmp).grown hg (by simp; omega) (fun j e => by have := (hv j e).1; omega)).setCell (Nat.le_refl _) _, ?_, ?_, hk, fun j hj h2 => ?_⟩
  · have := Lib.heap_setCell_same (i := 1) hb3 v2
    simpa using this
  · refine ownsRow_setCell_other ho2 ?_ _
    intro e
    have := (owns_lt ho2 _ e).1
    simp at this; omega
  · rcases Nat.lt_or_eq_of_le (Nat.le_of_lt_succ h2) with h3 | h3
    · exact h.good j hj h3
    · subst h3; exact hb
/-- Where the loop over the shapes stands. -/
structure OutM (w0 : World) (out : List Sh) (x : List Int) (k : Nat) (v : Value) (wr : World) : Prop where
  below : Below w0.heap.size w0 wr
  own : ∃ vs, ModFr wr w0.heap.size v ((out.take k).map (mkM · x)) vs
  hi : k ≤ out.length
  good : ∀ j, (h : j < out.length) → j < k → mkB out[j] x = true
theorem outM_start (w0 : World) (out : List Sh) (x : List Int) : OutM w0 out x 0 (.slice none 0 0) w0 :=
  ⟨Below.refl _ _, ⟨[], by simpa using modFr_nil w0 w0.heap.size⟩, Nat.zero_le _, fun j _ h => by omega⟩
/-- How Made ends. -/
def MdEnd (r : Rw) (m : Md) (w : World) (e : Ending) (w' : World) : Prop :=
  Below w.heap.size w w' ∧ ((made r m = none ∧ e = .returned (.tuple #[.slice none 0 0, .bool false])) ∨ ∃ v vs, made r m = some (r.out.map (mkM · m.a)) ∧ e = .returned (.tuple #[v, .bool true]) ∧ ModFr w' w.heap.size v (r.out.map (mkM · m.a)) vs)
theorem made_bad {r : Rw} {m : Md} {i k : Nat} (hi : i < r.out.length) (hk : k < r.out[i].a.length) (h : argB (worth r.out[i].a[k] m.a) = false) : made r m = none := by
  have h1 : mkB r.out[i] m.a = false := by
    unfold mkB
    rw [List.all_eq_false]
    exact ⟨_, List.getElem_mem hk, by rw [h]; simp⟩
  have h2 : r.out.all (mkB · m.a) = false := by
    rw [List.all_eq_false]
    exact ⟨_, List.getElem_mem hi, by rw [h1]; simp⟩
  unfold made; rw [if_neg (by rw [h2]; decide)]
theorem made_ok {r : Rw} {m : Md} (h : ∀ i, (hi : i < r.out.length) → mkB r.out[i] m.a = true) : made r m = some (r.out.map (mkM · m.a)) := by
  have h2 : r.out.all (mkB · m.a) = true := by
    rw [List.all_eq_true]
    intro s hs
    obtain ⟨j, hj, rfl⟩ := List.mem_iff_getElem.1 hs
    exact h j hj
  unfold made; rw [if_pos h2]
theorem mkB_ok {s : Sh} {x : List Int} (h : ∀ j, (hj : j < s.a.length) → argB (worth s.a[j] x) = true) : mkB s x = true := by
  unfold mkB
  rw [List.all_eq_true]
  intro f hf
  obtain ⟨j, hj, rfl⟩ := List.mem_iff_getElem.1 hf
  exact h j hj
theorem argB_lo {x : Int} (h : x < -1000000000) : argB x = false := by simp [argB]; omega
theorem argB_hi {x : Int} (h : 1000000000 < x) : argB x = false := by simp [argB]; omega
theorem argB_ok {x : Int} (h1 : ¬ x < -1000000000) (h2 : ¬ 1000000000 < x) : argB x = true := by simp [argB]; omega
end Go.Proofs.YtlmofdmbcddddaaDoor
namespace Go.Proofs.YtlmofdmbcddddaaDoor
open Go.RowKit
open WM RM
set_option linter.unusedVariables false
set_option linter.unusedSimpArgs false

theorem mkB_no {s : Sh} {x : List Int} {k : Nat} (hk : k < s.a.length) (h : argB (worth s.a[k] x) = false) : mkB s x = false := by
  unfold mkB
  rw [List.all_eq_false]
  exact ⟨_, List.getElem_mem hk, by rw [h]; simp⟩
theorem va_two {f : Fm} {x : List Int} (h1 : x.length ≤ 4) (h2 : formB f (x.length : Int) = true) (h3 : fineB ⟨70, x⟩ = true) : (argB (worth f x) = false → vaC f x = 16 ∧ vaV f x = 0) ∧ (argB (worth f x) = true → vaC f x = 0 ∧ vaV f x = worth f x) := by
  obtain ⟨a, b⟩ := va_good (by omega) h2 h3
  exact ⟨fun h => a (by rw [← argB_iff, h]; decide), fun h => b (argB_iff.1 h)⟩
theorem fine70_of {m : Md} (h : fineB m = true) : fineB ⟨70, m.a⟩ = true := by
  obtain ⟨h1, h2⟩ := fine_args4 h
  exact fine70_ok (by omega) fun k hk => argB_iff.2 (h2 _ (List.getElem_mem hk))
theorem two_set {w : World} {b : Nat} {x y : Value} {t : TypeId} (h : w.heap[b]? = some (.cells #[x, y] t (0, 0))) (x' y' : Value) : ((w.setCell ⟨b, 0, none⟩ x').setCell ⟨b, 1, none⟩ y').heap[b]? = some (.cells #[x', y'] t (0, 0)) := by
  have h1 := Lib.heap_setCell_same (i := 0) h x'
  have h2 := Lib.heap_setCell_same (i := 1) h1 y'
  simpa using h2
/-- How filled ends. -/
def FlEnd (s : Sh) (x : List Int) (w : World) (e : Ending) (w' : World) : Prop :=
  Below w.heap.size w w' ∧ ((mkB s x = false ∧ e = .returned (.tuple #[.agg #[.int .u8 0, .slice none 0 0], .int .i64 16])) ∨
    (mkB s x = true ∧ ∃ v, e = .returned (.tuple #[.agg #[.int .u8 s.c.toNat, v], .int .i64 0]) ∧ w'.ownsRow w.heap.size 3 1 v s.a.length (valsL (s.a.map (worth · x)))))
set_option maxRecDepth 100000 in
set_option maxHeartbeats 3200000 in
theorem filled_any (s : Sh) (x : List Int) (sv u : Value) (hs : s.a.length ≤ 10) (hf : ∀ f ∈ s.a, formB f (x.length : Int) = true) (hfi : fineB ⟨70, x⟩ = true) (w : World) (h1 : Fms w sv s.a) (h2 : Ints w u x) :
    Calls Tryd.prog 35 #[.agg #[.int .u8 s.c.toNat, sv], u] w (FlEnd s x w) := by
  obtain ⟨p, cap, rfl⟩ := h1.slice
  obtain ⟨p2, cap2, rfl⟩ := h2.slice
  have hx4 : x.length ≤ 4 := (fine_args4 hfi).1
  obtain ⟨WA, hWA⟩ : ∃ W, W = (w.alloc (.cells #[.int .u8 s.c.toNat, .slice p s.a.length cap] 33)).alloc (.cells #[.int .u8 0, .slice none 0 0] 25) := ⟨_, rfl⟩
  have hsz : WA.heap.size = w.heap.size + 1 + 1 := by rw [hWA]; simp
  obtain ⟨W0, hW0⟩ : ∃ W, W = WA.alloc (.cells #[.int .u8 s.c.toNat, .slice none 0 0] 25) := ⟨_, rfl⟩
  have N1 : WA.heap[w.heap.size]? = some (.cells #[.int .u8 s.c.toNat, .slice p s.a.length cap] 33 (0, 0)) := by rw [hWA]; exact heap_alloc_old (heap_alloc_new _ _) _
  have N2 : WA.heap[w.heap.size + 1]? = some (.cells #[.int .u8 0, .slice none 0 0] 25 (0, 0)) := by
    have := heap_alloc_new (w.alloc (.cells #[.int .u8 s.c.toNat, .slice p s.a.length cap] 33)) (.cells #[.int .u8 0, .slice none 0 0] 25)
    rw [hWA]; simpa using this
  have BA : Below w.heap.size w WA := by rw [hWA]; exact ((Below.refl _ _).alloc (Nat.le_refl _) _).alloc (by simp) _
  have I0 := inM_start WA s.c s.a x
  rw [← hW0] at I0
  rw [hWA] at hW0
  have HA := Lib.hid BA
  have HN2 := Lib.hid N2
  have H1 := Lib.hid (h1.later BA)
  have H2 := Lib.hid (h2.later BA)
  have q1 := cell_two1 N1
  have l1 := lt_of_block N1
  have l2 := lt_of_block N2
  have HF := Lib.hid hf
  have HFi := Lib.hid hfi
  have HI0 := Lib.hid I0
  have x1 := (I0.below.cell (p := ⟨w.heap.size, 1, none⟩) l1).trans q1
  obtain ⟨i0, hi, hz0, hz1, hz2⟩ := info_parts info_int
  have HM : Hid (maxLen = 9223372036854775807) := Lib.hid rfl
  have HE0 : Hid (∀ w', Below w.heap.size w w' → mkB s x = false → FlEnd s x w (.returned (.tuple #[.agg #[.int .u8 0, .slice none 0 0], .int .i64 16])) w') := Lib.hid (fun w' hb h => ⟨hb, .inl ⟨h, rfl⟩⟩)
  clear N1 N2 BA h1 h2 hf hfi I0
  go_enter Tryd.func35, Tryd.ntmps35
  go_wp2_with fail
  rw [← hW0]
  clear hW0 hWA
  go_wp2_with fail
  go_loopw [17] (fun i wr => ∃ (k : Nat) (va : Value), i = .int .i64 (k : Nat) ∧ InM WA s.c s.a x k va wr) (fun i _ => s.a.length - (intOf i).toNat)
  case atStart => exact ⟨0, _, rfl, HI0.out⟩
  case round =>
    obtain ⟨k, va, rfl, hI⟩ := hrel
    obtain ⟨pa, capa, rfl⟩ := fr_slice hI.own
    have HI := Lib.hid hI
    have hki := hI.hi
    have hbz := hI.below.size
    have HB : Hid (Below w.heap.size w wr) := Lib.hid (HA.out.trans (hI.below.mono HA.out.size))
    have u0 := cell_two0 hI.blk
    have u1 := cell_two1 hI.blk
    have lw := lt_of_block hI.blk
    rw [hsz] at u0 u1 lw
    have y1 := (hI.below.cell (p := ⟨w.heap.size, 1, none⟩) l1).trans q1
    have hb2 := Lib.hid ((hI.below.block _ l2).trans HN2.out)
    have lr := lt_of_block hb2.out
    clear hI
    by_cases hlk : k < s.a.length
    · obtain ⟨b, off, cap', pf, cf, hp, g0, g1, hin, lb⟩ := (H1.out.later HI.out.below).at hlk
      obtain rfl : p = some ⟨b, off, none⟩ := by cases hp; rfl
      have k2 : (k : Int) < (s.a.length : Int) := by omega
      have hff := HF.out _ (List.getElem_mem hlk)
      have hflen : s.a[k].cs.length ≤ 9223372036854775807 := by have := (form_iff hff).2.1; omega
      have HVa := Lib.hid (va_two hx4 hff HFi.out)
      have HBad : Hid (argB (worth s.a[k] x) = false → mkB s x = false) := Lib.hid (mkB_no hlk)
      have HStep : Hid (∀ (wi w3 : World) (v2 : Value) (tmp : Obj), InM WA s.c s.a x k (.slice pa k capa) wi → w3.ownsRow (WA.heap.size + 1) 3 1 v2 (k + 1) (valsL (wos s.a x k) ++ [.int .i64 (worth s.a[k] x)]) → (wi.alloc tmp).grownBy w3 (Value.slice pa k capa).ownBlock → argB (worth s.a[k] x) = true → InM WA s.c s.a x (k + 1) v2 (w3.setCell ⟨WA.heap.size, 1, none⟩ v2)) := Lib.hid (fun wi w3 v2 tmp h ho hg hb => inM_step h hlk ho hg hb)
      obtain ⟨W2, hW2⟩ : ∃ W, W = wr.alloc (.cells #[.int .i64 s.a[k].k, .slice pf s.a[k].cs.length cf] 35) := ⟨_, rfl⟩
      have bb2 : Below wr.heap.size wr W2 := by rw [hW2]; exact (Below.refl _ _).alloc (Nat.le_refl _) _
      have E2 := Lib.hid bb2
      have KV := Lib.hid (prvalue_any s.a[k] x _ _ hflen (by omega) W2 (hin.later bb2) ((H2.out.later HI.out.below).later bb2))
      obtain ⟨z, hz⟩ : ∃ z, worth s.a[k] x = z := ⟨_, rfl⟩
      obtain ⟨zc, hzc⟩ : ∃ z, vaC s.a[k] x = z := ⟨_, rfl⟩
      obtain ⟨zv, hzv⟩ : ∃ z, vaV s.a[k] x = z := ⟨_, rfl⟩
      rw [hz] at HVa HBad HStep
      rw [hzc, hzv] at HVa KV
      generalize s.a[k].k = fk at g0 hW2 KV
      generalize s.a[k].cs.length = fl at g1 hW2 KV
      clear hp hin hff hflen hz hzc hzv bb2
      cases hab : argB z with
      | false =>
        obtain ⟨rfl, rfl⟩ := HVa.out.1 hab
        have HBd := Lib.hid (HBad.out hab)
        clear hab
        go_wp2_with fail
        rw [← hW2]
        clear hW2
        go_wp2_with fail
        refine KV.out.mono ?_
        rintro e w3 ⟨rfl, hb⟩
        have E3 := Lib.hid (E2.out.trans (hb.mono E2.out.size))
        have HB3 := Lib.hid (HB.out.trans (E3.out.mono HB.out.size))
        have b3 := (E3.out.block _ lr).trans hb2.out
        have HBe : Hid (∀ v v', Below w.heap.size w ((w3.setCell ⟨w.heap.size + 1, 0, none⟩ v).setCell ⟨w.heap.size + 1, 1, none⟩ v')) := Lib.hid (fun v v' => (HB3.out.setCell (p := ⟨w.heap.size + 1, 0, none⟩) (Nat.le_succ _) _).setCell (p := ⟨w.heap.size + 1, 1, none⟩) (Nat.le_succ _) _)
        have s0 := cell_two0 b3
        have s1 := cell_two1 b3
        have f0 := free_two0 b3
        have f1 := free_two1 b3
        have l3 := lt_of_block b3
        have HB3b := Lib.hid b3
        clear hb b3
        go_wp2_with fail
        have e3 := two_set HB3b.out (.int .u8 0) (.slice none 0 0)
        have e0 := cell_two0 e3
        have e1 := cell_two1 e3
        exact bodyPost_ret (v := .tuple #[.agg #[.int .u8 0, .slice none 0 0], .int .i64 16]) (by simp [results, Tryd.results35, go_sem, e0, e1] <;> rfl) rfl (HE0.out _ (HBe.out _ _) HBd.out)
      | true =>
        obtain ⟨rfl, rfl⟩ := HVa.out.2 hab
        have HGd := Lib.hid hab
        clear hab
        go_wp2_with fail
        rw [← hW2]
        clear hW2
        go_wp2_with fail
        refine KV.out.mono ?_
        rintro e w3 ⟨rfl, hb⟩
        have E3 := Lib.hid (E2.out.trans (hb.mono E2.out.size))
        have HI3 := Lib.hid (HI.out.later E3.out)
        have m1 := (E3.out.cell (p := ⟨w.heap.size + 1 + 1, 1, none⟩) lw).trans u1
        have P6 : Hid ((w3.alloc (.cells #[.int .i64 zv] 3)).ownsRow (WA.heap.size + 1) 3 1 (.slice pa k capa) k (valsL (wos s.a x k))) := Lib.hid (HI3.out.own.alloc _)
        have hzq := HI3.out.below.size
        clear hb
        go_wp2_with (at_builtin; refine wpList_append_own _ rfl _ _ 23 rfl (WA.heap.size + 1) 3 i0 (.int .i64 0) 1 8 Tryd.underlying23 hi hz0 hz1 hz2 rfl (by decide) (.slice pa k capa) k (valsL (wos s.a x k)) rfl P6.out ⟨w3.heap.size, 0, none⟩ 1 1 [.int .i64 zv] rfl rfl (cell_one_new _ _ _) (by simp [Value.oneCell']) (by rw [HM.out]; omega) (by omega) (by simp; omega) ?_; intro v2 w4 ho2 hg2 hn2; have N3 := inM_blk HI3.out hg2; have I2 := Lib.hid (HStep.out _ _ _ _ HI3.out ho2 hg2 HGd.out); obtain ⟨p4, c4, rfl⟩ := fr_slice ho2; rw [hsz] at N3; rw [hsz] at I2; have q2 := cell_two0 N3; have q3 := cell_two1 N3; have fr1 : w4.frozen? ⟨w.heap.size + 1 + 1, 1, none⟩ = false := (by simp [World.frozen?, N3]); have l3 : w.heap.size + 1 + 1 < w4.heap.size := (lt_of_block N3); clear ho2 hg2 hn2 N3)
        go_wp2_with fail
        go_roundw
        case rel => exact ⟨k + 1, _, by go_num, I2.out⟩
        case measure => simp [intOf]; omega
    · obtain rfl : k = s.a.length := by omega
      have b3 := hb2.out
      have HBe : Hid (∀ v v', Below w.heap.size w ((wr.setCell ⟨w.heap.size + 1, 0, none⟩ v).setCell ⟨w.heap.size + 1, 1, none⟩ v')) := Lib.hid (fun v v' => (HB.out.setCell (p := ⟨w.heap.size + 1, 0, none⟩) (Nat.le_succ _) _).setCell (p := ⟨w.heap.size + 1, 1, none⟩) (Nat.le_succ _) _)
      have s0 := cell_two0 b3
      have s1 := cell_two1 b3
      have f0 := free_two0 b3
      have f1 := free_two1 b3
      have HE : Hid (∀ v v', FlEnd s x w (.returned (.tuple #[.agg #[.int .u8 s.c.toNat, .slice pa s.a.length capa], .int .i64 0])) ((wr.setCell ⟨w.heap.size + 1, 0, none⟩ v).setCell ⟨w.heap.size + 1, 1, none⟩ v')) := Lib.hid (fun v v' => by
        refine ⟨HBe.out v v', .inr ⟨mkB_ok (fun j hj => HI.out.good j hj hj), _, rfl, ?_⟩⟩
        have h := HI.out.own
        rw [wos_all] at h
        have h2 := ownsRow_setCell_other h (a := ⟨w.heap.size + 1, 0, none⟩) (by intro e; have h9 : WA.heap.size + 1 ≤ w.heap.size + 1 := (owns_lt h _ e).1; omega) v
        have h3 := ownsRow_setCell_other h2 (a := ⟨w.heap.size + 1, 1, none⟩) (by intro e; have h9 : WA.heap.size + 1 ≤ w.heap.size + 1 := (owns_lt h2 _ e).1; omega) v'
        exact owns_mono h3 (by omega))
      clear b3
      go_wp2_with fail
      have e3 := two_set hb2.out (.int .u8 s.c.toNat) (.slice pa s.a.length capa)
      have e0 := cell_two0 e3
      have e1 := cell_two1 e3
      exact bodyPost_ret (v := .tuple #[.agg #[.int .u8 s.c.toNat, .slice pa s.a.length capa], .int .i64 0]) (by simp [results, Tryd.results35, go_sem, e0, e1] <;> rfl) rfl (HE.out _ _)
end Go.Proofs.YtlmofdmbcddddaaDoor
namespace Go.Proofs.YtlmofdmbcddddaaDoor
open Go.RowKit
set_option linter.unusedVariables false
set_option linter.unusedSimpArgs false

variable {F : Fence} {n : Nat} {P : Program} {α : Type}

/-- What a round may do: it writes block B and the row r, which may be a new one behind. -/
structure StepK (N0 B : Nat) (r r' : Option Nat) (W W' : World) : Prop where
  below : Below N0 W W'
  keep : ∀ (k : Nat) (o : Obj), W.heap[k]? = some o → o.isCells = true → k ≠ B → some k ≠ r → W'.heap[k]? = some o
  row : r' = r ∨ ∀ g, r' = some g → W.heap.size ≤ g
theorem StepK.trans {N0 B : Nat} {r1 r2 r3 : Option Nat} {X Y Z : World} (h : StepK N0 B r1 r2 X Y) (k : StepK N0 B r2 r3 Y Z) : StepK N0 B r1 r3 X Z := by
  refine ⟨h.below.trans k.below, fun j o hj ho hb hr => ?_, ?_⟩
  · refine k.keep j o (h.keep j o hj ho hb hr) ho hb ?_
    rcases h.row with e | e
    · rw [e]; exact hr
    · intro e2
      have := e j e2.symm
      have := lt_of_block hj
      omega
  · have hs := h.below.size
    rcases k.row with e | e
    · rw [e]; exact h.row
    · exact .inr fun g hg => Nat.le_trans hs (e g hg)
theorem StepK.alloc {N0 B : Nat} {r : Option Nat} {W : World} (hN : N0 ≤ W.heap.size) (o : Obj) : StepK N0 B r r W (W.alloc o) := ⟨(Below.refl _ _).alloc hN _, fun k o2 hk _ _ _ => heap_alloc_old hk _, .inl rfl⟩
theorem StepK.put {N0 B : Nat} {r : Option Nat} {W : World} {l : Nat} {o o' : Obj} (hl : W.heap[l]? = some o) (ho : o.isCells = false) (hb : Below N0 W (W.putObj l o')) : StepK N0 B r r W (W.putObj l o') :=
  ⟨hb, fun k o2 hk ho2 _ _ => by
    by_cases e : k = l
    · subst e; rw [hl] at hk; cases hk; rw [ho] at ho2; cases ho2
    · exact (World.putObj_heap_other e).trans hk, .inl rfl⟩
/-- What a round promises the iterator. -/
def TellR (N0 B : Nat) (J : Option Nat → List α → World → Prop) (Jx : List α → World → Prop) (r : Option Nat) (pre : List α) (W1 : World) (e : Ending) (W' : World) : Prop :=
  (e = .returned (.bool true) ∧ ∃ r', StepK N0 B r r' W1 W' ∧ J r' pre W') ∨ (e = .returned (.bool false) ∧ Jx pre W')
/-- What an iterator promises that tells where its values lie. -/
def Tells (F : Fence) (n : Nat) (P : Program) (g : Nat) (lb : Array Value) (en : α → Array Value) (N0 B : Nat) (Qx : α → World → Prop) (S Sp : List α → Prop) (N : Nat) (w : World) : Prop :=
  ∀ (l : Nat) (J : Option Nat → List α → World → Prop) (Jx : List α → World → Prop) (W : World), Below w.heap.size w W → AbidesFrom W.heap.size (fun (s : Option Nat × List α) => J s.1 s.2) → AbidesFrom W.heap.size Jx →
    (∀ r pre W1, J r pre W1 → ∀ g, r = some g → g < W1.heap.size) →
    (∀ r pre x W1, J r pre W1 → Qx x W1 → pre.length < N → YieldAt F (n - 1) P l (en x) W1 (TellR N0 B J Jx r (pre ++ [x]) W1)) → J none [] W →
    CallsIn F n P g (#[.func (.yield l) #[] #[]] ++ lb) W fun e W' => (∃ v, e = .returned v) ∧ ((∃ r xs, S xs ∧ J r xs W') ∨ (∃ pre, Sp pre ∧ Jx pre W'))
/-- How a round's body may end. -/
def TellB (b N0 B : Nat) (I : Option Nat → List α → World → Prop) (Ix : List α → World → Prop) (r : Option Nat) (pre : List α) (W : World) : Exit → Act → World → Prop
  | .normal, _, W' => KeepsFrom b W W' ∧ ∃ r', StepK N0 B r r' W W' ∧ I r' pre W'
  | .ret, _, W' => KeepsFrom b W W' ∧ Ix pre W'
  | _, _, _ => False
/-- The loop's two blocks. -/
structure Two (w W : World) (r : Loop) : Prop where
  lp : W.heap[w.heap.size + 1]? = some (.loop r)
  col : W.heap[w.heap.size]? = some (.deferred (some []))
theorem Two.lt {w W : World} {r : Loop} (h : Two w W r) : w.heap.size + 1 < W.heap.size := lt_of_block h.lp
theorem Two.put {w W : World} {r : Loop} (h : Two w W r) (r' : Loop) : Two w (W.putObj (w.heap.size + 1) (.loop r')) r' :=
  ⟨World.putObj_heap_same h.lt, (World.putObj_heap_other (by omega)).trans h.col⟩
theorem Two.kept {w W W' : World} {r : Loop} (h : Two w W r) (hk : KeepsFrom w.heap.size W W') : Two w W' r := ⟨hk.same _ _ (by omega) h.lp rfl, hk.same _ _ (Nat.le_refl _) h.col rfl⟩
theorem Two.grown {w W W' : World} {r : Loop} {row : Option Nat} (h : Two w W r) (hg : W.grownBy W' row) (hr : ∀ j, row = some j → ∃ o : Obj, W.heap[j]? = some o ∧ o.isWalk = true) : Two w W' r :=
  ⟨(grownBy_keeps hg hr h.lp rfl).trans h.lp, (grownBy_keeps hg hr h.col rfl).trans h.col⟩
theorem Two.own {w W : World} {r : Loop} {β : Type} {I : β → World → Prop} (h : Two w W r) (hI : OwnFrom w.heap.size I) {s : β} (hs : I s W) (r' : Loop) : I s (W.putObj (w.heap.size + 1) (.loop r')) :=
  hI.putObj _ hs (by omega) h.lp rfl
theorem Two.step {w W : World} {r : Loop} (h : Two w W r) {N0 : Nat} (hN : N0 ≤ w.heap.size) (B : Nat) (q : Option Nat) (r' : Loop) : StepK N0 B q q W (W.putObj (w.heap.size + 1) (.loop r')) :=
  StepK.put h.lp rfl (belowK_b (w := w) hN W _ _ _ (by omega) h.lp rfl rfl)
theorem own_abides {w : World} {B : Nat} {β : Type} {I : β → World → Prop} (hI : OwnFrom w.heap.size I) (hB : w.heap.size ≤ B) {s : β} {A A' : World} {row : Option Nat} (hs : I s A) (hg : A.grownBy A' row) (hr : ∀ j, row = some j → B ≤ j ∧ ∃ o : Obj, A.heap[j]? = some o ∧ o.isWalk = true) : I s A' :=
  hI s A A' row hs hg fun j e => by obtain ⟨h1, o, h2, h3⟩ := hr j e; exact ⟨by omega, o, h2, Obj.not_cells_of_walk h3⟩

theorem range_tells {g : Operand} {ps : Array Tmp} {assign body : Code} {Q : Exit → Act → World → Prop} {a : Act} {w : World} (hro : F.round = none) (h1 : 1 ≤ n) {gf : Nat} {lb : Array Value} (hg : a.eval g = .func (.func gf) #[] lb) (hFg : F.fn gf)
    (eg : ∀ args w, (callFunc gf args).run P w = .ok (.enter gf args) w) {en : α → Array Value} {N0 B : Nat} {Qx : α → World → Prop} {S Sp : List α → Prop} {N : Nat} {w0 : World} (hit : Tells F (n - 1) P gf lb en N0 B Qx S Sp N w0)
    (hN0 : N0 ≤ w.heap.size) (hb0 : Below w0.heap.size w0 w) (hps : ∀ x, (en x).size = ps.size) (I : Option Nat → List α → World → Prop) (Ix : List α → World → Prop) (hIr : ∀ r pre W1, I r pre W1 → ∀ g, r = some g → g < W1.heap.size) (hI : OwnFrom w.heap.size (fun (s : Option Nat × List α) => I s.1 s.2)) (hIx : OwnFrom w.heap.size Ix) (hQ : OwnFrom w.heap.size Qx) (h0 : I none [] w) (ob : α → Obj) (a₁ : α → Nat → Act)
    (hassign : ∀ (l : Nat) (x : α) (W : World) (K : Act → World → Prop), K (a₁ x W.heap.size) (W.alloc (ob x)) →
      assign.wpIn (F.inRound l) (n - 1 - 1) P (Exit.then K (fun _ _ _ => False)) { tmps := (ps.zip (en x)).foldl (fun t (p, v) => t.setIfInBounds p v) a.tmps, defers := [] } W)
    (hbody : ∀ (l : Nat) (r : Option Nat) (pre : List α) (x : α) (mb : Nat) (W : World), I r pre W → Qx x W → W.heap[mb]? = some (ob x) → some mb ≠ r → w.heap.size ≤ mb → pre.length < N → body.wpIn (F.inRound l) (n - 1 - 1) P (TellB w.heap.size N0 B I Ix r (pre ++ [x]) W) (a₁ x mb) W)
    (hdone : ∀ (D : Nat) (r : Option Nat) (xs : List α) (W : World), w.heap.size ≤ D → S xs → I r xs W → W.heap[D]? = some (.deferred (some [])) → Q .normal { a with defers := { target := .collected D, args := #[] } :: a.defers } W)
    (hstop : ∀ (D : Nat) (pre : List α) (W : World), w.heap.size ≤ D → Sp pre → Ix pre W → W.heap[D]? = some (.deferred (some [])) → Code.ret.wpIn F n P Q { a with defers := { target := .collected D, args := #[] } :: a.defers } W) :
    (Code.rangeFunc g ps assign body).wpIn F n P Q a w := by
  refine wpIn_rangeFunc fun fn hfn => ?_
  obtain ⟨r0, hr0⟩ : ∃ r0 : Loop, r0 = { state := .ready, pending := none, fn, tmps := a.tmps, params := ps, assign, body, defers := w.heap.size } := ⟨_, rfl⟩
  obtain ⟨W1, hW1⟩ : ∃ W1, W1 = (w.alloc (.deferred (some []))).alloc (.loop r0) := ⟨_, rfl⟩
  have T1 : Two w W1 r0 := by
    rw [hW1]
    exact ⟨by have := World.alloc_heap_new (w.alloc (.deferred (some []))) (.loop r0); rwa [World.size_alloc] at this, heap_alloc_old (World.alloc_heap_new w _) _⟩
  have hsz : W1.heap.size = w.heap.size + 2 := by rw [hW1]; simp
  have hB1 : Below w.heap.size w W1 := by rw [hW1]; exact ((Below.refl _ w).alloc (Nat.le_refl _) _).alloc (by simp) _
  refine ⟨w.heap.size + 1, [{ target := .collected w.heap.size, args := #[] }], W1, { target := .fn (.func gf) lb, args := #[.func (.yield (w.heap.size + 1)) #[] #[]] }, W1, gf, #[.func (.yield (w.heap.size + 1)) #[] #[]] ++ lb, W1, ?_, ?_, ?_, ?_, fun _ => h1, ?_⟩
  · rw [hro, hW1, hr0]; exact run_enterLoop_outer _ _ _ _ _
  · simp only [resolve, hg]; simp [go_sem]
  · intro f' hf'
    simp [Target.leads] at hf'
    subst hf'; exact hFg
  · simp [invoke, go_sem, eg]
  have ab : ∀ {β : Type} {I : β → World → Prop}, OwnFrom w.heap.size I → AbidesFrom W1.heap.size I := fun hI s A A' row hs hg hr => own_abides hI (by omega) hs hg hr
  refine (hit (w.heap.size + 1) (fun r pre W => I r pre W ∧ Two w W r0) (fun pre W => Ix pre W ∧ Two w W { r0 with state := .done, pending := some .ret }) W1 (hb0.trans (hB1.mono hb0.size))
    (fun s A A' row hs hg hr => ⟨ab hI s A A' row hs.1 hg hr, hs.2.grown hg fun j e => (hr j e).2⟩) (fun s A A' row hs hg hr => ⟨ab hIx s A A' row hs.1 hg hr, hs.2.grown hg fun j e => (hr j e).2⟩) (fun r pre W h => hIr r pre W h.1) ?_
    ⟨by rw [hW1]; exact hI.alloc (s := (none, [])) _ (hI.alloc (s := (none, [])) _ h0), T1⟩).mono ?_
  · rintro r pre x W ⟨hi, hT⟩ hq hlen
    have hy := run_yield (P := P) (args := en x) hT.lp (by rw [hr0]; exact hps x)
    rw [hr0] at hy
    have hT1 : Two w (W.alloc (ob x)) r0 := hT.grown (World.grownBy_alloc W _ none) (fun j e => by cases e)
    refine ⟨fn, _, assign, body, hy, roundIn_of_wpIn hfn (hassign _ x W _ ⟨_, run_beginRound hT1.lp (by rw [hr0]), ?_⟩)⟩
    have T2 := hT1.put { r0 with state := .busy }
    have hlt := hT.lt
    have s1 : StepK N0 B r r W (W.alloc (ob x)) := StepK.alloc (by omega) _
    refine wpIn_mono (hbody _ r pre x W.heap.size _ (hT1.own hI (s := (r, pre)) (hI.alloc (s := (r, pre)) _ hi) _) (hT1.own hQ (hQ.alloc _ hq) _) ((World.putObj_heap_other (by omega)).trans (World.alloc_heap_new W _)) (fun e => by have := hIr r pre W hi _ e.symm; omega) (by omega) hlen) ?_
    rintro e a3 W3 hp
    cases e with
    | normal =>
      obtain ⟨k3, r', b3, i3⟩ := hp
      have T3 := T2.kept k3
      have T4 := T3.put r0
      refine ⟨_, _, run_endRound none T3.lp, .inl ⟨rfl, r', ((s1.trans (hT1.step hN0 B r _)).trans b3).trans (T3.step hN0 B r' _), T3.own hI (s := (r', _)) i3 _, ?_⟩⟩
      have e0 : ({ ({ r0 with state := .busy } : Loop) with state := .ready, pending := none } : Loop) = r0 := by rw [hr0]
      show Two w (W3.putObj (w.heap.size + 1) (.loop { ({ r0 with state := .busy } : Loop) with state := .ready, pending := none })) r0
      rw [e0]; exact T4
    | ret =>
      obtain ⟨k3, i3⟩ := hp
      have T3 := T2.kept k3
      exact ⟨_, _, run_endRound (some .ret) T3.lp, .inr ⟨rfl, T3.own hIx i3 _, T3.put { r0 with state := .done, pending := some .ret }⟩⟩
    | exit id => exact hp.elim
    | goto t => exact hp.elim
    | panic ch => exact hp.elim
    | outgrown => exact hp.elim
  · rintro e W2 ⟨⟨v, rfl⟩, ⟨r, xs, hS, hi, hT⟩ | ⟨pre, hSp, hi, hT⟩⟩
    · refine ⟨none, _, by have := run_endLoop (P := P) hT.lp (by rw [hr0]; simp); rw [show r0.pending = none by rw [hr0]] at this; exact this, hdone _ r xs _ (Nat.le_refl _) hS (hT.own hI (s := (r, xs)) hi _) (hT.put _).col⟩
    · exact ⟨some .ret, _, run_endLoop (P := P) hT.lp (by simp), hstop _ pre _ (Nat.le_refl _) hSp (hT.own hIx hi _) (hT.put _).col⟩
end Go.Proofs.YtlmofdmbcddddaaDoor
namespace Go.Proofs.YtlmofdmbcddddaaDoor
open Go.RowKit Go.Shelf
open WM RM
set_option linter.unusedVariables false
set_option linter.unusedSimpArgs false
attribute [local go_sem] Oper.semAt_some

/-- What the iterator hands on: a module (or none, where an arg is out of range) and its args' slice. -/
structure Yx where
  o : Option Md
  p : Option Addr
  n : Nat
  c : Nat
abbrev Yx.v (x : Yx) : Value := .slice x.p x.n x.c
def Yx.cn (x : Yx) : Int := match x.o with | some m => m.c.toNat | none => 0
def Yx.er (x : Yx) : Int := match x.o with | some _ => 0 | none => 16
def yV (x : Yx) : Array Value := #[.agg #[.int .u8 x.cn, x.v], .int .i64 x.er]
def Yx.at (b0 : Nat) (x : Yx) (W : World) : Prop := match x.o with | some m => W.ownsRow b0 3 1 x.v m.a.length (valsL m.a) | none => x.v = .slice none 0 0
theorem seq_cut {l : List Rw} {u : List Md} {i : Nat} (hi : i < u.length) : seqO l u = seqO l (u.take i) ++ (sucO l u[i] ++ seqO l (u.drop (i + 1))) := by
  have e : u = u.take i ++ (u[i] :: u.drop (i + 1)) := by rw [← List.drop_eq_getElem_cons hi, List.take_append_drop]
  have : seqO l u = seqO l (u.take i ++ (u[i] :: u.drop (i + 1))) := by rw [← e]
  rw [this]
  unfold seqO
  rw [List.flatMap_append, List.flatMap_cons]
theorem seq_pre {l : List Rw} {u : List Md} {i k : Nat} (hi : i < u.length) : seqO l (u.take i) ++ (sucO l u[i]).take k <+: seqO l u := by
  rw [seq_cut hi]
  refine ⟨(sucO l u[i]).drop k ++ seqO l (u.drop (i + 1)), ?_⟩
  rw [List.append_assoc]
  congr 1
  rw [← List.append_assoc, List.take_append_drop]
theorem seq_step {l : List Rw} {u : List Md} {i k : Nat} (hi : i < u.length) (hk : k < (sucO l u[i]).length) {pre : List Yx} (hp : pre.map Yx.o = seqO l (u.take i) ++ (sucO l u[i]).take k) {x : Yx} (hx : x.o = (sucO l u[i])[k]) :
    pre.length < (seqO l u).length ∧ (pre ++ [x]).map Yx.o = seqO l (u.take i) ++ (sucO l u[i]).take (k + 1) ∧ (pre ++ [x]).map Yx.o <+: seqO l u := by
  have h2 : (pre ++ [x]).map Yx.o = seqO l (u.take i) ++ (sucO l u[i]).take (k + 1) := by
    rw [List.map_append, hp, List.map_cons, List.map_nil, hx, List.take_succ_eq_append_getElem hk, List.append_assoc]
  have h3 : (pre ++ [x]).map Yx.o <+: seqO l u := by rw [h2]; exact seq_pre hi
  refine ⟨?_, h2, h3⟩
  have := h3.length_le
  rw [List.length_map, List.length_append] at this
  simp at this; omega
theorem seq_end {l : List Rw} {u : List Md} {i : Nat} (hi : i < u.length) : seqO l (u.take i) ++ (sucO l u[i]).take (sucO l u[i]).length = seqO l (u.take (i + 1)) := by rw [List.take_length, seqO_snoc hi]
theorem abides_on {β : Type} {B : Nat} {J : β → World → Prop} (h : AbidesFrom B J) {s : β} {W W' : World} (hj : J s W) (hb : Below W.heap.size W W') : J s W' := h s W W' none hj (grown_of_below hb none) (fun r e => by cases e)
theorem keep_row {r r' : Option Nat} {N0 B k : Nat} {W W' : World} (h : StepK N0 B r r' W W') (hk : k < W.heap.size) (hr : some k ≠ r) : some k ≠ r' := by
  rcases h.row with e | e
  · rw [e]; exact hr
  · intro e2
    have := e k e2.symm; omega
theorem at_made {b0 N : Nat} {w : World} {s : Sh} {x : List Int} {pv : Option Addr} {cv : Nat} (h : w.ownsRow N 3 1 (.slice pv s.a.length cv) s.a.length (valsL (s.a.map (worth · x)))) (hb : b0 ≤ N) : (⟨some (mkM s x), pv, s.a.length, cv⟩ : Yx).at b0 w := by
  have e : (mkM s x).a.length = s.a.length := by simp [mkM]
  show w.ownsRow b0 3 1 (.slice pv s.a.length cv) (mkM s x).a.length (valsL (mkM s x).a)
  rw [e]
  exact owns_mono h hb
theorem first_fit' {l : List Rw} {m : Md} : ∀ {k : Nat}, first l m = (k : Int) → ∃ hk : k < l.length, fitB l[k] m = true := by
  have key : ∀ (l : List Rw) (i : Int) (k : Nat), firstF l m i = i + k → 0 ≤ i → ∃ hk : k < l.length, fitB l[k] m = true := by
    intro l
    induction l with
    | nil => intro i k h h0; simp [firstF] at h; omega
    | cons r l ih =>
      intro i k h h0
      unfold firstF at h
      by_cases hf : fitB r m = true
      · rw [if_pos hf] at h
        obtain rfl : k = 0 := by omega
        exact ⟨by simp, hf⟩
      · rw [if_neg hf] at h
        cases k with
        | zero =>
          exfalso
          rcases firstF_rng l m (i + 1) with h2 | ⟨h2, _⟩
          · omega
          · omega
        | succ k =>
          obtain ⟨hk, h3⟩ := ih (i + 1) k (by omega) (by omega)
          exact ⟨by simp; omega, by simpa using h3⟩
  intro k h
  exact key l 0 k (by unfold first at h; omega) (by omega)
theorem fit_ar' {r : Rw} {m : Md} (h : fitB r m = true) : r.ar = (m.a.length : Int) := by
  unfold fitB at h
  simp only [Bool.and_eq_true, decide_eq_true_eq] at h
  exact h.1.2
theorem rule_forms' {r : Rw} (h : ruleB r = true) : ∀ s ∈ r.out, ∀ f ∈ s.a, formB f r.ar = true := by
  unfold ruleB at h
  simp only [Bool.and_eq_true] at h
  intro s hs f hf
  have h1 := List.all_eq_true.1 h.1.2 s hs
  unfold shB at h1
  simp only [Bool.and_eq_true] at h1
  exact List.all_eq_true.1 h1.2 f hf
/-- Where the loop over the word stands. -/
structure OutI (w0 : World) (BR B : Nat) (vr : Value) (l : List Rw) (u : List Md) (J : Option Nat → List Yx → World → Prop) (i : Nat) (wr : World) : Prop where
  hi : i ≤ u.length
  own : ∃ r pre, pre.map Yx.o = seqO l (u.take i) ∧ J r pre wr ∧ some BR ≠ r
  below : Below w0.heap.size w0 wr
  box : wr.heap[BR]? = some (.cells #[vr] 26 (0, 0))
  hB : B < wr.heap.size
/-- Where the loop over a rule's shapes stands. -/
structure InI (w0 : World) (BR mb : Nat) (mo : Obj) (vr : Value) (l : List Rw) (u : List Md) (sq : List (Option Md)) (i : Nat) (J : Option Nat → List Yx → World → Prop) (k : Nat) (wr : World) : Prop where
  hk : k ≤ sq.length
  own : ∃ r pre, pre.map Yx.o = seqO l (u.take i) ++ sq.take k ∧ J r pre wr ∧ some BR ≠ r ∧ some mb ≠ r
  below : Below w0.heap.size w0 wr
  box : wr.heap[BR]? = some (.cells #[vr] 26 (0, 0))
  mod : wr.heap[mb]? = some mo
theorem cell_box {w : World} {b : Nat} {x : Value} {t : TypeId} (h : w.heap[b]? = some (.cells #[x] t (0, 0))) : w.cell? ⟨b, 0, none⟩ = some x := by simp [World.cell?, h]
set_option maxRecDepth 100000 in
set_option maxHeartbeats 6400000 in
theorem succ1_in (n lp BR BW B b0 : Nat) (w0 : World) (p : Option Addr) (cap : Nat) (l : List Rw) (hl : l.length ≤ 9223372036854775807) (hs : ∀ r ∈ l, RwSm r) (hru : ∀ r ∈ l, ruleB r = true)
    (wv : Value) (u : List Md) (us : List Value) (hu : u.length ≤ 2100) (huf : ∀ m ∈ u, fineB m = true) (hb0 : b0 ≤ w0.heap.size) (h1 : Rws w0 (.slice p l.length cap) l) (h2 : ModFr w0 b0 wv u us)
    (J : Option Nat → List Yx → World → Prop) (Jx : List Yx → World → Prop) (BB : Nat) (hJ : AbidesFrom BB (fun (s : Option Nat × List Yx) => J s.1 s.2)) (hJr : ∀ r pre W1, J r pre W1 → ∀ g, r = some g → g < W1.heap.size)
    (hY : ∀ r pre x W1, J r pre W1 → x.at b0 W1 → pre.length < (seqO l u).length → YieldAt Fence.wide (n - 1) Tryd.prog lp (yV x) W1 (TellR w0.heap.size B J Jx r (pre ++ [x]) W1))
    (W : World) (hW : Below w0.heap.size w0 W) (hbr : W.heap[BR]? = some (.cells #[.slice p l.length cap] 26 (0, 0))) (hbw : W.cell? ⟨BW, 0, none⟩ = some wv) (hBR : BR ≠ B) (hBl : B < W.heap.size) (h0 : J none [] W) :
    CallsIn Fence.wide n Tryd.prog 34 #[.func (.yield lp) #[] #[], .pointer (some ⟨BW, 0, none⟩), .pointer (some ⟨BR, 0, none⟩)] W fun e W' => (∃ v, e = .returned v) ∧ ((∃ r xs, xs.map Yx.o = seqO l u ∧ J r xs W') ∨ (∃ pre, pre.map Yx.o <+: seqO l u ∧ Jx pre W')) := by
  refine callsIn_of_wp Tryd.func34 rfl trivial ?_ rfl
  simp only [Tryd.ntmps34, List.size_toArray, List.length_cons, List.length_nil, Nat.reduceAdd, Nat.reduceSub, Array.replicate_succ, Array.replicate_zero, List.push_toArray, List.append_toArray, List.nil_append, List.cons_append]
  have HY := Lib.hid hY
  have HJ := Lib.hid hJ
  have HJr := Lib.hid hJr
  have HS := Lib.hid hs
  have HRu := Lib.hid hru
  have HUf := Lib.hid huf
  have H1 := Lib.hid h1
  have H2 := Lib.hid h2
  have O0 : Hid (OutI w0 BR B (.slice p l.length cap) l u J 0 W) := Lib.hid ⟨Nat.zero_le _, ⟨none, [], by simp [seqO], h0, by simp⟩, hW, hbr, hBl⟩
  obtain ⟨pw, cw, hwv⟩ := fr_slice h2.row
  subst hwv
  clear hY hJ hJr hs hru huf h1 h2 h0 hW hbr
  gi_wp2
  gi_loopw [11] (fun iv wr => ∃ i : Nat, iv = .int .i64 i ∧ OutI w0 BR B (.slice p l.length cap) l u J i wr) (fun iv _ => u.length - (intOf iv).toNat)
  case atStart => exact ⟨0, rfl, O0.out⟩
  case round =>
    rename World => wo
    obtain ⟨i, rfl, hO⟩ := hrel
    have HO := Lib.hid hO
    have hiu := hO.hi
    have hbx := cell_box hO.box
    have lbr := lt_of_block hO.box
    have hBl2 := hO.hB
    have hwz := hO.below.size
    clear hO
    by_cases hlt : i < u.length
    · have k1 : (i : Int) < (u.length : Int) := by omega
      obtain ⟨g, rfl⟩ : ∃ g, pw = some ⟨g, 0, none⟩ := by
        rcases H2.out.row.2 with ⟨_, h⟩ | ⟨g, c, cur, h, _⟩
        · omega
        · cases h; exact ⟨g, rfl⟩
      have hi2 : i < us.length := by rw [H2.out.len]; exact hlt
      have hro := (H2.out.later HO.out.below).row
      have e0 := hro.cellAt (i * 2) (by omega)
      have e1 := hro.cellAt (i * 2 + 1) (by omega)
      rw [(modC_get u us i hlt hi2).1] at e0
      rw [(modC_get u us i hlt hi2).2] at e1
      have HA := Lib.hid (H2.out.args i hlt hi2).own
      obtain ⟨q, cq, hq⟩ := fr_slice HA.out
      have HI := Lib.hid (ints_of_owned HA.out)
      rw [hq] at e1 HA HI
      have hfi := HUf.out _ (List.getElem_mem hlt)
      have HNx : Hid (∀ (k : Nat) (hk : k < (sucO l u[i]).length) (pre : List Yx) (x : Yx), pre.map Yx.o = seqO l (u.take i) ++ (sucO l u[i]).take k → x.o = (sucO l u[i])[k] → pre.length < (seqO l u).length ∧ (pre ++ [x]).map Yx.o = seqO l (u.take i) ++ (sucO l u[i]).take (k + 1) ∧ (pre ++ [x]).map Yx.o <+: seqO l u) := Lib.hid (fun k hk pre x h1 h2 => seq_step hlt hk h1 h2)
      have HEn := Lib.hid (seq_end (l := l) hlt)
      have HS1 : Hid (first l u[i] < 0 → sucO l u[i] = [some u[i]]) := Lib.hid sucO_self
      have HS2 : Hid (∀ k : Nat, first l u[i] = (k : Int) → ∀ hk : k < l.length, sucO l u[i] = l[k].out.map (shO · u[i].a)) := Lib.hid (fun k h hk => sucO_made h hk)
      obtain ⟨sq, hsq⟩ : ∃ sq, sucO l u[i] = sq := ⟨_, rfl⟩
      have HSq := Lib.hid hsq
      rw [hsq] at HNx HEn HS1 HS2
      obtain ⟨m, hm⟩ : ∃ m, u[i] = m := ⟨_, rfl⟩
      rw [hm] at e0 e1 HA HI hfi HS1 HS2
      have HFi := Lib.hid hfi
      obtain ⟨Wm, hWm⟩ : ∃ W, W = wo.alloc (.cells #[.int .u8 m.c.toNat, .slice q m.a.length cq] 25) := ⟨_, rfl⟩
      have Nm : Wm.heap[wo.heap.size]? = some (.cells #[.int .u8 m.c.toNat, .slice q m.a.length cq] 25 (0, 0)) := by rw [hWm]; exact heap_alloc_new _ _
      have bm : Below wo.heap.size wo Wm := by rw [hWm]; exact (Below.refl _ _).alloc (Nat.le_refl _) _
      have HNm := Lib.hid Nm
      have EM := Lib.hid bm
      have KT := Lib.hid (prfirst_any (.slice p l.length cap) l m (.slice q m.a.length cq) hl (fun r hr => ⟨rule_guards (HRu.out r hr), by have := (HS.out r hr).1; omega⟩) hfi Wm ((H1.out.later HO.out.below).later bm) ((HI.out.later HO.out.below).later bm))
      obtain ⟨z, hz⟩ : ∃ z, first l m = z := ⟨_, rfl⟩
      have HZ := Lib.hid hz
      rw [hz] at KT HS1 HS2
      have cm0 := cell_two0 Nm
      have cm1 := cell_two1 Nm
      have cbx := (bm.cell (p := ⟨BR, 0, none⟩) lbr).trans hbx
      have lm := lt_of_block Nm
      clear hro hq Nm bm hfi hz hsq hm
      gi_wp2_with fail
      rw [← hWm]
      clear hWm
      refine ⟨trivial, (fun h => by cases h), ?_⟩
      refine (callsIn_wide.2 KT.out).mono ?_
      rintro e w1 ⟨rfl, hb⟩
      have D1 := Lib.hid (EM.out.trans (hb.mono EM.out.size))
      have DW := Lib.hid (HO.out.below.trans (D1.out.mono hwz))
      have cn0 := (hb.cell (p := ⟨wo.heap.size, 0, none⟩) lm).trans cm0
      have cn1 := (hb.cell (p := ⟨wo.heap.size, 1, none⟩) lm).trans cm1
      have cby := (hb.cell (p := ⟨BR, 0, none⟩) (Nat.lt_trans lbr lm)).trans cbx
      have HN1 := Lib.hid ((hb.block _ lm).trans HNm.out)
      have HBx := Lib.hid ((D1.out.block _ lbr).trans HO.out.box)
      have hd1 := D1.out.size
      obtain ⟨r, pre, hpre, hj, hbrr⟩ := HO.out.own
      have HJ1 := Lib.hid (abides_on HJ.out (s := (r, pre)) hj D1.out)
      have HPr := Lib.hid hpre
      have HBr := Lib.hid hbrr
      have HMr : Hid (some wo.heap.size ≠ r) := Lib.hid (fun e => by have := HJr.out r pre wo hj _ e.symm; omega)
      clear hb hj hpre hbrr
      by_cases hz0 : z < 0
      · have hs1 := HS1.out hz0
        subst hs1
        have hy0 := HNx.out 0 (by simp) pre ⟨some m, q, m.a.length, cq⟩ (by simpa using HPr.out) rfl
        have HY0 := Lib.hid hy0
        have hY1 : YieldAt Fence.wide (n - 1) Tryd.prog lp #[.agg #[.int .u8 m.c.toNat, .slice q m.a.length cq], .int .i64 0] w1 (TellR w0.heap.size B J Jx r (pre ++ [⟨some m, q, m.a.length, cq⟩]) w1) :=
          HY.out r pre ⟨some m, q, m.a.length, cq⟩ w1 HJ1.out (l_own_later HA.out DW.out) hy0.1
        obtain ⟨fn, tmps, assign, body, hy, hR⟩ := hY1
        clear hy0
        gi_wp2_with fail
        refine ⟨(fun h => by cases h), ?_⟩
        refine hR.mono ?_
        rintro e W3 (⟨rfl, r', hk3, hJ3⟩ | ⟨rfl, hJx3⟩)
        · have HT : Hid (OutI w0 BR B (.slice p l.length cap) l u J (i + 1) W3) := Lib.hid ⟨hlt, ⟨r', _, by rw [HY0.out.2.1, ← HEn.out]; rfl, hJ3, keep_row hk3 (lt_of_block HBx.out) HBr.out⟩, DW.out.trans hk3.below, hk3.keep _ _ HBx.out rfl hBR HBr.out, by have := hk3.below.size; omega⟩
          clear hk3 hJ3 hR hy
          gi_wp2_with fail
          go_roundw
          case rel => exact ⟨i + 1, by go_num, HT.out⟩
          case measure => simp [intOf]; omega
        · have HJ3 := Lib.hid hJx3
          clear hJx3 hR hy
          gi_wp2_with fail
          exact bodyPost_ret (results_none rfl _ _ _) rfl ⟨⟨_, rfl⟩, .inr ⟨_, HY0.out.2.2, HJ3.out⟩⟩
      · obtain ⟨kk, hkk⟩ : ∃ kk : Nat, z = (kk : Int) := ⟨z.toNat, by omega⟩
        subst hkk
        obtain ⟨hkl, hfit⟩ := first_fit' HZ.out
        have hs2 := HS2.out kk rfl hkl
        have HRr := Lib.hid (HRu.out _ (List.getElem_mem hkl))
        have HSm := Lib.hid (HS.out _ (List.getElem_mem hkl))
        have HAr := Lib.hid (fit_ar' hfit)
        obtain ⟨b3, off3, cap3, gq, gc, o, oc, hp3, lb3, hat⟩ := H1.out.at hkl
        obtain rfl : p = some ⟨b3, off3, none⟩ := by cases hp3; rfl
        have x6 := (DW.out.cell (p := ⟨b3, off3 + kk * 7 + 6, none⟩) lb3).trans hat.c6
        have HOs := Lib.hid hat.out
        have k7 : (kk : Int) < (l.length : Int) := by omega
        obtain ⟨rr, hrr⟩ : ∃ rr, l[kk] = rr := ⟨_, rfl⟩
        rw [hrr] at hs2 HRr HSm HAr x6 HOs
        have hro30 : rr.out.length ≤ 30 := HSm.out.2.1
        clear hp3 hat hfit hrr
        subst hs2
        have hlen : (rr.out.map (shO · m.a)).length = rr.out.length := List.length_map _
        have I0 : Hid (InI w0 BR wo.heap.size (.cells #[.int .u8 m.c.toNat, .slice q m.a.length cq] 25 (0, 0)) (.slice (some ⟨b3, off3, none⟩) l.length cap) l u (rr.out.map (shO · m.a)) i J 0 w1) :=
          Lib.hid ⟨Nat.zero_le _, ⟨r, pre, by simpa using HPr.out, HJ1.out, HBr.out, HMr.out⟩, DW.out, HBx.out, HN1.out⟩
        gi_wp2_with fail
        gi_loopw [30] (fun iv wn => ∃ k : Nat, iv = .int .i64 k ∧ InI w0 BR wo.heap.size (.cells #[.int .u8 m.c.toNat, .slice q m.a.length cq] 25 (0, 0)) (.slice (some ⟨b3, off3, none⟩) l.length cap) l u (rr.out.map (shO · m.a)) i J k wn) (fun iv _ => rr.out.length - (intOf iv).toNat)
        case atStart => exact ⟨0, rfl, I0.out⟩
        case round =>
          rename World => wn
          obtain ⟨k, rfl, hIn⟩ := hrel
          have HIn := Lib.hid hIn
          have hkn := hIn.hk
          rw [hlen] at hkn
          have cd1 := cell_two1 hIn.mod
          have ld := lt_of_block hIn.mod
          have hnz := hIn.below.size
          clear hIn
          by_cases hlk : k < rr.out.length
          · have k2 : (k : Int) < (rr.out.length : Int) := by omega
            obtain ⟨bs, os, cs, qf, cf, hp, f0, f1, hin, lbs⟩ := (HOs.out.later HIn.out.below).at hlk
            obtain rfl : o = some ⟨bs, os, none⟩ := by cases hp; rfl
            have hk2 : k < (rr.out.map (shO · m.a)).length := by rw [hlen]; exact hlk
            have HNy := Lib.hid (HNx.out k hk2)
            have hget : (rr.out.map (shO · m.a))[k] = shO rr.out[k] m.a := by simp
            rw [hget] at HNy
            have hfo : ∀ f ∈ rr.out[k].a, formB f (m.a.length : Int) = true := by
              have h := rule_forms' HRr.out _ (List.getElem_mem hlk)
              rw [HAr.out] at h; exact h
            have ha10 := (HSm.out.2.2.2 _ (List.getElem_mem hlk)).1
            obtain ⟨s, hs⟩ : ∃ s, rr.out[k] = s := ⟨_, rfl⟩
            rw [hs] at f0 f1 hin HNy hfo ha10
            obtain ⟨Ws, hWs⟩ : ∃ W, W = wn.alloc (.cells #[.int .u8 s.c.toNat, .slice qf s.a.length cf] 33) := ⟨_, rfl⟩
            have bs2 : Below wn.heap.size wn Ws := by rw [hWs]; exact (Below.refl _ _).alloc (Nat.le_refl _) _
            have ES := Lib.hid bs2
            have KF := Lib.hid (filled_any s m.a (.slice qf s.a.length cf) (.slice q m.a.length cq) ha10 hfo (fine70_of HFi.out) Ws (hin.later bs2) ((HI.out.later HIn.out.below).later bs2))
            obtain ⟨r2, pre2, hpre2, hj2, hbr2, hmb2⟩ := HIn.out.own
            have HP2 := Lib.hid hpre2
            have HB2 := Lib.hid hbr2
            have HM2 := Lib.hid hmb2
            have HJ2 := Lib.hid hj2
            clear hp hin hget hs hfo bs2 hpre2 hbr2 hmb2 hj2
            gi_wp2_with fail
            rw [← hWs]
            clear hWs
            refine ⟨trivial, (fun h => by cases h), ?_⟩
            refine (callsIn_wide.2 KF.out).mono ?_
            rintro e w5 ⟨hb, ⟨hno, rfl⟩ | ⟨hyes, v, rfl, hown⟩⟩
            · have hy0 := HNy.out pre2 ⟨none, none, 0, 0⟩ HP2.out (by unfold shO; rw [hno]; rfl)
              have HY0 := Lib.hid hy0
              have DF := Lib.hid (ES.out.trans (hb.mono ES.out.size))
              have DW5 := Lib.hid (HIn.out.below.trans (DF.out.mono hnz))
              have HM5 := Lib.hid ((DF.out.block _ ld).trans HIn.out.mod)
              have HX5 := Lib.hid ((DF.out.block _ (lt_of_block HIn.out.box)).trans HIn.out.box)
              have HJ5 := Lib.hid (abides_on HJ.out (s := (r2, pre2)) HJ2.out DF.out)
              have hdz := DF.out.size
              have hY1 : YieldAt Fence.wide (n - 1) Tryd.prog lp #[.agg #[.int .u8 0, .slice none 0 0], .int .i64 16] w5 (TellR w0.heap.size B J Jx r2 (pre2 ++ [⟨none, none, 0, 0⟩]) w5) :=
                HY.out r2 pre2 ⟨none, none, 0, 0⟩ w5 HJ5.out (rfl) hy0.1
              obtain ⟨fn, tmps, assign, body, hy, hR⟩ := hY1
              clear hy0 hb
              gi_wp2_with fail
              refine ⟨(fun h => by cases h), ?_⟩
              refine hR.mono ?_
              rintro e W3 (⟨rfl, r', hk3, hJ3⟩ | ⟨rfl, hJx3⟩)
              · have HT : Hid (InI w0 BR wo.heap.size (.cells #[.int .u8 m.c.toNat, .slice q m.a.length cq] 25 (0, 0)) (.slice (some ⟨b3, off3, none⟩) l.length cap) l u (rr.out.map (shO · m.a)) i J (k + 1) W3) :=
                  Lib.hid ⟨by omega, ⟨r', _, HY0.out.2.1, hJ3, keep_row hk3 (lt_of_block HX5.out) HB2.out, keep_row hk3 (lt_of_block HM5.out) HM2.out⟩, DW5.out.trans hk3.below, hk3.keep _ _ HX5.out rfl hBR HB2.out, hk3.keep _ _ HM5.out rfl (by omega) HM2.out⟩
                clear hk3 hJ3 hR hy
                gi_wp2_with fail
                go_roundw
                case rel => exact ⟨k + 1, by go_num, HT.out⟩
                case measure => simp [intOf]; omega
              · have HJ3 := Lib.hid hJx3
                clear hJx3 hR hy
                gi_wp2_with fail
                exact bodyPost_ret (results_none rfl _ _ _) rfl ⟨⟨_, rfl⟩, .inr ⟨_, HY0.out.2.2, HJ3.out⟩⟩
            · obtain ⟨pv, cv, rfl⟩ := fr_slice hown
              have hy0 := HNy.out pre2 ⟨some (mkM s m.a), pv, s.a.length, cv⟩ HP2.out (by unfold shO; rw [hyes]; rfl)
              have HY0 := Lib.hid hy0
              have DF := Lib.hid (ES.out.trans (hb.mono ES.out.size))
              have DW5 := Lib.hid (HIn.out.below.trans (DF.out.mono hnz))
              have HM5 := Lib.hid ((DF.out.block _ ld).trans HIn.out.mod)
              have HX5 := Lib.hid ((DF.out.block _ (lt_of_block HIn.out.box)).trans HIn.out.box)
              have HJ5 := Lib.hid (abides_on HJ.out (s := (r2, pre2)) HJ2.out DF.out)
              have hdz := DF.out.size
              have hY1 : YieldAt Fence.wide (n - 1) Tryd.prog lp #[.agg #[.int .u8 s.c.toNat, .slice pv s.a.length cv], .int .i64 0] w5 (TellR w0.heap.size B J Jx r2 (pre2 ++ [⟨some (mkM s m.a), pv, s.a.length, cv⟩]) w5) :=
                HY.out r2 pre2 ⟨some (mkM s m.a), pv, s.a.length, cv⟩ w5 HJ5.out (at_made hown (by have := ES.out.size; omega)) hy0.1
              obtain ⟨fn, tmps, assign, body, hy, hR⟩ := hY1
              clear hy0 hb
              gi_wp2_with fail
              refine ⟨(fun h => by cases h), ?_⟩
              refine hR.mono ?_
              rintro e W3 (⟨rfl, r', hk3, hJ3⟩ | ⟨rfl, hJx3⟩)
              · have HT : Hid (InI w0 BR wo.heap.size (.cells #[.int .u8 m.c.toNat, .slice q m.a.length cq] 25 (0, 0)) (.slice (some ⟨b3, off3, none⟩) l.length cap) l u (rr.out.map (shO · m.a)) i J (k + 1) W3) :=
                  Lib.hid ⟨by omega, ⟨r', _, HY0.out.2.1, hJ3, keep_row hk3 (lt_of_block HX5.out) HB2.out, keep_row hk3 (lt_of_block HM5.out) HM2.out⟩, DW5.out.trans hk3.below, hk3.keep _ _ HX5.out rfl hBR HB2.out, hk3.keep _ _ HM5.out rfl (by omega) HM2.out⟩
                clear hk3 hJ3 hR hy
                gi_wp2_with fail
                go_roundw
                case rel => exact ⟨k + 1, by go_num, HT.out⟩
                case measure => simp [intOf]; omega
              · have HJ3 := Lib.hid hJx3
                clear hJx3 hR hy
                gi_wp2_with fail
                exact bodyPost_ret (results_none rfl _ _ _) rfl ⟨⟨_, rfl⟩, .inr ⟨_, HY0.out.2.2, HJ3.out⟩⟩
          · have hke : k = rr.out.length := by omega
            have k2 : ¬ (k : Int) < (rr.out.length : Int) := by omega
            obtain ⟨r2, pre2, hpre2, hj2, hbr2, hmb2⟩ := HIn.out.own
            have HT : Hid (OutI w0 BR B (.slice (some ⟨b3, off3, none⟩) l.length cap) l u J (i + 1) wn) := Lib.hid ⟨hlt, ⟨r2, pre2, by rw [hpre2, ← HEn.out, hke, hlen], hj2, hbr2⟩, HIn.out.below, HIn.out.box, by omega⟩
            clear hpre2 hj2 hbr2 hmb2 hke
            gi_wp2_with fail
            go_roundw
            case rel => exact ⟨i + 1, by go_num, HT.out⟩
            case measure => simp [intOf]; omega
    · obtain rfl : i = u.length := by omega
      have HE := Lib.hid HO.out.own
      rw [List.take_length] at HE
      gi_wp2
      go_end0
      obtain ⟨r, pre, e1, e2, e3⟩ := HE.out
      exact ⟨⟨_, rfl⟩, .inl ⟨r, pre, e1, e2⟩⟩
end Go.Proofs.YtlmofdmbcddddaaDoor
