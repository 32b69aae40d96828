/-
  What the reference's Made hands back.
-/
import Derived.Test.YtkjjehnfibfngaaRewRefE
import Derived.Test.YtkjjehnfibfngaaWordFr
import Derived.Lib.BufferMore
namespace Go.Proofs.Ytkjjehnfibfngaa
open Go.RowKit
open WM RM
set_option linter.unusedVariables false
set_option linter.unusedSimpArgs false

theorem fr_slice {w : World} {base n size : Nat} {e : TypeId} {v : Value} {xs : List Value} (h : w.ownsRow base e size v n xs) : ∃ p c, v = .slice p n c := by
  rcases h.2 with ⟨h1, h2⟩ | ⟨g, cap, cur, h1, _⟩
  · exact ⟨none, 0, by rw [h1, h2]⟩
  · exact ⟨_, _, h1⟩
/-- The values of the first forms. -/
def wos (fs : List Fm) (x : List Int) (k : Nat) : List Int := (fs.take k).map (worth · x)
theorem wos_len {fs : List Fm} {x : List Int} {k : Nat} (h : k ≤ fs.length) : (wos fs x k).length = k := by unfold wos; rw [List.length_map, List.length_take]; omega
theorem wos_snoc {fs : List Fm} {x : List Int} {k : Nat} (h : k < fs.length) : wos fs x (k + 1) = wos fs x k ++ [worth fs[k] x] := by
  unfold wos; rw [List.take_succ_eq_append_getElem h, List.map_append]; rfl
theorem wos_all (fs : List Fm) (x : List Int) : wos fs x fs.length = fs.map (worth · x) := by unfold wos; rw [List.take_length]
/-- Where the loop over a shape's args stands. -/
structure InM (wo : World) (c : UInt8) (fs : List Fm) (x : List Int) (k : Nat) (va : Value) (wi : World) : Prop where
  below : Below wo.heap.size wo wi
  blk : wi.heap[wo.heap.size]? = some (.cells #[.int .u8 c.toNat, va] 27 (0, 0))
  own : wi.ownsRow (wo.heap.size + 1) 3 1 va k (valsL (wos fs x k))
  hi : k ≤ fs.length
  good : ∀ j, (h : j < fs.length) → j < k → argB (worth fs[j] x) = true
theorem inM_start (wo : World) (c : UInt8) (fs : List Fm) (x : List Int) : InM wo c fs x 0 (.slice none 0 0) (wo.alloc (.cells #[.int .u8 c.toNat, .slice none 0 0] 27)) :=
  ⟨(Below.refl _ _).alloc (Nat.le_refl _) _, heap_alloc_new _ _, by simpa [wos, valsL] using World.ownsRow_nil (wo.alloc (.cells #[.int .u8 c.toNat, .slice none 0 0] 27)) (wo.heap.size + 1) 3 1, Nat.zero_le _, fun j _ h => by omega⟩
theorem InM.later {wo wi w2 : World} {c : UInt8} {fs : List Fm} {x : List Int} {k : Nat} {va : Value} (h : InM wo c fs x k va wi) (hb : Below wi.heap.size wi w2) : InM wo c fs x k va w2 :=
  ⟨h.below.trans (hb.mono h.below.size), (hb.block _ (lt_of_block h.blk)).trans h.blk, l_own_later h.own hb, h.hi, h.good⟩
theorem inM_blk {wo wi w3 : World} {c : UInt8} {fs : List Fm} {x : List Int} {k : Nat} {va : Value} {tmp : Obj} (h : InM wo c fs x k va wi) (hg : (wi.alloc tmp).grownBy w3 va.ownBlock) : w3.heap[wo.heap.size]? = some (.cells #[.int .u8 c.toNat, va] 27 (0, 0)) := by
  have hlt2 := lt_of_block h.blk
  rw [hg.block wo.heap.size (by simp; omega) (fun e => by have := (owns_lt h.own _ e.symm).1; omega)]
  exact heap_alloc_old h.blk _
theorem inM_step {wo wi w3 : World} {c : UInt8} {fs : List Fm} {x : List Int} {k : Nat} {va v2 : Value} {tmp : Obj} (h : InM wo c fs x k va wi) (hk : k < fs.length) (ho : w3.ownsRow (wo.heap.size + 1) 3 1 v2 (k + 1) (valsL (wos fs x k) ++ [.int .i64 (worth fs[k] x)])) (hg : (wi.alloc tmp).grownBy w3 va.ownBlock)
    (hb : argB (worth fs[k] x) = true) : InM wo c fs x (k + 1) v2 (w3.setCell ⟨wo.heap.size, 1, none⟩ v2) := by
  have z := h.below.size
  have hv := owns_lt h.own
  have hb3 := inM_blk h hg
  have ho2 : w3.ownsRow (wo.heap.size + 1) 3 1 v2 (k + 1) (valsL (wos fs x (k + 1))) := by
    rw [wos_snoc hk, valsL_app]; exact ho
  refine ⟨((h.below.alloc z tmp).grown hg (by simp; omega) (fun j e => by have := (hv j e).1; omega)).setCell (Nat.le_refl _) _, ?_, ?_, hk, fun j hj h2 => ?_⟩
  · have := Lib.heap_setCell_same (i := 1) hb3 v2
    simpa using this
  · refine ownsRow_setCell_other ho2 ?_ _
    intro e
    have := (owns_lt ho2 _ e).1
    simp at this; omega
  · rcases Nat.lt_or_eq_of_le (Nat.le_of_lt_succ h2) with h3 | h3
    · exact h.good j hj h3
    · subst h3; exact hb
/-- Where the loop over the shapes stands. -/
structure OutM (w0 : World) (out : List Sh) (x : List Int) (k : Nat) (v : Value) (wr : World) : Prop where
  below : Below w0.heap.size w0 wr
  own : ∃ vs, ModFr wr w0.heap.size v ((out.take k).map (mkM · x)) vs
  hi : k ≤ out.length
  good : ∀ j, (h : j < out.length) → j < k → mkB out[j] x = true
theorem outM_start (w0 : World) (out : List Sh) (x : List Int) : OutM w0 out x 0 (.slice none 0 0) w0 :=
  ⟨Below.refl _ _, ⟨[], by simpa using modFr_nil w0 w0.heap.size⟩, Nat.zero_le _, fun j _ h => by omega⟩
/-- How Made ends. -/
def MdEnd (r : Rw) (m : Md) (w : World) (e : Ending) (w' : World) : Prop :=
  Below w.heap.size w w' ∧ ((made r m = none ∧ e = .returned (.tuple #[.slice none 0 0, .bool false])) ∨ ∃ v vs, made r m = some (r.out.map (mkM · m.a)) ∧ e = .returned (.tuple #[v, .bool true]) ∧ ModFr w' w.heap.size v (r.out.map (mkM · m.a)) vs)
theorem made_bad {r : Rw} {m : Md} {i k : Nat} (hi : i < r.out.length) (hk : k < r.out[i].a.length) (h : argB (worth r.out[i].a[k] m.a) = false) : made r m = none := by
  have h1 : mkB r.out[i] m.a = false := by
    unfold mkB
    rw [List.all_eq_false]
    exact ⟨_, List.getElem_mem hk, by rw [h]; simp⟩
  have h2 : r.out.all (mkB · m.a) = false := by
    rw [List.all_eq_false]
    exact ⟨_, List.getElem_mem hi, by rw [h1]; simp⟩
  unfold made; rw [if_neg (by rw [h2]; decide)]
theorem made_ok {r : Rw} {m : Md} (h : ∀ i, (hi : i < r.out.length) → mkB r.out[i] m.a = true) : made r m = some (r.out.map (mkM · m.a)) := by
  have h2 : r.out.all (mkB · m.a) = true := by
    rw [List.all_eq_true]
    intro s hs
    obtain ⟨j, hj, rfl⟩ := List.mem_iff_getElem.1 hs
    exact h j hj
  unfold made; rw [if_pos h2]
theorem mkB_ok {s : Sh} {x : List Int} (h : ∀ j, (hj : j < s.a.length) → argB (worth s.a[j] x) = true) : mkB s x = true := by
  unfold mkB
  rw [List.all_eq_true]
  intro f hf
  obtain ⟨j, hj, rfl⟩ := List.mem_iff_getElem.1 hf
  exact h j hj
theorem argB_lo {x : Int} (h : x < -1000000000) : argB x = false := by simp [argB]; omega
theorem argB_hi {x : Int} (h : 1000000000 < x) : argB x = false := by simp [argB]; omega
theorem argB_ok {x : Int} (h1 : ¬ x < -1000000000) (h2 : ¬ 1000000000 < x) : argB x = true := by simp [argB]; omega
set_option maxRecDepth 100000 in
set_option maxHeartbeats 6400000 in
theorem refmade_any (r : Rw) (m : Md) (gv ov mv : Value) (hs : RwSm r) (hf : ∀ s ∈ r.out, ∀ f ∈ s.a, formB f (m.a.length : Int) = true) (hm : fineB m = true) (w : World) (h1 : Fms w gv r.gs) (h2 : Shs w ov r.out) (h3 : Ints w mv m.a) :
    Calls Try.prog 33 #[rwV r gv ov, .agg #[.int .u8 m.c.toNat, mv]] w (MdEnd r m w) := by
  obtain ⟨p, cap, rfl⟩ := h2.slice
  obtain ⟨p2, cap2, rfl⟩ := h3.slice
  obtain ⟨pg, capg, rfl⟩ := h1.slice
  obtain ⟨m4, mr⟩ := fine_args4 hm
  obtain ⟨-, ho30, -, hsz⟩ := hs
  unfold rwV
  obtain ⟨W0, hW0⟩ : ∃ W, W = (w.alloc (.cells #[.int .u8 r.c.toNat, .int .i64 r.ar, .int .u8 r.l.toNat, .int .u8 r.r.toNat, .slice pg r.gs.length capg, .int .i64 r.wt, .slice p r.out.length cap] 54)).alloc (.cells #[.int .u8 m.c.toNat, .slice p2 m.a.length cap2] 27) := ⟨_, rfl⟩
  have N1 : W0.heap[w.heap.size]? = some (.cells #[.int .u8 r.c.toNat, .int .i64 r.ar, .int .u8 r.l.toNat, .int .u8 r.r.toNat, .slice pg r.gs.length capg, .int .i64 r.wt, .slice p r.out.length cap] 54 (0, 0)) := by rw [hW0]; exact heap_alloc_old (heap_alloc_new _ _) _
  have N2 : W0.heap[w.heap.size + 1]? = some (.cells #[.int .u8 m.c.toNat, .slice p2 m.a.length cap2] 27 (0, 0)) := by
    have := heap_alloc_new (w.alloc (.cells #[.int .u8 r.c.toNat, .int .i64 r.ar, .int .u8 r.l.toNat, .int .u8 r.r.toNat, .slice pg r.gs.length capg, .int .i64 r.wt, .slice p r.out.length cap] 54)) (.cells #[.int .u8 m.c.toNat, .slice p2 m.a.length cap2] 27)
    rw [hW0]; simpa using this
  have B0 : Below w.heap.size w W0 := by rw [hW0]; exact ((Below.refl _ _).alloc (Nat.le_refl _) _).alloc (by simp) _
  have HB := Lib.hid B0
  have H2 := Lib.hid (h2.later B0)
  have H3 := Lib.hid (h3.later B0)
  have q6 : W0.cell? ⟨w.heap.size, 6, none⟩ = some (.slice p r.out.length cap) := by simp [World.cell?, N1]
  have s1 := cell_two1 N2
  have l1 := lt_of_block N1
  have l2 := lt_of_block N2
  have HFo := Lib.hid hf
  have HSz := Lib.hid hsz
  have HMR := Lib.hid mr
  have S0 := Lib.hid (outM_start W0 r.out m.a)
  obtain ⟨j0, hj, hy0, hy1, hy2⟩ := info_parts info_mod
  obtain ⟨i0, hi, hz0, hz1, hz2⟩ := info_parts info_int
  have HM : Hid (maxLen = 9223372036854775807) := Lib.hid rfl
  have HE0 : Hid (∀ w', Below W0.heap.size W0 w' → made r m = none → MdEnd r m w (.returned (.tuple #[.slice none 0 0, .bool false])) w') := Lib.hid (fun w' hb h => ⟨B0.trans (hb.mono B0.size), .inl ⟨h, rfl⟩⟩)
  clear N1 N2 B0 h1 h2 h3 hf hsz hm mr
  go_enter Try.func33, Try.ntmps33
  go_wp2_with fail
  rw [← hW0]
  clear hW0
  go_wp2_with fail
  go_loopw [6, 7] (fun v i wr => ∃ k, i = .int .i64 (k : Nat) ∧ OutM W0 r.out m.a k v wr) (fun _ i _ => r.out.length - (intOf i).toNat)
  case atStart => exact ⟨0, rfl, S0.out⟩
  case round =>
    rename World => wo
    obtain ⟨i, rfl, hS⟩ := hrel
    have HS := Lib.hid hS
    have hsz := hS.below.size
    have hio := hS.hi
    have y6 := (hS.below.cell (p := ⟨w.heap.size, 6, none⟩) l1).trans q6
    clear hS
    by_cases hlt : i < r.out.length
    · obtain ⟨b, off, cap', q, d, hp, e0, e1, hin, lb⟩ := (H2.out.later HS.out.below).at hlt
      obtain rfl : p = some ⟨b, off, none⟩ := by cases hp; rfl
      have k1 : (i : Int) < (r.out.length : Int) := by omega
      obtain ⟨vs, hM⟩ := HS.out.own
      have HMF := Lib.hid hM
      have HIn := Lib.hid hin
      obtain ⟨sa10, -⟩ := HSz.out _ (List.getElem_mem hlt)
      have HFi := Lib.hid (HFo.out _ (List.getElem_mem hlt))
      have I0 := Lib.hid (inM_start wo r.out[i].c r.out[i].a m.a)
      clear hp hin hM
      go_wp2_with fail
      go_loopw [9] (fun i' wr => ∃ k va, i' = .int .i64 (k : Nat) ∧ InM wo r.out[i].c r.out[i].a m.a k va wr) (fun i' _ => r.out[i].a.length - (intOf i').toNat)
      case atStart => exact ⟨0, _, rfl, I0.out⟩
      case round =>
        obtain ⟨k, va, rfl, hI⟩ := hrel
        obtain ⟨pa, capa, rfl⟩ := fr_slice hI.own
        have HI := Lib.hid hI
        have hbw := HS.out.below.trans (hI.below.mono hsz)
        have HBW := Lib.hid hbw
        have u0 := cell_two0 hI.blk
        have u1 := cell_two1 hI.blk
        have lw := lt_of_block hI.blk
        have x6 := (hbw.cell (p := ⟨w.heap.size, 6, none⟩) l1).trans q6
        have x1 := (hbw.cell (p := ⟨w.heap.size + 1, 1, none⟩) l2).trans s1
        have f0 := (hI.below.cell (p := ⟨b, off + i * 2, none⟩) lb).trans e0
        have f1 := (hI.below.cell (p := ⟨b, off + i * 2 + 1, none⟩) lb).trans e1
        have hki := hI.hi
        clear hI hbw
        by_cases hlk : k < r.out[i].a.length
        · obtain ⟨b2, off2, cap3, pf, cf, hp2, g0, g1, hin2, lb2⟩ := (HIn.out.later HI.out.below).at hlk
          obtain rfl : q = some ⟨b2, off2, none⟩ := by cases hp2; rfl
          have k2 : (k : Int) < (r.out[i].a.length : Int) := by omega
          have HX := Lib.hid (H3.out.later HBW.out)
          have hff := HFi.out _ (List.getElem_mem hlk)
          have HCw : Hid (∀ (d' : Nat) (os : Array Obj), Calls Try.prog 25 #[.agg #[.int .i64 r.out[i].a[k].k, .slice pf r.out[i].a[k].cs.length cf], .slice p2 m.a.length cap2] («Sort».grow (redrawn wr d') os) fun e w' =>
              e = .returned (.int .i64 (worth r.out[i].a[k] m.a)) ∧ Below («Sort».grow (redrawn wr d') os).heap.size («Sort».grow (redrawn wr d') os) w') :=
            Lib.hid (fun d' os => refworth_any r.out[i].a[k] m.a _ _ hff m4 HMR.out _ (hin2.later (below_regrown wr d' os)) (HX.out.later (below_regrown wr d' os)))
          have HBad : Hid (argB (worth r.out[i].a[k] m.a) = false → made r m = none) := Lib.hid (made_bad hlt hlk)
          have HStep : Hid (∀ (wi w3 : World) (v2 : Value) (tmp : Obj), InM wo r.out[i].c r.out[i].a m.a k (.slice pa k capa) wi → w3.ownsRow (wo.heap.size + 1) 3 1 v2 (k + 1) (valsL (wos r.out[i].a m.a k) ++ [.int .i64 (worth r.out[i].a[k] m.a)]) → (wi.alloc tmp).grownBy w3 (Value.slice pa k capa).ownBlock → argB (worth r.out[i].a[k] m.a) = true → InM wo r.out[i].c r.out[i].a m.a (k + 1) v2 (w3.setCell ⟨wo.heap.size, 1, none⟩ v2)) := Lib.hid (fun wi w3 v2 tmp h ho hg hb => inM_step h hlk ho hg hb)
          obtain ⟨z, hz⟩ : ∃ z, worth r.out[i].a[k] m.a = z := ⟨_, rfl⟩
          rw [hz] at HCw HBad HStep
          obtain ⟨fk, hfk⟩ : ∃ fk, r.out[i].a[k].k = fk := ⟨_, rfl⟩
          obtain ⟨fl, hfl⟩ : ∃ fl, r.out[i].a[k].cs.length = fl := ⟨_, rfl⟩
          rw [hfk] at g0 HCw
          rw [hfl] at g1 HCw
          clear hp2 hin2 hff hz hfk hfl
          have r1 := fun d os => cell_regrown g0 d os
          have r2 := fun d os => cell_regrown g1 d os
          have r3 := fun d os => cell_regrown x6 d os
          have r4 := fun d os => cell_regrown x1 d os
          have r5 := fun d os => cell_regrown f1 d os
          go_wp2_with fail
          refine wp_region_quiet_below (by kernel_rfl) (by kernel_rfl) ?_
          repeat (any_goals (first | go_big_quiet_step ((go_at_call 25; exact Calls.regrown_of (HCw.out _ _))) | quiet_step ((go_at_call 25; exact Calls.regrown_of (HCw.out _ _)))))
          refine wpQuiet_nil ?_
          intro wq hw'
          obtain ⟨⟨dq, osq⟩, hw''⟩ := hw'
          have HBq : Hid (Below wr.heap.size wr («Sort».grow (redrawn wr dq) osq)) := Lib.hid (below_regrown wr dq osq)
          generalize «Sort».grow (redrawn wr dq) osq = wz at hw'' HBq
          subst hw''
          have HIq := Lib.hid (HI.out.later HBq.out)
          have HBWq := Lib.hid (HBW.out.trans (HBq.out.mono HBW.out.size))
          have p0 := cell_two0 HIq.out.blk
          have p1 := cell_two1 HIq.out.blk
          have lq := lt_of_block HIq.out.blk
          by_cases z1 : z < -1000000000
          · have HEr := Lib.hid (HE0.out _ HBWq.out (HBad.out (argB_lo z1)))
            go_wp2_with fail
            go_ret2
            exact HEr.out
          · by_cases z2 : 1000000000 < z
            · have HEr := Lib.hid (HE0.out _ HBWq.out (HBad.out (argB_hi z2)))
              go_wp2_with fail
              go_ret2
              exact HEr.out
            · have HGd := Lib.hid (argB_ok z1 z2)
              have P6 : Hid ((wq.alloc (.cells #[.int .i64 z] 3)).ownsRow (wo.heap.size + 1) 3 1 (.slice pa k capa) k (valsL (wos r.out[i].a m.a k))) := Lib.hid (HIq.out.own.alloc _)
              have hzq := HIq.out.below.size
              go_wp2_with (at_builtin; refine wpList_append_own _ rfl _ _ 23 rfl (wo.heap.size + 1) 3 i0 (.int .i64 0) 1 8 Try.underlying23 hi hz0 hz1 hz2 rfl (by decide) (.slice pa k capa) k (valsL (wos r.out[i].a m.a k)) rfl P6.out ⟨wq.heap.size, 0, none⟩ 1 1 [.int .i64 z] rfl rfl (cell_one_new _ _ _) (by simp [Value.oneCell']) (by rw [HM.out]; omega) (by omega) (by simp; omega) ?_; intro v2 w3 ho2 hg2 hn2; have N3 := inM_blk HIq.out hg2; have I2 := Lib.hid (HStep.out _ _ _ _ HIq.out ho2 hg2 HGd.out); obtain ⟨p4, c4, rfl⟩ := fr_slice ho2; have q2 := cell_two0 N3; have q3 := cell_two1 N3; have fr1 : w3.frozen? ⟨wo.heap.size, 1, none⟩ = false := (by simp [World.frozen?, N3]); have l3 : wo.heap.size < w3.heap.size := (lt_of_block N3); clear ho2 hg2 hn2 N3)
              go_wp2_with fail
              go_roundw
              case rel => exact ⟨k + 1, _, by go_num, I2.out⟩
              case measure => simp [intOf]; omega
        · obtain rfl : k = r.out[i].a.length := by omega
          have k2 : ¬ (r.out[i].a.length : Int) < (r.out[i].a.length : Int) := by omega
          have hdl : ((r.out.take i).map (mkM · m.a)).length = i := by rw [List.length_map, List.length_take]; omega
          have HD := Lib.hid hdl
          have BX : Hid (Below wo.heap.size wo (wr.alloc (.cells #[.int .u8 r.out[i].c.toNat, .slice pa r.out[i].a.length capa] 27))) := Lib.hid (HI.out.below.alloc HI.out.below.size _)
          have P5 := Lib.hid (l_own_later HMF.out.row BX.out)
          rw [hdl] at P5
          have A5 : Hid ((wr.alloc (.cells #[.int .u8 r.out[i].c.toNat, .slice pa r.out[i].a.length capa] 27)).ownsRow wo.heap.size 3 1 (.slice pa r.out[i].a.length capa) (mkM r.out[i] m.a).a.length (valsL (mkM r.out[i] m.a).a)) := Lib.hid (by
            have h := (owns_mono HI.out.own (show wo.heap.size ≤ wo.heap.size + 1 by omega)).alloc (.cells #[.int .u8 r.out[i].c.toNat, .slice pa r.out[i].a.length capa] 27)
            rw [wos_all] at h
            have e : (mkM r.out[i] m.a).a.length = r.out[i].a.length := by simp [mkM]
            rw [e]; exact h)
          have HSn : Hid ((r.out.take (i + 1)).map (mkM · m.a) = (r.out.take i).map (mkM · m.a) ++ [mkM r.out[i] m.a]) := Lib.hid (by rw [List.take_succ_eq_append_getElem hlt, List.map_append]; rfl)
          have HGo : Hid (∀ j, (h : j < r.out.length) → j < i + 1 → mkB r.out[j] m.a = true) := Lib.hid (fun j hj h => by
            rcases Nat.lt_or_eq_of_le (Nat.le_of_lt_succ h) with h3 | h3
            · exact HS.out.good j hj h3
            · subst h3; exact mkB_ok (fun n hn => HI.out.good n hn hn))
          clear hdl
          obtain ⟨ds, hds⟩ : ∃ ds, (r.out.take i).map (mkM · m.a) = ds := ⟨_, rfl⟩
          rw [hds] at HMF HD P5 HSn
          clear hds
          go_wp2_with (at_builtin; refine wpList_append_own_at _ rfl _ _ 39 rfl W0.heap.size 27 j0 (.agg #[.int .u8 0, .slice none 0 0]) 2 32 Try.underlying39 hj hy0 hy1 hy2 rfl (by decide) u6 i (modC ds vs) rfl P5.out ⟨wr.heap.size, 0, none⟩ 1 1 [.int .u8 r.out[i].c.toNat, .slice pa r.out[i].a.length capa] rfl rfl (two_new _ _ _ _) (by simp [Value.oneCell']) (by rw [HM.out]; omega) (by omega) (by simp; omega) ?_; intro v2 w5 ho2 hg2 hn2 hb2)
          have M5 := Lib.hid (modFr_snoc (m := mkM r.out[i] m.a) HMF.out hsz BX.out A5.out (by rw [HD.out]; exact ho2) hg2 hb2)
          have BW : Hid (Below W0.heap.size W0 w5) := Lib.hid ((HS.out.below.trans (BX.out.mono hsz)).grown hg2 (by have := BX.out.size; omega) (fun j e => (owns_lt HMF.out.row j e).1))
          have HT : Hid (OutM W0 r.out m.a (i + 1) v2 w5) := Lib.hid ⟨BW.out, ⟨_, by rw [HSn.out]; exact M5.out⟩, by omega, HGo.out⟩
          clear ho2 hg2 hn2 hb2
          go_wp2_with fail
          go_roundw
          case rel => exact ⟨i + 1, by go_num, HT.out⟩
          case measure => simp [intOf]; omega
    · obtain rfl : i = r.out.length := by omega
      obtain ⟨vs, hM⟩ := HS.out.own
      rw [List.take_length] at hM
      have HF : Hid (MdEnd r m w (.returned (.tuple #[u6, .bool true])) wo) := Lib.hid ⟨HB.out.trans (HS.out.below.mono HB.out.size), .inr ⟨_, vs, made_ok (fun i hi => HS.out.good i hi hi), rfl, hM.mono HB.out.size⟩⟩
      clear hM
      go_wp2_with fail
      go_ret2
      exact HF.out
end Go.Proofs.Ytkjjehnfibfngaa
