/-
  What the reference's First hands back.
-/
import Derived.Test.YtkjjehnfibfngaaRewRefC
namespace Go.Proofs.Ytkjjehnfibfngaa
open Go.RowKit
open WM RM
set_option linter.unusedVariables false
set_option linter.unusedSimpArgs false

/-- How the search stands. -/
def FAt (l : List Rw) (m : Md) (k : Nat) : Prop := first l m = firstF (l.drop k) m (k : Int)
theorem fAt_start (l : List Rw) (m : Md) : FAt l m 0 := rfl
theorem fAt_yes {l : List Rw} {m : Md} {k : Nat} (hk : k < l.length) (h : FAt l m k) (hf : fitB l[k] m = true) : first l m = (k : Int) := by
  unfold FAt at h; rw [h, firstF_drop hk, if_pos hf]
theorem fAt_no {l : List Rw} {m : Md} {k : Nat} (hk : k < l.length) (h : FAt l m k) (hf : fitB l[k] m = false) : FAt l m (k + 1) := by
  unfold FAt at h ⊢; rw [h, firstF_drop hk, if_neg (by rw [hf]; decide)]
theorem fAt_end {l : List Rw} {m : Md} (h : FAt l m l.length) : first l m = -1 := by
  unfold FAt at h; rw [h, firstF_end (Nat.le_refl _)]
set_option maxRecDepth 100000 in
set_option maxHeartbeats 3200000 in
theorem reffirst_any (v : Value) (l : List Rw) (m : Md) (mv : Value) (hmax : l.length ≤ 9223372036854775807) (hg : ∀ r ∈ l, r.gs.all (formB · r.ar) = true ∧ r.gs.length ≤ 9223372036854775807) (hm : fineB m = true) (w : World) (hv : Rws w v l) (hmv : Ints w mv m.a) :
    Calls Try.prog 28 #[v, .agg #[.int .u8 m.c.toNat, mv]] w fun e w' => e = .returned (.int .i64 (first l m)) ∧ Below w.heap.size w w' := by
  obtain ⟨p, cap, rfl⟩ := hv.slice
  obtain ⟨p2, cap2, rfl⟩ := hmv.slice
  obtain ⟨W0, hW0⟩ : ∃ W, W = w.alloc (.cells #[.int .u8 m.c.toNat, .slice p2 m.a.length cap2] 27) := ⟨_, rfl⟩
  have N0 : W0.heap[w.heap.size]? = some (.cells #[.int .u8 m.c.toNat, .slice p2 m.a.length cap2] 27 (0, 0)) := by rw [hW0]; exact heap_alloc_new _ _
  have B0 : Below w.heap.size w W0 := by rw [hW0]; exact (Below.refl _ _).alloc (Nat.le_refl _) _
  have HB := Lib.hid B0
  have HV := Lib.hid (hv.later B0)
  have HM := Lib.hid (hmv.later B0)
  have q0 := cell_two0 N0
  have q1 := cell_two1 N0
  have l1 := lt_of_block N0
  have HG := Lib.hid hg
  have HFi := Lib.hid hm
  clear N0 B0 hv hmv hg hm
  go_enter Try.func28, Try.ntmps28
  go_wp2_with fail
  rw [← hW0]
  clear hW0
  go_loopw [5] (fun i wr => ∃ k : Nat, k ≤ l.length ∧ i = .int .i64 k ∧ Below W0.heap.size W0 wr ∧ FAt l m k) (fun i _ => l.length - (intOf i).toNat)
  case atStart => exact ⟨0, Nat.zero_le _, rfl, Below.refl _ _, fAt_start l m⟩
  case round =>
    obtain ⟨k, hk, rfl, hb, hok⟩ := hrel
    have HK := Lib.hid hok
    have HBr := Lib.hid hb
    have y0 := (hb.cell (p := ⟨w.heap.size, 0, none⟩) l1).trans q0
    have y1 := (hb.cell (p := ⟨w.heap.size, 1, none⟩) l1).trans q1
    clear hok hb
    by_cases hlt : k < l.length
    · obtain ⟨b, off, cap', g, gc, o, oc, hp, lb, hat⟩ := (HV.out.later HBr.out).at hlt
      obtain rfl : p = some ⟨b, off, none⟩ := by cases hp; rfl
      have k1 : (k : Int) < (l.length : Int) := by omega
      obtain ⟨g1, g2⟩ := HG.out _ (List.getElem_mem hlt)
      have HX := Lib.hid (HM.out.later HBr.out)
      have HCw : Hid (∀ (d' : Nat) (os : Array Obj), Calls Try.prog 40 #[.agg #[.int .u8 l[k].c.toNat, .int .i64 l[k].ar, .int .u8 l[k].l.toNat, .int .u8 l[k].r.toNat, .slice g l[k].gs.length gc, .int .i64 l[k].wt, .slice o l[k].out.length oc], .agg #[.int .u8 m.c.toNat, .slice p2 m.a.length cap2]] («Sort».grow (redrawn wr d') os) fun e w' =>
          e = .returned (.bool (fitB l[k] m)) ∧ Below («Sort».grow (redrawn wr d') os).heap.size («Sort».grow (redrawn wr d') os) w') :=
        Lib.hid (fun d' os => reffits_any l[k] m _ _ _ g1 HFi.out g2 _ (hat.gs.later (below_regrown wr d' os)) (HX.out.later (below_regrown wr d' os)))
      obtain ⟨t, ht⟩ : ∃ t, fitB l[k] m = t := ⟨_, rfl⟩
      have HT := Lib.hid ht
      rw [ht] at HCw
      obtain ⟨e0, e1, e2, e3, e4, e5, e6, _, _⟩ := hat
      generalize l[k].c.toNat = x0 at e0 HCw
      generalize l[k].ar = x1 at e1 HCw
      generalize l[k].l.toNat = x2 at e2 HCw
      generalize l[k].r.toNat = x3 at e3 HCw
      generalize l[k].gs.length = x4 at e4 HCw
      generalize l[k].wt = x5 at e5 HCw
      generalize l[k].out.length = x6 at e6 HCw
      clear hp ht g1 g2
      have r0 := fun d os => cell_regrown e0 d os
      have r1 := fun d os => cell_regrown e1 d os
      have r2 := fun d os => cell_regrown e2 d os
      have r3 := fun d os => cell_regrown e3 d os
      have r4 := fun d os => cell_regrown e4 d os
      have r5 := fun d os => cell_regrown e5 d os
      have r6 := fun d os => cell_regrown e6 d os
      have r7 := fun d os => cell_regrown y0 d os
      have r8 := fun d os => cell_regrown y1 d os
      go_wp2_with fail
      refine wp_region_quiet_below (by kernel_rfl) (by kernel_rfl) ?_
      repeat (any_goals (first | go_big_quiet_step ((go_at_call 40; exact Calls.regrown_of (HCw.out _ _))) | quiet_step ((go_at_call 40; exact Calls.regrown_of (HCw.out _ _)))))
      refine wpQuiet_nil ?_
      intro _ hw'
      obtain ⟨⟨dq, osq⟩, hw''⟩ := hw'
      subst hw''
      have HB2 : Hid (Below W0.heap.size W0 («Sort».grow (redrawn wr dq) osq)) := Lib.hid (HBr.out.trans ((below_regrown wr dq osq).mono HBr.out.size))
      cases t with
      | true =>
        have HF := Lib.hid (fAt_yes hlt HK.out HT.out)
        go_wp2_with fail
        go_ret
        exact ⟨ret_int HF.out.symm, HB.out.trans (HB2.out.mono HB.out.size)⟩
      | false =>
        have HN := Lib.hid (fAt_no hlt HK.out HT.out)
        go_wp2_with fail
        go_roundw
        case rel => exact ⟨k + 1, by omega, by go_num, HB2.out, HN.out⟩
        case measure => simp [intOf]; omega
    · obtain rfl : k = l.length := by omega
      have HF := Lib.hid (fAt_end HK.out)
      go_wp2_with fail
      go_ret
      exact ⟨ret_int HF.out.symm, HB.out.trans (HBr.out.mono HB.out.size)⟩
end Go.Proofs.Ytkjjehnfibfngaa
