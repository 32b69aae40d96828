/-
  What the reference's Same hands back.
-/
import Derived.Test.YtakjgjhjndiggaaGreatDoorValHeapAll
import Derived.Lib.QuietBelow
import Derived.Deep.QuietTactic
import Derived.BigQuiet
import Derived.WalkSpells
import Derived.WalkLawsBesides
namespace Go.Proofs.YtakjgjhjndiggaaGreatDoor
open Go.RowKit
open VM
set_option linter.unusedVariables false
set_option linter.unusedSimpArgs false

/-- A variable that holds a value. -/
structure Held (Q : Nat → Prop) (g : Nat) (a : Nd) (p : Option Addr) (cap : Nat) (l : List V) (wr : World) : Prop where
  box : wr.heap[g]? = some (.cells #[.int .u8 a.k, .int .i64 a.n, .int .i64 a.d, .bool a.t, .string a.s, .slice p l.length cap] 28 (0, 0))
  rep : RepL Q wr l (.slice p l.length cap)
theorem Held.later {Q : Nat → Prop} {g : Nat} {a : Nd} {p : Option Addr} {cap : Nat} {l : List V} {wr w1 : World} (h : Held Q g a p cap l wr) (hb : Below wr.heap.size wr w1) : Held Q g a p cap l w1 :=
  ⟨below_new hb h.box, h.rep.later hb⟩
theorem Held.new {Q : Nat → Prop} {w : World} {a : Nd} {p : Option Addr} {cap : Nat} {l : List V} (h : RepL Q w l (.slice p l.length cap)) :
    Held Q w.heap.size a p cap l (w.alloc (.cells #[.int .u8 a.k, .int .i64 a.n, .int .i64 a.d, .bool a.t, .string a.s, .slice p l.length cap] 28)) :=
  ⟨heap_alloc_new _ _, h.later ((Below.refl _ _).alloc (Nat.le_refl _) _)⟩

theorem same_nd {a b : Nd} {l m : List V} (h : a ≠ b) : sameB (.mk a l) (.mk b m) = false := by simp [sameB, h]
theorem sameL_len {l m : List V} (h : l.length ≠ m.length) : sameL l m = false := by
  rw [Bool.eq_false_iff]; intro e; rw [sameL_iff] at e; exact h (by rw [e])
theorem same_len {a b : Nd} {l m : List V} (h : l.length ≠ m.length) : sameB (.mk a l) (.mk b m) = false := by simp [sameB, sameL_len h]
theorem same_all {a : Nd} {l m : List V} (hl : l.length = m.length) (h : ∀ k, k < l.length → (h1 : k < l.length) → (h2 : k < m.length) → sameB l[k] m[k] = true) : sameB (.mk a l) (.mk a m) = true := by
  rw [sameB_iff]; congr 1
  exact List.ext_getElem hl fun k h1 h2 => (sameB_iff _ _).1 (h k h1 h1 h2)
theorem same_some {a : Nd} {l m : List V} {k : Nat} (h1 : k < l.length) (h2 : k < m.length) (h : sameB l[k] m[k] = false) : sameB (.mk a l) (.mk a m) = false := by
  rw [Bool.eq_false_iff]; intro e; rw [sameB_iff] at e
  injection e with _ e; subst e
  rw [(sameB_iff _ _).2 rfl] at h; exact absurd h (by simp)
theorem nd_ext {a b : Nd} (h1 : a.k = b.k) (h2 : a.n = b.n) (h3 : a.d = b.d) (h4 : a.t = b.t) (h5 : a.s.toList = b.s.toList) : a = b := by
  have h6 : a.s = b.s := by
    rw [ByteArray.toList_eq, ByteArray.toList_eq] at h5
    exact ByteArray.ext (Array.toList_inj.1 h5)
  cases a; cases b
  simp only at h1 h2 h3 h4 h6
  subst h1 h2 h3 h4 h6; rfl
set_option maxHeartbeats 1000000 in
theorem refsame_v (Q R : Nat → Prop) (v : V) : ∀ (u : V) (sl sm : Value) (w : World), Wf 1000000 v → RepL Q w v.list sl → RepL R w u.list sm →
    Calls Tryz.prog 29 #[.agg #[.int .u8 v.nd.k, .int .i64 v.nd.n, .int .i64 v.nd.d, .bool v.nd.t, .string v.nd.s, sl], .agg #[.int .u8 u.nd.k, .int .i64 u.nd.n, .int .i64 u.nd.d, .bool u.nd.t, .string u.nd.s, sm]] w fun e w' => e = .returned (.bool (sameB v u)) ∧ Below w.heap.size w w' := by
  induction v using V.ind with
  | h a l ih =>
    intro u sl sm w hl hr hr2
    obtain ⟨p, cap, rfl⟩ := hr.slice
    obtain ⟨p2, cap2, rfl⟩ := hr2.slice
    cases u with
    | mk b m =>
    dsimp only [V.nd_mk, V.list_mk] at hr hr2 ⊢
    by_cases hab : a = b ∧ l.length = m.length
    · obtain ⟨rfl, hlm⟩ := hab
      have HI := Lib.hid ih
      have HW := Lib.hid hl
      have hll : l.length ≤ 1000000 := hl.len
      have B0 : Hid (Below w.heap.size w ((w.alloc (.cells #[.int .u8 a.k, .int .i64 a.n, .int .i64 a.d, .bool a.t, .string a.s, .slice p l.length cap] 28)).alloc (.cells #[.int .u8 a.k, .int .i64 a.n, .int .i64 a.d, .bool a.t, .string a.s, .slice p2 m.length cap2] 28))) :=
        Lib.hid (((Below.refl _ _).alloc (Nat.le_refl _) _).alloc (by simp) _)
      have V1 := Lib.hid ((Held.new (a := a) hr).later ((Below.refl _ _).alloc (Nat.le_refl _) (.cells #[.int .u8 a.k, .int .i64 a.n, .int .i64 a.d, .bool a.t, .string a.s, .slice p2 m.length cap2] 28)))
      have V2 := Lib.hid (Held.new (a := a) (hr2.later ((Below.refl _ _).alloc (Nat.le_refl _) (.cells #[.int .u8 a.k, .int .i64 a.n, .int .i64 a.d, .bool a.t, .string a.s, .slice p l.length cap] 28))))
      rw [World.size_alloc] at V2
      have HA : Hid ((∀ k, k < l.length → (h1 : k < l.length) → (h2 : k < m.length) → sameB l[k] m[k] = true) → sameB (.mk a l) (.mk a m) = true) := Lib.hid (same_all hlm)
      have HN : Hid (∀ k, (h1 : k < l.length) → (h2 : k < m.length) → sameB l[k] m[k] = false → sameB (.mk a l) (.mk a m) = false) := Lib.hid fun k h1 h2 h => same_some h1 h2 h
      have HL := Lib.hid hlm
      have z : ((l.length : Int) != m.length) = false := by rw [hlm]; simp
      clear ih hl hr hr2 hlm
      generalize sameB (.mk a l) (.mk a m) = G at *
      go_enter Tryz.func29, Tryz.ntmps29
      go_wp2_with fail
      go_loopw [5] (fun i wr => ∃ j : Nat, j ≤ l.length ∧ i = .int .i64 j ∧ (∀ k, k < j → (h1 : k < l.length) → (h2 : k < m.length) → sameB l[k] m[k] = true) ∧ Held Q w.heap.size a p cap l wr ∧ Held R (w.heap.size + 1) a p2 cap2 m wr ∧ Below w.heap.size w wr) (fun i _ => l.length - (intOf i).toNat)
      case atStart => exact ⟨0, Nat.zero_le _, rfl, fun k hk => by omega, V1.out, V2.out, B0.out⟩
      case round =>
        obtain ⟨j, hj, rfl, hall, hV1, hV2, hB⟩ := hrel
        have K := Lib.hid hall
        have U1 := Lib.hid hV1
        have U2 := Lib.hid hV2
        have B1 := Lib.hid hB
        have l1 := lt_of_block hV1.box
        have l2 := lt_of_block hV2.box
        have q5 := (box_row hV1.box).c5
        have q5' := (box_row hV2.box).c5
        clear hall hV1 hV2 hB B0 V1 V2
        by_cases hlt : j < l.length
        · have hlt2 : j < m.length := by rw [← HL.out]; exact hlt
          obtain ⟨b1, off, S, rfl, hq, hb, R1, hR⟩ := U1.out.rep.at hlt
          obtain ⟨b2, off2, S2, rfl, hq2, hb2, R2, hR2⟩ := U2.out.rep.at hlt2
          have r0 := R1.c0
          have r1 := R1.c1
          have r2 := R1.c2
          have r3 := R1.c3
          have r4 := R1.c4
          have r5 := R1.c5
          have s0 := R2.c0
          have s1 := R2.c1
          have s2 := R2.c2
          have s3 := R2.c3
          have s4 := R2.c4
          have s5 := R2.c5
          have HC : Hid (∀ w1, Below wr.heap.size wr w1 → Calls Tryz.prog 29 #[.agg #[.int .u8 l[j].nd.k, .int .i64 l[j].nd.n, .int .i64 l[j].nd.d, .bool l[j].nd.t, .string l[j].nd.s, S], .agg #[.int .u8 m[j].nd.k, .int .i64 m[j].nd.n, .int .i64 m[j].nd.d, .bool m[j].nd.t, .string m[j].nd.s, S2]] w1 fun e w' => e = .returned (.bool (sameB l[j] m[j])) ∧ Below w1.heap.size w1 w') :=
            Lib.hid fun w1 hw1 => HI.out l[j] (List.getElem_mem hlt) m[j] _ _ _ (HW.out.get hlt) (hR.later hw1) (hR2.later hw1)
          have KF := Lib.hid (HN.out j hlt hlt2)
          have KT : Hid (sameB l[j] m[j] = true → ∀ k, k < j + 1 → (h1 : k < l.length) → (h2 : k < m.length) → sameB l[k] m[k] = true) := Lib.hid fun e k hk h1 h2 => by
            rcases Nat.lt_or_ge k j with hk2 | hk2
            · exact K.out k hk2 h1 h2
            · obtain rfl : k = j := by omega
              exact e
          generalize sameB l[j] m[j] = g at HC KF KT
          generalize l[j].nd = x at r0 r1 r2 r3 r4 HC
          generalize m[j].nd = y at s0 s1 s2 s3 s4 HC
          have i1 : (0 : Int) ≤ (j : Int) := by omega
          have i2 : (j : Int) < (l.length : Int) := by omega
          have i3 : (j : Int) < (m.length : Int) := by omega
          clear R1 R2 hR hR2 hq hq2
          go_wp2_with fail
          have t5 := fun d os => cell_regrown q5 d os
          have t5' := fun d os => cell_regrown q5' d os
          have tr0 := fun d os => cell_regrown r0 d os
          have tr1 := fun d os => cell_regrown r1 d os
          have tr2 := fun d os => cell_regrown r2 d os
          have tr3 := fun d os => cell_regrown r3 d os
          have tr4 := fun d os => cell_regrown r4 d os
          have tr5 := fun d os => cell_regrown r5 d os
          have ts0 := fun d os => cell_regrown s0 d os
          have ts1 := fun d os => cell_regrown s1 d os
          have ts2 := fun d os => cell_regrown s2 d os
          have ts3 := fun d os => cell_regrown s3 d os
          have ts4 := fun d os => cell_regrown s4 d os
          have ts5 := fun d os => cell_regrown s5 d os
          refine wp_region_quiet_below (by kernel_rfl) (by kernel_rfl) ?_
          repeat (any_goals (first | go_big_quiet_step ((go_at_call 29; exact Calls.regrown_of (HC.out _ (below_regrown _ _ _)))) | quiet_step ((go_at_call 29; exact Calls.regrown_of (HC.out _ (below_regrown _ _ _))))))
          refine wpQuiet_nil ?_
          intro _ hw'
          obtain ⟨⟨dq, osq⟩, hw''⟩ := hw'
          subst hw''
          have BQ := Lib.hid (below_regrown wr dq osq)
          obtain ⟨wq, hwq⟩ : ∃ x, x = Sort.grow (redrawn wr dq) osq := ⟨_, rfl⟩
          rw [← hwq] at BQ ⊢
          clear hwq t5 t5' tr0 tr1 tr2 tr3 tr4 tr5 ts0 ts1 ts2 ts3 ts4 ts5 q5 q5' r0 r1 r2 r3 r4 r5 s0 s1 s2 s3 s4 s5
          have W1 := Lib.hid (U1.out.later BQ.out)
          have W2 := Lib.hid (U2.out.later BQ.out)
          have B2 := Lib.hid (B1.out.trans (BQ.out.mono B1.out.size))
          cases g
          · go_wp2_with fail
            go_ret
            exact ⟨ret_bool (KF.out (by trivial)).symm, B2.out⟩
          · go_wp2_with fail
            go_roundw
            case rel => exact ⟨j + 1, by omega, by go_num, KT.out (by trivial), W1.out, W2.out, B2.out⟩
            case measure => simp [intOf]; omega
        · obtain rfl : j = l.length := by omega
          have HE := Lib.hid (HA.out K.out)
          go_wp2_with fail
          go_ret
          exact ⟨ret_bool HE.out.symm, B1.out⟩
    · have HF : Hid (sameB (.mk a l) (.mk b m) = false) := Lib.hid (by
        by_cases h : a = b
        · exact same_len fun e => hab ⟨h, e⟩
        · exact same_nd h)
      have HX := Lib.hid hab
      clear ih hl hr hr2 hab
      generalize sameB (.mk a l) (.mk b m) = G at *
      have B0 : Hid (∀ o1 o2 : Obj, Below w.heap.size w ((w.alloc o1).alloc o2)) := Lib.hid fun o1 o2 => ((Below.refl _ _).alloc (Nat.le_refl _) _).alloc (by simp) _
      go_enter Tryz.func29, Tryz.ntmps29
      go_wp2_with fail
      all_goals first
        | (go_ret; exact ⟨ret_bool HF.out.symm, B0.out _ _⟩)
        | (exact absurd ⟨nd_ext (by assumption) (by assumption) (by assumption) (by assumption) (by assumption), by simp_all <;> omega⟩ HX.out)
theorem refsame_any (Q R : Nat → Prop) (a b : Nd) (l m : List V) (sl sm : Value) (w : World) (hw : Wf 1000000 (.mk a l)) (hr : RepL Q w l sl) (hs : RepL R w m sm) :
    Calls Tryz.prog 29 #[.agg #[.int .u8 a.k, .int .i64 a.n, .int .i64 a.d, .bool a.t, .string a.s, sl], .agg #[.int .u8 b.k, .int .i64 b.n, .int .i64 b.d, .bool b.t, .string b.s, sm]] w fun e w' => e = .returned (.bool (sameB (.mk a l) (.mk b m))) ∧ Below w.heap.size w w' := refsame_v Q R (.mk a l) (.mk b m) sl sm w hw hr hs
end Go.Proofs.YtakjgjhjndiggaaGreatDoor
