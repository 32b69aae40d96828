/-
  What compare and Compare of package value hand back.
-/
import Derived.Test.YtakjgjhjndiggaaGreatDoorValCmp
namespace Go.Proofs.YtakjgjhjndiggaaGreatDoor
open Go.RowKit
open VM
open RM (vld)
set_option linter.unusedVariables false
set_option linter.unusedSimpArgs false

/-- What a comparison hands back. -/
def CmpEnd (c : Int × Int) (w : World) (e : Ending) (w' : World) : Prop := e = .returned (.tuple #[.int .i64 c.1, .int .i64 c.2]) ∧ Below w.heap.size w w'
theorem CmpEnd.of {c : Int × Int} {a b : Int} {w w' : World} (h : c = (a, b)) (hb : Below w.heap.size w w') : CmpEnd c w (.returned (.tuple #[.int .i64 a, .int .i64 b])) w' := by
  rw [h]; exact ⟨rfl, hb⟩
set_option maxHeartbeats 2000000 in
theorem cmplists_of (Q R : Nat → Prop) (l m : List V) (p p2 : Option Addr) (cap cap2 : Nat) (w : World) (hl : l.length ≤ 1000000) (hm : m.length ≤ 1000000) (hr : RepL Q w l (.slice p l.length cap)) (hr2 : RepL R w m (.slice p2 m.length cap2))
    (ih : ∀ x ∈ l, ∀ (y : V) (sl sm : Value) (w1 : World), y ∈ m → RepL Q w1 x.list sl → RepL R w1 y.list sm → Calls Tryz.prog 54 #[.agg #[.int .u8 x.nd.k, .int .i64 x.nd.n, .int .i64 x.nd.d, .bool x.nd.t, .string x.nd.s, sl], .agg #[.int .u8 y.nd.k, .int .i64 y.nd.n, .int .i64 y.nd.d, .bool y.nd.t, .string y.nd.s, sm]] w1 (CmpEnd (cmpV x y) w1)) :
    Calls Tryz.prog 86 #[.slice p l.length cap, .slice p2 m.length cap2] w (CmpEnd (cmpL l m) w) := by
  have HI := Lib.hid ih
  have V1 := Lib.hid hr
  have V2 := Lib.hid hr2
  have HA : Hid ((∀ j, (a : j < l.length) → (b : j < m.length) → cmpV l[j] m[j] = (0, 0)) → cmpL l m = (cmpI l.length m.length, 0)) := Lib.hid (cmpL_all l m)
  have HN : Hid (∀ k, (h1 : k < l.length) → (h2 : k < m.length) → (∀ j, j < k → (a : j < l.length) → (b : j < m.length) → cmpV l[j] m[j] = (0, 0)) → ((cmpV l[k] m[k]).1 ≠ 0 ∨ (cmpV l[k] m[k]).2 ≠ 0) → cmpL l m = cmpV l[k] m[k]) := Lib.hid fun k h1 h2 a b => cmpL_stop l m k h1 h2 a b
  have e0 : min l.length m.length = l.length ∨ min l.length m.length = m.length := by omega
  clear ih hr hr2
  generalize cmpL l m = G at *
  rcases Nat.lt_or_ge m.length l.length with hlm | hlm
  · have m1 : (m.length : Int) < (l.length : Int) := by omega
    have m2 : ¬ (l.length : Int) ≤ (m.length : Int) := by omega
    have m3 : ¬ (l.length : Int) < (m.length : Int) := by omega
    have m4 : (m.length : Int) ≤ (l.length : Int) := by omega
    go_enter Tryz.func86, Tryz.ntmps86
    go_wp2_with fail
    go_loopw [14] (fun i wr => ∃ j : Nat, j ≤ m.length ∧ i = .int .i64 j ∧ (∀ k, k < j → (a : k < l.length) → (b : k < m.length) → cmpV l[k] m[k] = (0, 0)) ∧ RepL Q wr l (.slice p l.length cap) ∧ RepL R wr m (.slice p2 m.length cap2) ∧ Below w.heap.size w wr) (fun i _ => m.length - (intOf i).toNat)
    case atStart => exact ⟨0, Nat.zero_le _, rfl, fun k hk => by omega, V1.out, V2.out, Below.refl _ _⟩
    case round =>
      obtain ⟨j, hj, rfl, hall, hV1, hV2, hB⟩ := hrel
      have K := Lib.hid hall
      have U1 := Lib.hid hV1
      have U2 := Lib.hid hV2
      have B1 := Lib.hid hB
      clear hall hV1 hV2 hB V1 V2
      by_cases hlt0 : j < m.length
      · have hlt : j < l.length := by omega
        have hlt2 : j < m.length := by omega
        obtain ⟨b1, off, S, rfl, hq, hb, R1, hR⟩ := U1.out.at hlt
        obtain ⟨b2, off2, S2, rfl, hq2, hb2, R2, hR2⟩ := U2.out.at hlt2
        have r0 := R1.c0
        have r1 := R1.c1
        have r2 := R1.c2
        have r3 := R1.c3
        have r4 := R1.c4
        have r5 := R1.c5
        have s0 := R2.c0
        have s1 := R2.c1
        have s2 := R2.c2
        have s3 := R2.c3
        have s4 := R2.c4
        have s5 := R2.c5
        have HC : Hid (∀ w1, Below wr.heap.size wr w1 → Calls Tryz.prog 54 #[.agg #[.int .u8 l[j].nd.k, .int .i64 l[j].nd.n, .int .i64 l[j].nd.d, .bool l[j].nd.t, .string l[j].nd.s, S], .agg #[.int .u8 m[j].nd.k, .int .i64 m[j].nd.n, .int .i64 m[j].nd.d, .bool m[j].nd.t, .string m[j].nd.s, S2]] w1 fun e w' => e = .returned (.tuple #[.int .i64 (cmpV l[j] m[j]).1, .int .i64 (cmpV l[j] m[j]).2]) ∧ Below w1.heap.size w1 w') :=
          Lib.hid fun w1 hw1 => HI.out l[j] (List.getElem_mem hlt) m[j] _ _ _ (List.getElem_mem hlt2) (hR.later hw1) (hR2.later hw1)
        have KF := Lib.hid (HN.out j hlt hlt2 K.out)
        have KT : Hid (cmpV l[j] m[j] = (0, 0) → ∀ k, k < j + 1 → (h1 : k < l.length) → (h2 : k < m.length) → cmpV l[k] m[k] = (0, 0)) := Lib.hid fun e k hk h1 h2 => by
          rcases Nat.lt_or_ge k j with hk2 | hk2
          · exact K.out k hk2 h1 h2
          · obtain rfl : k = j := by omega
            exact e
        generalize cmpV l[j] m[j] = g at HC KF KT
        obtain ⟨g1, g2⟩ := g
        dsimp only at HC KF KT
        generalize l[j].nd = x at r0 r1 r2 r3 r4 HC
        generalize m[j].nd = y at s0 s1 s2 s3 s4 HC
        have i1 : (0 : Int) ≤ (j : Int) := by omega
        have i2 : (j : Int) < (l.length : Int) := by omega
        have i3 : (j : Int) < (m.length : Int) := by omega
        have i4 : (j : Int) < (m.length : Int) := by omega
        clear R1 R2 hR hR2 hq hq2
        go_wp2_with fail
        have tr0 := fun d os => cell_regrown r0 d os
        have tr1 := fun d os => cell_regrown r1 d os
        have tr2 := fun d os => cell_regrown r2 d os
        have tr3 := fun d os => cell_regrown r3 d os
        have tr4 := fun d os => cell_regrown r4 d os
        have tr5 := fun d os => cell_regrown r5 d os
        have ts0 := fun d os => cell_regrown s0 d os
        have ts1 := fun d os => cell_regrown s1 d os
        have ts2 := fun d os => cell_regrown s2 d os
        have ts3 := fun d os => cell_regrown s3 d os
        have ts4 := fun d os => cell_regrown s4 d os
        have ts5 := fun d os => cell_regrown s5 d os
        refine wp_region_quiet_below (by kernel_rfl) (by kernel_rfl) ?_
        repeat (any_goals (first | go_big_quiet_step ((go_at_call 54; exact Calls.regrown_of (HC.out _ (below_regrown _ _ _)))) | quiet_step ((go_at_call 54; exact Calls.regrown_of (HC.out _ (below_regrown _ _ _))))))
        refine wpQuiet_nil ?_
        intro _ hw'
        obtain ⟨⟨dq, osq⟩, hw''⟩ := hw'
        subst hw''
        have BQ := Lib.hid (below_regrown wr dq osq)
        obtain ⟨wq, hwq⟩ : ∃ x, x = Sort.grow (redrawn wr dq) osq := ⟨_, rfl⟩
        rw [← hwq] at BQ ⊢
        clear hwq tr0 tr1 tr2 tr3 tr4 tr5 ts0 ts1 ts2 ts3 ts4 ts5 r0 r1 r2 r3 r4 r5 s0 s1 s2 s3 s4 s5
        have W1 := Lib.hid (U1.out.later BQ.out)
        have W2 := Lib.hid (U2.out.later BQ.out)
        have B2 := Lib.hid (B1.out.trans (BQ.out.mono B1.out.size))
        by_cases hg1 : g1 = 0
        · by_cases hg2 : g2 = 0
          · have HZ := Lib.hid (KT.out (by rw [hg1, hg2]))
            have z1 : ((g1 : Int) != 0) = false := by rw [hg1]; rfl
            have z2 : ((g2 : Int) != 0) = false := by rw [hg2]; rfl
            clear hg1 hg2
            go_wp2_with fail
            go_roundw
            case rel => exact ⟨j + 1, by omega, by go_num, HZ.out, W1.out, W2.out, B2.out⟩
            case measure => simp [intOf]; omega
          · have HZ := Lib.hid (KF.out (.inr hg2))
            have z1 : ((g1 : Int) != 0) = false := by rw [hg1]; rfl
            have z2 : ((g2 : Int) != 0) = true := by simp [bne]; exact hg2
            clear hg1 hg2
            go_wp2_with fail
            go_ret2
            exact CmpEnd.of HZ.out B2.out
        · have HZ := Lib.hid (KF.out (.inl hg1))
          have z1 : ((g1 : Int) != 0) = true := by simp [bne]; exact hg1
          clear hg1
          go_wp2_with fail
          go_ret2
          exact CmpEnd.of HZ.out B2.out
      · have hend : ¬ (j : Int) < (m.length : Int) := by omega
        have HE := Lib.hid (HA.out fun k a b => K.out k (by omega) a b)
        go_wp2_with fail
        refine (cmpint_any _ _ _).mono ?_
        rintro e w2 ⟨rfl, rfl⟩
        go_wp2_with fail
        go_ret2
        exact CmpEnd.of HE.out B1.out
  · have m1 : ¬ (m.length : Int) < (l.length : Int) := by omega
    have m2 : (l.length : Int) ≤ (m.length : Int) := by omega
    go_enter Tryz.func86, Tryz.ntmps86
    go_wp2_with fail
    go_loopw [14] (fun i wr => ∃ j : Nat, j ≤ l.length ∧ i = .int .i64 j ∧ (∀ k, k < j → (a : k < l.length) → (b : k < m.length) → cmpV l[k] m[k] = (0, 0)) ∧ RepL Q wr l (.slice p l.length cap) ∧ RepL R wr m (.slice p2 m.length cap2) ∧ Below w.heap.size w wr) (fun i _ => l.length - (intOf i).toNat)
    case atStart => exact ⟨0, Nat.zero_le _, rfl, fun k hk => by omega, V1.out, V2.out, Below.refl _ _⟩
    case round =>
      obtain ⟨j, hj, rfl, hall, hV1, hV2, hB⟩ := hrel
      have K := Lib.hid hall
      have U1 := Lib.hid hV1
      have U2 := Lib.hid hV2
      have B1 := Lib.hid hB
      clear hall hV1 hV2 hB V1 V2
      by_cases hlt0 : j < l.length
      · have hlt : j < l.length := by omega
        have hlt2 : j < m.length := by omega
        obtain ⟨b1, off, S, rfl, hq, hb, R1, hR⟩ := U1.out.at hlt
        obtain ⟨b2, off2, S2, rfl, hq2, hb2, R2, hR2⟩ := U2.out.at hlt2
        have r0 := R1.c0
        have r1 := R1.c1
        have r2 := R1.c2
        have r3 := R1.c3
        have r4 := R1.c4
        have r5 := R1.c5
        have s0 := R2.c0
        have s1 := R2.c1
        have s2 := R2.c2
        have s3 := R2.c3
        have s4 := R2.c4
        have s5 := R2.c5
        have HC : Hid (∀ w1, Below wr.heap.size wr w1 → Calls Tryz.prog 54 #[.agg #[.int .u8 l[j].nd.k, .int .i64 l[j].nd.n, .int .i64 l[j].nd.d, .bool l[j].nd.t, .string l[j].nd.s, S], .agg #[.int .u8 m[j].nd.k, .int .i64 m[j].nd.n, .int .i64 m[j].nd.d, .bool m[j].nd.t, .string m[j].nd.s, S2]] w1 fun e w' => e = .returned (.tuple #[.int .i64 (cmpV l[j] m[j]).1, .int .i64 (cmpV l[j] m[j]).2]) ∧ Below w1.heap.size w1 w') :=
          Lib.hid fun w1 hw1 => HI.out l[j] (List.getElem_mem hlt) m[j] _ _ _ (List.getElem_mem hlt2) (hR.later hw1) (hR2.later hw1)
        have KF := Lib.hid (HN.out j hlt hlt2 K.out)
        have KT : Hid (cmpV l[j] m[j] = (0, 0) → ∀ k, k < j + 1 → (h1 : k < l.length) → (h2 : k < m.length) → cmpV l[k] m[k] = (0, 0)) := Lib.hid fun e k hk h1 h2 => by
          rcases Nat.lt_or_ge k j with hk2 | hk2
          · exact K.out k hk2 h1 h2
          · obtain rfl : k = j := by omega
            exact e
        generalize cmpV l[j] m[j] = g at HC KF KT
        obtain ⟨g1, g2⟩ := g
        dsimp only at HC KF KT
        generalize l[j].nd = x at r0 r1 r2 r3 r4 HC
        generalize m[j].nd = y at s0 s1 s2 s3 s4 HC
        have i1 : (0 : Int) ≤ (j : Int) := by omega
        have i2 : (j : Int) < (l.length : Int) := by omega
        have i3 : (j : Int) < (m.length : Int) := by omega
        have i4 : (j : Int) < (l.length : Int) := by omega
        clear R1 R2 hR hR2 hq hq2
        go_wp2_with fail
        have tr0 := fun d os => cell_regrown r0 d os
        have tr1 := fun d os => cell_regrown r1 d os
        have tr2 := fun d os => cell_regrown r2 d os
        have tr3 := fun d os => cell_regrown r3 d os
        have tr4 := fun d os => cell_regrown r4 d os
        have tr5 := fun d os => cell_regrown r5 d os
        have ts0 := fun d os => cell_regrown s0 d os
        have ts1 := fun d os => cell_regrown s1 d os
        have ts2 := fun d os => cell_regrown s2 d os
        have ts3 := fun d os => cell_regrown s3 d os
        have ts4 := fun d os => cell_regrown s4 d os
        have ts5 := fun d os => cell_regrown s5 d os
        refine wp_region_quiet_below (by kernel_rfl) (by kernel_rfl) ?_
        repeat (any_goals (first | go_big_quiet_step ((go_at_call 54; exact Calls.regrown_of (HC.out _ (below_regrown _ _ _)))) | quiet_step ((go_at_call 54; exact Calls.regrown_of (HC.out _ (below_regrown _ _ _))))))
        refine wpQuiet_nil ?_
        intro _ hw'
        obtain ⟨⟨dq, osq⟩, hw''⟩ := hw'
        subst hw''
        have BQ := Lib.hid (below_regrown wr dq osq)
        obtain ⟨wq, hwq⟩ : ∃ x, x = Sort.grow (redrawn wr dq) osq := ⟨_, rfl⟩
        rw [← hwq] at BQ ⊢
        clear hwq tr0 tr1 tr2 tr3 tr4 tr5 ts0 ts1 ts2 ts3 ts4 ts5 r0 r1 r2 r3 r4 r5 s0 s1 s2 s3 s4 s5
        have W1 := Lib.hid (U1.out.later BQ.out)
        have W2 := Lib.hid (U2.out.later BQ.out)
        have B2 := Lib.hid (B1.out.trans (BQ.out.mono B1.out.size))
        by_cases hg1 : g1 = 0
        · by_cases hg2 : g2 = 0
          · have HZ := Lib.hid (KT.out (by rw [hg1, hg2]))
            have z1 : ((g1 : Int) != 0) = false := by rw [hg1]; rfl
            have z2 : ((g2 : Int) != 0) = false := by rw [hg2]; rfl
            clear hg1 hg2
            go_wp2_with fail
            go_roundw
            case rel => exact ⟨j + 1, by omega, by go_num, HZ.out, W1.out, W2.out, B2.out⟩
            case measure => simp [intOf]; omega
          · have HZ := Lib.hid (KF.out (.inr hg2))
            have z1 : ((g1 : Int) != 0) = false := by rw [hg1]; rfl
            have z2 : ((g2 : Int) != 0) = true := by simp [bne]; exact hg2
            clear hg1 hg2
            go_wp2_with fail
            go_ret2
            exact CmpEnd.of HZ.out B2.out
        · have HZ := Lib.hid (KF.out (.inl hg1))
          have z1 : ((g1 : Int) != 0) = true := by simp [bne]; exact hg1
          clear hg1
          go_wp2_with fail
          go_ret2
          exact CmpEnd.of HZ.out B2.out
      · have hend : ¬ (j : Int) < (l.length : Int) := by omega
        have HE := Lib.hid (HA.out fun k a b => K.out k (by omega) a b)
        go_wp2_with fail
        refine (cmpint_any _ _ _).mono ?_
        rintro e w2 ⟨rfl, rfl⟩
        go_wp2_with fail
        go_ret2
        exact CmpEnd.of HE.out B1.out

set_option maxHeartbeats 2000000 in
theorem cmpv_any (Q R : Nat → Prop) (v : V) : ∀ (u : V) (sl sm : Value) (w : World), Wf 1000000 v → Wf 1000000 u → RepL Q w v.list sl → RepL R w u.list sm →
    Calls Tryz.prog 54 #[.agg #[.int .u8 v.nd.k, .int .i64 v.nd.n, .int .i64 v.nd.d, .bool v.nd.t, .string v.nd.s, sl], .agg #[.int .u8 u.nd.k, .int .i64 u.nd.n, .int .i64 u.nd.d, .bool u.nd.t, .string u.nd.s, sm]] w (CmpEnd (cmpV v u) w) := by
  induction v using V.ind with
  | h a l ih =>
    intro u sl sm w hw hw2 hr hr2
    cases u with
    | mk b m =>
    dsimp only [V.nd_mk, V.list_mk] at hr hr2 ⊢
    obtain ⟨p, cap, rfl⟩ := hr.slice
    obtain ⟨p2, cap2, rfl⟩ := hr2.slice
    have hb1 : Below w.heap.size w (w.alloc (.cells #[.int .u8 a.k, .int .i64 a.n, .int .i64 a.d, .bool a.t, .string a.s, .slice p l.length cap] 28)) := (Below.refl _ _).alloc (Nat.le_refl _) _
    have hb2 : Below w.heap.size w ((w.alloc (.cells #[.int .u8 a.k, .int .i64 a.n, .int .i64 a.d, .bool a.t, .string a.s, .slice p l.length cap] 28)).alloc (.cells #[.int .u8 b.k, .int .i64 b.n, .int .i64 b.d, .bool b.t, .string b.s, .slice p2 m.length cap2] 28)) := hb1.alloc (by simp) _
    have hb3 : Below (w.alloc (.cells #[.int .u8 a.k, .int .i64 a.n, .int .i64 a.d, .bool a.t, .string a.s, .slice p l.length cap] 28)).heap.size (w.alloc (.cells #[.int .u8 a.k, .int .i64 a.n, .int .i64 a.d, .bool a.t, .string a.s, .slice p l.length cap] 28)) ((w.alloc (.cells #[.int .u8 a.k, .int .i64 a.n, .int .i64 a.d, .bool a.t, .string a.s, .slice p l.length cap] 28)).alloc (.cells #[.int .u8 b.k, .int .i64 b.n, .int .i64 b.d, .bool b.t, .string b.s, .slice p2 m.length cap2] 28)) := (Below.refl _ _).alloc (Nat.le_refl _) _
    have S1 := Lib.hid ((Six.new w a (.slice p l.length cap)).later hb3)
    have S2 := Lib.hid (Six.new (w.alloc (.cells #[.int .u8 a.k, .int .i64 a.n, .int .i64 a.d, .bool a.t, .string a.s, .slice p l.length cap] 28)) b (.slice p2 m.length cap2))
    rw [World.size_alloc] at S2
    have R1 := Lib.hid (hr.later hb2)
    have R2 := Lib.hid (hr2.later hb2)
    have B0 := Lib.hid hb2
    clear hb1 hb2 hb3 hr hr2
    have HL : Hid (∀ w1, Below w.heap.size w w1 → RepL Q w1 l (.slice p l.length cap) → RepL R w1 m (.slice p2 m.length cap2) → Calls Tryz.prog 86 #[.slice p l.length cap, .slice p2 m.length cap2] w1 (CmpEnd (cmpL l m) w1)) := Lib.hid fun w1 _ h1 h2 =>
      cmplists_of Q R l m p p2 cap cap2 w1 hw.len hw2.len h1 h2 fun x hx y sl sm w2 hy g1 g2 => ih x hx y sl sm w2 (hw.mem hx) (hw2.mem hy) g1 g2
    have k1 := hw.nd.k0
    have k2 := hw.nd.k1
    have k3 := hw2.nd.k0
    have k4 := hw2.nd.k1
    dsimp only [V.nd_mk] at k1 k2 k3 k4
    have hE : cmpV (.mk a l) (.mk b m) = if a.k ≠ b.k then (0, 20) else if a.k = 1 then (okN (vld a.n a.d && vld b.n b.d) (cmpI (a.n * b.d) (b.n * a.d)), okE (vld a.n a.d && vld b.n b.d)) else if a.k = 2 then (cmpT a.t b.t, 0) else if a.k = 3 then (cmpS a.s b.s, 0) else cmpL l m := by rw [cmpV]
    clear ih hw hw2
    have l1 := S1.out.lt
    have q0 := S1.out.row.c0
    have q1 := S1.out.row.c1
    have q2 := S1.out.row.c2
    have q3 := S1.out.row.c3
    have q4 := S1.out.row.c4
    have q5 := S1.out.row.c5
    simp only [Nat.zero_add] at q1 q2 q3 q4 q5
    have l2 := S2.out.lt
    have g0 := S2.out.row.c0
    have g1 := S2.out.row.c1
    have g2 := S2.out.row.c2
    have g3 := S2.out.row.c3
    have g4 := S2.out.row.c4
    have g5 := S2.out.row.c5
    simp only [Nat.zero_add] at g1 g2 g3 g4 g5
    by_cases hk : a.k = b.k
    · rw [if_neg (by simpa using hk)] at hE
      have z0 : ((a.k : Int) != b.k) = false := by rw [hk]; simp
      by_cases h1 : a.k = 1
      · rw [if_pos h1] at hE
        have HE := Lib.hid hE
        have z1 : ((a.k : Int) == 1) = true := by rw [h1]; rfl
        clear hE hk h1
        go_enter Tryz.func54, Tryz.ntmps54
        go_wp2_with fail
        refine (cmp_any _ _ _ _ _).mono ?_
        rintro e w1 ⟨rfl, hb⟩
        have HB := Lib.hid (B0.out.trans (hb.mono B0.out.size))
        clear hb
        go_wp2_with fail
        go_ret2
        exact CmpEnd.of HE.out HB.out
      · rw [if_neg h1] at hE
        have z1 : ((a.k : Int) == 1) = false := beq_eq_false_iff_ne.2 h1
        by_cases h2 : a.k = 2
        · rw [if_pos h2] at hE
          have HE := Lib.hid hE
          have z2 : ((a.k : Int) == 2) = true := by rw [h2]; rfl
          clear hE hk h1 h2
          go_enter Tryz.func54, Tryz.ntmps54
          go_wp2_with fail
          refine (cmptruths_any _ _ _).mono ?_
          rintro e w1 ⟨rfl, rfl⟩
          go_wp2_with fail
          go_ret2
          exact CmpEnd.of HE.out B0.out
        · rw [if_neg h2] at hE
          have z2 : ((a.k : Int) == 2) = false := beq_eq_false_iff_ne.2 h2
          by_cases h3 : a.k = 3
          · rw [if_pos h3] at hE
            have HE := Lib.hid hE
            have z3 : ((a.k : Int) == 3) = true := by rw [h3]; rfl
            clear hE hk h1 h2 h3
            go_enter Tryz.func54, Tryz.ntmps54
            go_wp2_with fail
            refine (cmpstr_any _ _ _).mono ?_
            rintro e w1 ⟨rfl, rfl⟩
            go_wp2_with fail
            go_ret2
            exact CmpEnd.of HE.out B0.out
          · rw [if_neg h3] at hE
            have HE := Lib.hid hE
            have z3 : ((a.k : Int) == 3) = false := beq_eq_false_iff_ne.2 h3
            clear hE hk h1 h2 h3
            go_enter Tryz.func54, Tryz.ntmps54
            go_wp2_with fail
            refine (HL.out _ B0.out R1.out R2.out).mono ?_
            rintro e w1 ⟨rfl, hb⟩
            have HB := Lib.hid (B0.out.trans (hb.mono B0.out.size))
            clear hb
            go_wp2_with fail
            go_ret2
            exact CmpEnd.of (by rw [HE.out]) HB.out
    · rw [if_pos hk] at hE
      have HE := Lib.hid hE
      have z0 : ((a.k : Int) != b.k) = true := by simp [bne]; exact hk
      clear hE hk
      go_enter Tryz.func54, Tryz.ntmps54
      go_wp2_with fail
      go_ret2
      exact CmpEnd.of HE.out B0.out
/-- The error of two values. -/
def bothE (v u : V) : Int := if vchk v ≠ 0 then vchk v else vchk u
set_option maxHeartbeats 1000000 in
theorem checkboth_any (a b : Nd) (l m : List V) (sl sm : Value) (w : World) (hs : Small (.mk a l)) (hs2 : Small (.mk b m)) (hr : RepL (· < w.heap.size) w l sl) (hr2 : RepL (· < w.heap.size) w m sm) :
    Calls Tryz.prog 35 #[.agg #[.int .u8 a.k, .int .i64 a.n, .int .i64 a.d, .bool a.t, .string a.s, sl], .agg #[.int .u8 b.k, .int .i64 b.n, .int .i64 b.d, .bool b.t, .string b.s, sm]] w fun e w' => e = .returned (.int .i64 (bothE (.mk a l) (.mk b m))) ∧ Below w.heap.size w w' := by
  obtain ⟨p, cap, rfl⟩ := hr.slice
  obtain ⟨p2, cap2, rfl⟩ := hr2.slice
  have hb1 : Below w.heap.size w (w.alloc (.cells #[.int .u8 a.k, .int .i64 a.n, .int .i64 a.d, .bool a.t, .string a.s, .slice p l.length cap] 28)) := (Below.refl _ _).alloc (Nat.le_refl _) _
  have hb2 : Below w.heap.size w ((w.alloc (.cells #[.int .u8 a.k, .int .i64 a.n, .int .i64 a.d, .bool a.t, .string a.s, .slice p l.length cap] 28)).alloc (.cells #[.int .u8 b.k, .int .i64 b.n, .int .i64 b.d, .bool b.t, .string b.s, .slice p2 m.length cap2] 28)) := hb1.alloc (by simp) _
  have hb3 : Below (w.alloc (.cells #[.int .u8 a.k, .int .i64 a.n, .int .i64 a.d, .bool a.t, .string a.s, .slice p l.length cap] 28)).heap.size (w.alloc (.cells #[.int .u8 a.k, .int .i64 a.n, .int .i64 a.d, .bool a.t, .string a.s, .slice p l.length cap] 28)) ((w.alloc (.cells #[.int .u8 a.k, .int .i64 a.n, .int .i64 a.d, .bool a.t, .string a.s, .slice p l.length cap] 28)).alloc (.cells #[.int .u8 b.k, .int .i64 b.n, .int .i64 b.d, .bool b.t, .string b.s, .slice p2 m.length cap2] 28)) := (Below.refl _ _).alloc (Nat.le_refl _) _
  have S1 := Lib.hid ((Six.new w a (.slice p l.length cap)).later hb3)
  have S2 := Lib.hid (Six.new (w.alloc (.cells #[.int .u8 a.k, .int .i64 a.n, .int .i64 a.d, .bool a.t, .string a.s, .slice p l.length cap] 28)) b (.slice p2 m.length cap2))
  rw [World.size_alloc] at S2
  have R1 := Lib.hid (hr.later hb2)
  have R2 := Lib.hid (hr2.later hb2)
  have B0 := Lib.hid hb2
  clear hb1 hb2 hb3 hr hr2
  have KA := Lib.hid (fun w1 h => vcheck_any a l p cap w1 hs h)
  have KB := Lib.hid (fun w1 h => vcheck_any b m p2 cap2 w1 hs2 h)
  have hE : bothE (.mk a l) (.mk b m) = if vchk (.mk a l) ≠ 0 then vchk (.mk a l) else vchk (.mk b m) := rfl
  generalize bothE (.mk a l) (.mk b m) = E at *
  generalize vchk (.mk a l) = x at *
  generalize vchk (.mk b m) = y at *
  have HE := Lib.hid hE
  clear hE
  have l1 := S1.out.lt
  have q0 := S1.out.row.c0
  have q1 := S1.out.row.c1
  have q2 := S1.out.row.c2
  have q3 := S1.out.row.c3
  have q4 := S1.out.row.c4
  have q5 := S1.out.row.c5
  simp only [Nat.zero_add] at q1 q2 q3 q4 q5
  by_cases hx : x = 0
  · have HE2 := Lib.hid (HE.out.trans (if_neg (by simpa using hx)))
    have z0 : ((x : Int) != 0) = false := by rw [hx]; rfl
    clear hx
    go_enter Tryz.func35, Tryz.ntmps35
    go_wp2_with fail
    refine (KA.out _ R1.out.bound).mono ?_
    rintro e w1 ⟨rfl, hb⟩
    have S3 := Lib.hid (S2.out.later hb)
    have R3 := Lib.hid (R2.out.later hb)
    have HB := Lib.hid (B0.out.trans (hb.mono B0.out.size))
    clear hb l1 q0 q1 q2 q3 q4 q5
    have l2 := S3.out.lt
    have g0 := S3.out.row.c0
    have g1 := S3.out.row.c1
    have g2 := S3.out.row.c2
    have g3 := S3.out.row.c3
    have g4 := S3.out.row.c4
    have g5 := S3.out.row.c5
    simp only [Nat.zero_add] at g1 g2 g3 g4 g5
    go_wp2_with fail
    refine (KB.out _ R3.out.bound).mono ?_
    rintro e w2 ⟨rfl, hb⟩
    have HB2 := Lib.hid (HB.out.trans (hb.mono HB.out.size))
    clear hb
    go_wp2_with fail
    go_ret
    exact ⟨ret_int HE2.out.symm, HB2.out⟩
  · have HE2 := Lib.hid (HE.out.trans (if_pos hx))
    have z0 : ((x : Int) != 0) = true := by simp [bne]; exact hx
    clear hx
    go_enter Tryz.func35, Tryz.ntmps35
    go_wp2_with fail
    refine (KA.out _ R1.out.bound).mono ?_
    rintro e w1 ⟨rfl, hb⟩
    have HB := Lib.hid (B0.out.trans (hb.mono B0.out.size))
    clear hb l1 q0 q1 q2 q3 q4 q5
    go_wp2_with fail
    go_ret
    exact ⟨ret_int HE2.out.symm, HB.out⟩
/-- What Compare hands back. -/
def cmpC (v u : V) : Int × Int := if bothE v u ≠ 0 then (0, bothE v u) else cmpV v u
set_option maxHeartbeats 1000000 in
theorem vcompare_any (a b : Nd) (l m : List V) (sl sm : Value) (w : World) (hs : Small (.mk a l)) (hs2 : Small (.mk b m)) (hr : RepL (· < w.heap.size) w l sl) (hr2 : RepL (· < w.heap.size) w m sm) :
    Calls Tryz.prog 32 #[.agg #[.int .u8 a.k, .int .i64 a.n, .int .i64 a.d, .bool a.t, .string a.s, sl], .agg #[.int .u8 b.k, .int .i64 b.n, .int .i64 b.d, .bool b.t, .string b.s, sm]] w (CmpEnd (cmpC (.mk a l) (.mk b m)) w) := by
  obtain ⟨p, cap, rfl⟩ := hr.slice
  obtain ⟨p2, cap2, rfl⟩ := hr2.slice
  have hb1 : Below w.heap.size w (w.alloc (.cells #[.int .u8 a.k, .int .i64 a.n, .int .i64 a.d, .bool a.t, .string a.s, .slice p l.length cap] 28)) := (Below.refl _ _).alloc (Nat.le_refl _) _
  have hb2 : Below w.heap.size w ((w.alloc (.cells #[.int .u8 a.k, .int .i64 a.n, .int .i64 a.d, .bool a.t, .string a.s, .slice p l.length cap] 28)).alloc (.cells #[.int .u8 b.k, .int .i64 b.n, .int .i64 b.d, .bool b.t, .string b.s, .slice p2 m.length cap2] 28)) := hb1.alloc (by simp) _
  have hb3 : Below (w.alloc (.cells #[.int .u8 a.k, .int .i64 a.n, .int .i64 a.d, .bool a.t, .string a.s, .slice p l.length cap] 28)).heap.size (w.alloc (.cells #[.int .u8 a.k, .int .i64 a.n, .int .i64 a.d, .bool a.t, .string a.s, .slice p l.length cap] 28)) ((w.alloc (.cells #[.int .u8 a.k, .int .i64 a.n, .int .i64 a.d, .bool a.t, .string a.s, .slice p l.length cap] 28)).alloc (.cells #[.int .u8 b.k, .int .i64 b.n, .int .i64 b.d, .bool b.t, .string b.s, .slice p2 m.length cap2] 28)) := (Below.refl _ _).alloc (Nat.le_refl _) _
  have S1 := Lib.hid ((Six.new w a (.slice p l.length cap)).later hb3)
  have S2 := Lib.hid (Six.new (w.alloc (.cells #[.int .u8 a.k, .int .i64 a.n, .int .i64 a.d, .bool a.t, .string a.s, .slice p l.length cap] 28)) b (.slice p2 m.length cap2))
  rw [World.size_alloc] at S2
  have R1 := Lib.hid (hr.later hb2)
  have R2 := Lib.hid (hr2.later hb2)
  have B0 := Lib.hid hb2
  clear hb1 hb2 hb3 hr hr2
  have KA := Lib.hid (fun w1 h h2 => checkboth_any a b l m (.slice p l.length cap) (.slice p2 m.length cap2) w1 hs hs2 h h2)
  have KB := Lib.hid (fun w1 Q R h h2 => cmpv_any Q R (.mk a l) (.mk b m) (.slice p l.length cap) (.slice p2 m.length cap2) w1 (Wf.mono (by omega) hs.wf) (Wf.mono (by omega) hs2.wf) h h2)
  dsimp only [V.nd_mk, V.list_mk] at KB
  have hE : cmpC (.mk a l) (.mk b m) = if bothE (.mk a l) (.mk b m) ≠ 0 then (0, bothE (.mk a l) (.mk b m)) else cmpV (.mk a l) (.mk b m) := rfl
  generalize cmpC (.mk a l) (.mk b m) = E at *
  generalize bothE (.mk a l) (.mk b m) = x at *
  generalize cmpV (.mk a l) (.mk b m) = y at *
  have HE := Lib.hid hE
  clear hE
  have l1 := S1.out.lt
  have q0 := S1.out.row.c0
  have q1 := S1.out.row.c1
  have q2 := S1.out.row.c2
  have q3 := S1.out.row.c3
  have q4 := S1.out.row.c4
  have q5 := S1.out.row.c5
  simp only [Nat.zero_add] at q1 q2 q3 q4 q5
  have l2 := S2.out.lt
  have g0 := S2.out.row.c0
  have g1 := S2.out.row.c1
  have g2 := S2.out.row.c2
  have g3 := S2.out.row.c3
  have g4 := S2.out.row.c4
  have g5 := S2.out.row.c5
  simp only [Nat.zero_add] at g1 g2 g3 g4 g5
  by_cases hx : x = 0
  · have HE2 := Lib.hid (HE.out.trans (if_neg (by simpa using hx)))
    have z0 : ((x : Int) != 0) = false := by rw [hx]; rfl
    clear hx
    go_enter Tryz.func32, Tryz.ntmps32
    go_wp2_with fail
    refine (KA.out _ R1.out.bound R2.out.bound).mono ?_
    rintro e w1 ⟨rfl, hb⟩
    have S3 := Lib.hid (S1.out.later hb)
    have S4 := Lib.hid (S2.out.later hb)
    have R3 := Lib.hid (R1.out.later hb)
    have R4 := Lib.hid (R2.out.later hb)
    have HB := Lib.hid (B0.out.trans (hb.mono B0.out.size))
    clear hb l1 q0 q1 q2 q3 q4 q5 l2 g0 g1 g2 g3 g4 g5
    have l1 := S3.out.lt
    have q0 := S3.out.row.c0
    have q1 := S3.out.row.c1
    have q2 := S3.out.row.c2
    have q3 := S3.out.row.c3
    have q4 := S3.out.row.c4
    have q5 := S3.out.row.c5
    simp only [Nat.zero_add] at q1 q2 q3 q4 q5
    have l2 := S4.out.lt
    have g0 := S4.out.row.c0
    have g1 := S4.out.row.c1
    have g2 := S4.out.row.c2
    have g3 := S4.out.row.c3
    have g4 := S4.out.row.c4
    have g5 := S4.out.row.c5
    simp only [Nat.zero_add] at g1 g2 g3 g4 g5
    go_wp2_with fail
    refine (KB.out _ _ _ R3.out R4.out).mono ?_
    rintro e w2 ⟨rfl, hb⟩
    have HB2 := Lib.hid (HB.out.trans (hb.mono HB.out.size))
    clear hb
    go_wp2_with fail
    go_ret2
    exact CmpEnd.of HE2.out HB2.out
  · have HE2 := Lib.hid (HE.out.trans (if_pos hx))
    have z0 : ((x : Int) != 0) = true := by simp [bne]; exact hx
    clear hx
    go_enter Tryz.func32, Tryz.ntmps32
    go_wp2_with fail
    refine (KA.out _ R1.out.bound R2.out.bound).mono ?_
    rintro e w1 ⟨rfl, hb⟩
    have HB := Lib.hid (B0.out.trans (hb.mono B0.out.size))
    clear hb l1 q0 q1 q2 q3 q4 q5 l2 g0 g1 g2 g3 g4 g5
    go_wp2_with fail
    go_ret2
    exact CmpEnd.of HE2.out HB.out
end Go.Proofs.YtakjgjhjndiggaaGreatDoor
