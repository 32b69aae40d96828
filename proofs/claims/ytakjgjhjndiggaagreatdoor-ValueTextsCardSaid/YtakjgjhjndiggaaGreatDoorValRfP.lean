/-
  What the reference's Parse hands back.
-/
import Derived.Test.YtakjgjhjndiggaaGreatDoorValRfReadAll
import Derived.Test.YtakjgjhjndiggaaGreatDoorValParse
import Derived.Test.YtakjgjhjndiggaaGreatDoorValRefCheck
namespace Go.Proofs.YtakjgjhjndiggaaGreatDoor
open Go.RowKit Go.Shelf
open VM
set_option linter.unusedVariables false
set_option linter.unusedSimpArgs false

theorem PRn.whole {s : By} {v : V} {rest : By} {ok : Bool} (h : PRn 6 s v rest ok) {u : V} (hu : vchk u = 0) (ht : txt u = s) : ok = true ∧ v = u ∧ rest = [] := by
  obtain ⟨_, hd, hf⟩ := vchk_zero.1 hu
  exact h.2 u [] hf (by omega) (by rw [ht]; simp) (.inl rfl)
theorem PaOk.nor {s : By} {v : V} {rest : By} {ok : Bool} (h : PRn 6 s v rest ok) (hn : ok = true → rest = [] → vchk v ≠ 0) : PaOk s zerV 12 :=
  .inr ⟨rfl, rfl, fun u hu ht _ => by
    obtain ⟨h1, h2, h3⟩ := h.whole hu ht
    exact hn h1 h3 (by rw [h2]; exact hu)⟩
theorem PaOk.yesr {s : By} {v : V} (h : PRn 6 s v [] true) (hv : vchk v = 0) (hl : s.length ≤ 4000) : PaOk s v 0 :=
  .inl ⟨rfl, hv, by
    have := (h.1 rfl).1 (vchk_zero.1 hv).2.2
    rw [this]; simp, hl, fun u hu ht => (h.whole hu ht).2.1⟩

set_option maxHeartbeats 4000000 in
theorem refparsev_any (s : ByteArray) (w : World) : Calls Tryz.prog 27 #[.string s] w (PaEnd (lA s) w) := by
  have S0 := Lib.hid (Six.new w ⟨0, 0, 0, false, ⟨#[]⟩⟩ (.slice none 0 0))
  have B0 : Hid (Below w.heap.size w (w.alloc (.cells #[.int .u8 0, .int .i64 0, .int .i64 0, .bool false, .string ⟨#[]⟩, .slice none 0 0] 28))) := Lib.hid ((Below.refl _ _).alloc (Nat.le_refl _) _)
  by_cases hbig : 4000 < s.size
  · have HP : Hid (PaOk (lA s) zerV 12) := Lib.hid (PaOk.long (by rw [lA_len]; exact hbig))
    have hb2 : (4000 : Int) < s.size := by omega
    have e0 := S0.out.row.c0
    have e1 := S0.out.row.c1
    have e2 := S0.out.row.c2
    have e3 := S0.out.row.c3
    have e4 := S0.out.row.c4
    have e5 := S0.out.row.c5
    simp only [Nat.zero_add] at e1 e2 e3 e4 e5
    clear hbig
    go_enter Tryz.func27, Tryz.ntmps27
    go_wp2_with fail
    exact bodyPost_ret (v := .tuple #[.agg #[.int .u8 0, .int .i64 0, .int .i64 0, .bool false, .string ⟨#[]⟩, .slice none 0 0], .int .i64 12]) (by simp [results, Tryz.results27, go_sem, e0, e1, e2, e3, e4, e5] <;> rfl) rfl ⟨zerV, .slice none 0 0, 12, rfl, RepL.nil _ _ _ _, HP.out, small_zer, B0.out⟩
  · have hb2 : ¬ (4000 : Int) < s.size := by omega
    have HSz : Hid ((lA s).length ≤ 4000) := Lib.hid (by rw [lA_len]; omega)
    have KR := Lib.hid (fun w => refread_any s (by omega) 6 (by omega) 0 w (by omega))
    simp only [Int.natCast_zero, Int.cast_ofNat_Int] at KR
    clear hbig
    go_enter Tryz.func27, Tryz.ntmps27
    go_wp2_with fail
    refine (KR.out _).mono ?_
    rintro e w1 ⟨v, sl, k, ok, rfl, hr1, hq, hb1⟩
    obtain ⟨p, cap, rfl⟩ := hr1.slice
    rw [World.size_alloc] at hr1
    have hk := hq.1
    rw [lA_len] at hk
    have HQ := Lib.hid hq.2.2
    rw [List.drop_zero] at HQ
    obtain ⟨W1, hW1⟩ : ∃ W1, W1 = w1.alloc (.cells #[.int .u8 v.nd.k, .int .i64 v.nd.n, .int .i64 v.nd.d, .bool v.nd.t, .string v.nd.s, .slice p v.list.length cap] 28) := ⟨_, rfl⟩
    have hbw : Below w1.heap.size w1 W1 := by rw [hW1]; exact (Below.refl _ _).alloc (Nat.le_refl _) _
    have S1 := Lib.hid ((S0.out.later hb1).later hbw)
    have HB1 := Lib.hid ((B0.out.trans (hb1.mono B0.out.size)).trans (hbw.mono (Nat.le_trans B0.out.size hb1.size)))
    have HE1 : Hid (Six W1 w1.heap.size v.nd (.slice p v.list.length cap)) := Lib.hid (by rw [hW1]; exact Six.new _ _ _)
    have HR1 := Lib.hid (hr1.later hbw)
    have dne : ¬ w1.heap.size = w.heap.size := by have := hb1.size; rw [World.size_alloc] at this; omega
    have l1 := S1.out.lt
    have q0 := S1.out.row.c0
    have q1 := S1.out.row.c1
    have q2 := S1.out.row.c2
    have q3 := S1.out.row.c3
    have q4 := S1.out.row.c4
    have q5 := S1.out.row.c5
    have f0 := S1.out.free 0
    have f1 := S1.out.free 1
    have f2 := S1.out.free 2
    have f3 := S1.out.free 3
    have f4 := S1.out.free 4
    have f5 := S1.out.free 5
    simp only [Nat.zero_add] at q1 q2 q3 q4 q5
    have HZ := Lib.hid (sixSet_six S1.out ⟨0, 0, 0, false, ⟨#[]⟩⟩ (.slice none 0 0))
    have HZb := Lib.hid (sixSet_below (a := ⟨0, 0, 0, false, ⟨#[]⟩⟩) (sl := .slice none 0 0) HB1.out (Nat.le_refl _))
    rw [hW1] at l1 q0 q1 q2 q3 q4 q5 f0 f1 f2 f3 f4 f5
    unfold sixSet at HZ HZb
    rw [hW1] at HZ HZb
    clear hr1 hq hb1 hbw
    have hno : ok = false ∨ (ok = true ∧ k ≠ s.size) ∨ (ok = true ∧ k = s.size) := by
      cases ok
      · exact .inl rfl
      · by_cases h : k = s.size
        · exact .inr (.inr ⟨rfl, h⟩)
        · exact .inr (.inl ⟨rfl, h⟩)
    rcases hno with rfl | ⟨rfl, hne⟩ | ⟨rfl, hke⟩
    · have HP := Lib.hid (PaOk.nor HQ.out (fun e => by simp at e))
      clear hW1
      go_wp2_with fail
      have e0 := HZ.out.row.c0
      have e1 := HZ.out.row.c1
      have e2 := HZ.out.row.c2
      have e3 := HZ.out.row.c3
      have e4 := HZ.out.row.c4
      have e5 := HZ.out.row.c5
      simp only [Nat.zero_add] at e1 e2 e3 e4 e5
      exact bodyPost_ret (v := .tuple #[.agg #[.int .u8 0, .int .i64 0, .int .i64 0, .bool false, .string ⟨#[]⟩, .slice none 0 0], .int .i64 12]) (by simp [results, Tryz.results27, go_sem, q0, q1, q2, q3, q4, q5, l1, e0, e1, e2, e3, e4, e5] <;> rfl) rfl ⟨zerV, .slice none 0 0, 12, rfl, RepL.nil _ _ _ _, HP.out, small_zer, HZb.out⟩
    · have HP := Lib.hid (PaOk.nor HQ.out (fun _ e => by rw [if_pos rfl] at e; have := congrArg List.length e; rw [List.length_drop, lA_len] at this; exact absurd this (by simp; omega)))
      have z1 : (((k : Int)) != (s.size : Int)) = true := by simp [bne]; omega
      have z2 : (((k : Int)) == (s.size : Int)) = false := beq_eq_false_iff_ne.2 (by omega)
      clear hW1 hne
      go_wp2_with fail
      have e0 := HZ.out.row.c0
      have e1 := HZ.out.row.c1
      have e2 := HZ.out.row.c2
      have e3 := HZ.out.row.c3
      have e4 := HZ.out.row.c4
      have e5 := HZ.out.row.c5
      simp only [Nat.zero_add] at e1 e2 e3 e4 e5
      exact bodyPost_ret (v := .tuple #[.agg #[.int .u8 0, .int .i64 0, .int .i64 0, .bool false, .string ⟨#[]⟩, .slice none 0 0], .int .i64 12]) (by simp [results, Tryz.results27, go_sem, q0, q1, q2, q3, q4, q5, l1, e0, e1, e2, e3, e4, e5] <;> rfl) rfl ⟨zerV, .slice none 0 0, 12, rfl, RepL.nil _ _ _ _, HP.out, small_zer, HZb.out⟩
    · rw [if_pos rfl, hke, List.drop_of_length_le (by rw [lA_len]; omega)] at HQ
      have z1 : (((k : Int)) != (s.size : Int)) = false := by rw [hke]; simp
      have z2 : (((k : Int)) == (s.size : Int)) = true := by rw [hke]; simp
      have HSm : Hid (Small v) := Lib.hid (by
        obtain ⟨_, h2, h3, h4⟩ := HQ.out.1 rfl
        refine ⟨h2, ?_⟩
        have := HSz.out; omega)
      have HC := Lib.hid (refvcheck_any _ v.nd v.list p cap W1 (by rw [V.eta]; exact HSm.out) (fun _ => by rw [V.eta]; have := (HQ.out.1 rfl).2.2.2; have := HSz.out; omega) HR1.out)
      rw [V.eta, hW1] at HC
      go_wp2_with fail
      refine HC.out.mono ?_
      rw [← hW1]
      clear hW1 HC
      rintro e w2 ⟨rfl, hb2⟩
      have S2 := Lib.hid (S1.out.later hb2)
      have HE2 := Lib.hid (HE1.out.later hb2)
      have HR2 := Lib.hid (HR1.out.later hb2)
      have HB2 := Lib.hid (HB1.out.trans (hb2.mono HB1.out.size))
      clear hb2 q0 q1 q2 q3 q4 q5 f0 f1 f2 f3 f4 f5 l1 HZ HZb
      have l1 := S2.out.lt
      have q0 := S2.out.row.c0
      have q1 := S2.out.row.c1
      have q2 := S2.out.row.c2
      have q3 := S2.out.row.c3
      have q4 := S2.out.row.c4
      have q5 := S2.out.row.c5
      have f0 := S2.out.free 0
      have f1 := S2.out.free 1
      have f2 := S2.out.free 2
      have f3 := S2.out.free 3
      have f4 := S2.out.free 4
      have f5 := S2.out.free 5
      simp only [Nat.zero_add] at q1 q2 q3 q4 q5
      have l2 := HE2.out.lt
      have m0 := HE2.out.row.c0
      have m1 := HE2.out.row.c1
      have m2 := HE2.out.row.c2
      have m3 := HE2.out.row.c3
      have m4 := HE2.out.row.c4
      have m5 := HE2.out.row.c5
      simp only [Nat.zero_add] at m1 m2 m3 m4 m5
      by_cases hv : vchk v = 0
      · have HP := Lib.hid (PaOk.yesr HQ.out hv HSz.out)
        have hv1 : (vchk v == 0) = true := by rw [hv]; rfl
        have hv2 : (vchk v != 0) = false := by rw [hv]; rfl
        have HE := rd_store S2.out HR2.out HB2.out
        unfold sixSet at HE
        have HE' := Lib.hid HE
        have e0 := HE.1.row.c0
        have e1 := HE.1.row.c1
        have e2 := HE.1.row.c2
        have e3 := HE.1.row.c3
        have e4 := HE.1.row.c4
        have e5 := HE.1.row.c5
        simp only [Nat.zero_add] at e1 e2 e3 e4 e5
        clear HE hv
        go_wp2_with fail
        exact bodyPost_ret (v := .tuple #[.agg #[.int .u8 v.nd.k, .int .i64 v.nd.n, .int .i64 v.nd.d, .bool v.nd.t, .string v.nd.s, .slice p v.list.length cap], .int .i64 0]) (by simp [results, Tryz.results27, go_sem, q0, q1, q2, q3, q4, q5, l1, e0, e1, e2, e3, e4, e5] <;> rfl) rfl ⟨v, .slice p v.list.length cap, 0, rfl, HE'.out.2.1, HP.out, HSm.out, HE'.out.2.2⟩
      · have HP := Lib.hid (PaOk.nor HQ.out (fun _ _ => hv))
        have hv1 : (vchk v == 0) = false := beq_eq_false_iff_ne.2 hv
        have hv2 : (vchk v != 0) = true := by simp [bne, hv1]
        have HZ := Lib.hid (sixSet_six S2.out ⟨0, 0, 0, false, ⟨#[]⟩⟩ (.slice none 0 0))
        have HZb := Lib.hid (sixSet_below (a := ⟨0, 0, 0, false, ⟨#[]⟩⟩) (sl := .slice none 0 0) HB2.out (Nat.le_refl _))
        unfold sixSet at HZ HZb
        clear hv
        go_wp2_with fail
        have e0 := HZ.out.row.c0
        have e1 := HZ.out.row.c1
        have e2 := HZ.out.row.c2
        have e3 := HZ.out.row.c3
        have e4 := HZ.out.row.c4
        have e5 := HZ.out.row.c5
        simp only [Nat.zero_add] at e1 e2 e3 e4 e5
        exact bodyPost_ret (v := .tuple #[.agg #[.int .u8 0, .int .i64 0, .int .i64 0, .bool false, .string ⟨#[]⟩, .slice none 0 0], .int .i64 12]) (by simp [results, Tryz.results27, go_sem, q0, q1, q2, q3, q4, q5, l1, e0, e1, e2, e3, e4, e5] <;> rfl) rfl ⟨zerV, .slice none 0 0, 12, rfl, RepL.nil _ _ _ _, HP.out, small_zer, HZb.out⟩
end Go.Proofs.YtakjgjhjndiggaaGreatDoor
