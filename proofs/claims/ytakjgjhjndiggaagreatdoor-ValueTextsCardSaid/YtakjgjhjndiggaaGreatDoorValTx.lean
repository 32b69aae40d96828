/-
  ValueTexts.
-/
import Derived.Test.YtakjgjhjndiggaaGreatDoorValRfP
import Derived.Test.YtakjgjhjndiggaaGreatDoorValNum
import Derived.Test.YtakjgjhjndiggaaGreatDoorValIdx
import Derived.Test.YtakjgjhjndiggaaGreatDoorValTextB
namespace Go.Proofs.YtakjgjhjndiggaaGreatDoor
open Go.RowKit Go.Shelf
open VM
set_option linter.unusedVariables false
set_option linter.unusedSimpArgs false

theorem numR_list (n d e : Int) : (numR n d e).list = [] := by unfold numR; split <;> rfl
theorem mk_bnd (n d : Int) : -1000000000 ≤ RM.mkN n d ∧ RM.mkN n d ≤ 1000000000 ∧ 0 ≤ RM.mkD n d ∧ RM.mkD n d ≤ 1000000000 := by
  unfold RM.mkN RM.mkD
  by_cases h : RM.fits n d = true
  · have h2 := h
    unfold RM.fits at h2
    rw [decide_eq_true_eq] at h2
    rw [if_pos h, if_pos h]
    split <;> omega
  · rw [if_neg h, if_neg h]; omega
theorem small_numR (n d : Int) : Small (numR (RM.mkN n d) (RM.mkD n d) (RM.mkE n d)) := by
  obtain ⟨b1, b2, b3, b4⟩ := mk_bnd n d
  unfold numR
  split
  · refine ⟨.mk _ _ (nd_wf (by simp) (by simp) (by show _ ≤ RM.mkN n d; omega) (by show RM.mkN n d ≤ _; omega) (by show _ ≤ RM.mkD n d; omega) (by show RM.mkD n d ≤ _; omega) (by show (0 : Nat) ≤ 20000; omega)) (by simp) (by simp), by rw [show hgt (numV' _ _) = 1 from (sz_leaf (by simp)).2]; omega⟩
  · exact small_zer
theorem same_mk (v : V) : sameB (.mk v.nd v.list) (.mk v.nd v.list) = true := (sameB_iff _ _).2 rfl
theorem RepL.nil' {Q : Nat → Prop} {w : World} {l : List V} (h : l = []) (p : Option Addr) (cap : Nat) : RepL Q w l (.slice p 0 cap) := by subst h; exact RepL.nil _ _ _ _
set_option maxHeartbeats 2000000 in
theorem texts_great (a : Nd) (l : List V) (sl : Value) (s : ByteArray) (num den : Int) (m : Nat) (w : World) (hg : grtB (.mk a l) = true) (hw : Wf m (.mk a l)) (hr : RepL (· < w.heap.size) w l sl) (ht : Tab w) (hl : Len w) : Calls Tryz.prog 4 #[.agg #[.int .u8 a.k, .int .i64 a.n, .int .i64 a.d, .bool a.t, .string a.s, sl], .string s, .int .i64 num, .int .i64 den] w fun e w' => e = .returned (.bool true) ∧ Below w.heap.size w w' := by
  obtain ⟨p, cap, rfl⟩ := hr.slice
  have hb0 : Below w.heap.size w (w.alloc (.cells #[.int .u8 a.k, .int .i64 a.n, .int .i64 a.d, .bool a.t, .string a.s, .slice p l.length cap] 28)) := (Below.refl _ _).alloc (Nat.le_refl _) _
  have S0 := Lib.hid (Six.new w a (.slice p l.length cap))
  have R0 := Lib.hid (hr.later hb0)
  have B0 := Lib.hid hb0
  have T0 := Lib.hid (ht.later hb0)
  have L0 := Lib.hid (hl.later hb0)
  have KG := Lib.hid (great_any _ m a l _ _ hw R0.out)
  clear hb0 hr ht hl
  rw [hg] at KG
  have l1 := S0.out.lt
  have q0 := S0.out.row.c0
  have q1 := S0.out.row.c1
  have q2 := S0.out.row.c2
  have q3 := S0.out.row.c3
  have q4 := S0.out.row.c4
  have q5 := S0.out.row.c5
  simp only [Nat.zero_add] at q1 q2 q3 q4 q5
  go_enter Tryz.func4, Tryz.ntmps4
  go_wp2_with fail
  refine KG.out.mono ?_
  rintro e w1 ⟨rfl, hb1⟩
  have HB := Lib.hid (B0.out.trans (hb1.mono B0.out.size))
  clear hb1 l1 q0 q1 q2 q3 q4 q5
  go_wp2_with fail
  go_ret
  exact ⟨rfl, HB.out⟩
set_option maxHeartbeats 2000000 in
theorem texts_long (a : Nd) (l : List V) (sl : Value) (s : ByteArray) (num den : Int) (m : Nat) (w : World) (hg : grtB (.mk a l) = false) (hs : 5000 < s.size) (hw : Wf m (.mk a l)) (hr : RepL (· < w.heap.size) w l sl) (ht : Tab w) (hl : Len w) : Calls Tryz.prog 4 #[.agg #[.int .u8 a.k, .int .i64 a.n, .int .i64 a.d, .bool a.t, .string a.s, sl], .string s, .int .i64 num, .int .i64 den] w fun e w' => e = .returned (.bool true) ∧ Below w.heap.size w w' := by
  obtain ⟨p, cap, rfl⟩ := hr.slice
  have hb0 : Below w.heap.size w (w.alloc (.cells #[.int .u8 a.k, .int .i64 a.n, .int .i64 a.d, .bool a.t, .string a.s, .slice p l.length cap] 28)) := (Below.refl _ _).alloc (Nat.le_refl _) _
  have S0 := Lib.hid (Six.new w a (.slice p l.length cap))
  have R0 := Lib.hid (hr.later hb0)
  have B0 := Lib.hid hb0
  have T0 := Lib.hid (ht.later hb0)
  have L0 := Lib.hid (hl.later hb0)
  have KG := Lib.hid (great_any _ m a l _ _ hw R0.out)
  clear hb0 hr ht hl
  rw [hg] at KG
  have hs1 : (5000 : Int) < (s.size : Int) := by omega
  have l1 := S0.out.lt
  have q0 := S0.out.row.c0
  have q1 := S0.out.row.c1
  have q2 := S0.out.row.c2
  have q3 := S0.out.row.c3
  have q4 := S0.out.row.c4
  have q5 := S0.out.row.c5
  simp only [Nat.zero_add] at q1 q2 q3 q4 q5
  go_enter Tryz.func4, Tryz.ntmps4
  go_wp2_with fail
  refine KG.out.mono ?_
  rintro e w1 ⟨rfl, hb1⟩
  have HB := Lib.hid (B0.out.trans (hb1.mono B0.out.size))
  clear hb1 l1 q0 q1 q2 q3 q4 q5
  go_wp2_with fail
  go_ret
  exact ⟨rfl, HB.out⟩
set_option maxHeartbeats 4000000 in
theorem texts_main (a : Nd) (l : List V) (sl : Value) (s : ByteArray) (num den : Int) (m : Nat) (h1 : -9223372036854775808 ≤ num) (h2 : num ≤ 9223372036854775807) (h3 : -9223372036854775808 ≤ den) (h4 : den ≤ 9223372036854775807) (w : World) (hg : grtB (.mk a l) = false) (hs : s.size ≤ 5000) (hw : Wf m (.mk a l)) (hr : RepL (· < w.heap.size) w l sl) (ht : Tab w) (hl : Len w) : Calls Tryz.prog 4 #[.agg #[.int .u8 a.k, .int .i64 a.n, .int .i64 a.d, .bool a.t, .string a.s, sl], .string s, .int .i64 num, .int .i64 den] w fun e w' => e = .returned (.bool true) ∧ Below w.heap.size w w' := by
  obtain ⟨p, cap, rfl⟩ := hr.slice
  have hb0 : Below w.heap.size w (w.alloc (.cells #[.int .u8 a.k, .int .i64 a.n, .int .i64 a.d, .bool a.t, .string a.s, .slice p l.length cap] 28)) := (Below.refl _ _).alloc (Nat.le_refl _) _
  have S0 := Lib.hid (Six.new w a (.slice p l.length cap))
  have R0 := Lib.hid (hr.later hb0)
  have B0 := Lib.hid hb0
  have T0 := Lib.hid (ht.later hb0)
  have L0 := Lib.hid (hl.later hb0)
  have KG := Lib.hid (great_any _ m a l _ _ hw R0.out)
  clear hb0 hr ht hl
  rw [hg] at KG
  have hs1 : ¬ (5000 : Int) < (s.size : Int) := by omega
  obtain ⟨wf2, hg2⟩ := small_of_great hg hw
  have HSm : Hid (Small (.mk a l)) := Lib.hid (Small.of wf2 hg2)
  have HPs : Hid (deep (.mk a l) ≤ 6 → (parts (.mk a l) : Int) ≤ 9223372036854775807) := Lib.hid (fun h => parts_small (Wf.mono (by omega) wf2) h)
  have KT := Lib.hid (fun w1 ht hr => vtext_any a l p cap w1 HSm.out ht hr)
  have KU := Lib.hid (fun w1 hr => reftextv_any a l p cap w1 HSm.out HPs.out hr)
  have KP := Lib.hid (fun w1 ht hl => vparse_any idx_ok s w1 ht hl)
  have KQ := Lib.hid (fun w1 => refparsev_any s w1)
  have KN := Lib.hid (fun w1 => number_api num den h1 h2 h3 h4 w1)
  have KO := Lib.hid (fun w1 => refnumber_api num den h1 h2 h3 h4 w1)
  have HNs : Hid (Small (numR (RM.mkN num den) (RM.mkD num den) (RM.mkE num den))) := Lib.hid (small_numR num den)
  have HNl : Hid ((numR (RM.mkN num den) (RM.mkD num den) (RM.mkE num den)).list = []) := Lib.hid (numR_list _ _ _)
  generalize tStr (.mk a l) = ts at *
  generalize tErr (.mk a l) = te at *
  generalize numR (RM.mkN num den) (RM.mkD num den) (RM.mkE num den) = N at *
  generalize RM.mkE num den = ne at *
  clear wf2 hg2 hg hw hs h1 h2 h3 h4
  have l1 := S0.out.lt
  have q0 := S0.out.row.c0
  have q1 := S0.out.row.c1
  have q2 := S0.out.row.c2
  have q3 := S0.out.row.c3
  have q4 := S0.out.row.c4
  have q5 := S0.out.row.c5
  simp only [Nat.zero_add] at q1 q2 q3 q4 q5
  go_enter Tryz.func4, Tryz.ntmps4
  go_wp2_with fail
  refine KG.out.mono ?_
  rintro e w1 ⟨rfl, hb1⟩
  have S1 := Lib.hid (S0.out.later hb1)
  have R1 := Lib.hid (R0.out.later hb1)
  have B1 := Lib.hid (B0.out.trans (hb1.mono B0.out.size))
  have T1 := Lib.hid (T0.out.later hb1)
  have L1 := Lib.hid (L0.out.later hb1)
  clear hb1 KG
  clear l1 q0 q1 q2 q3 q4 q5
  have l1 := S1.out.lt
  have q0 := S1.out.row.c0
  have q1 := S1.out.row.c1
  have q2 := S1.out.row.c2
  have q3 := S1.out.row.c3
  have q4 := S1.out.row.c4
  have q5 := S1.out.row.c5
  simp only [Nat.zero_add] at q1 q2 q3 q4 q5
  go_wp2_with fail
  refine (KT.out _ T1.out R1.out.bound).mono ?_
  rintro e w2 ⟨rfl, hb2⟩
  have S2 := Lib.hid (S1.out.later hb2)
  have R2 := Lib.hid (R1.out.later hb2)
  have B2 := Lib.hid (B1.out.trans (hb2.mono B1.out.size))
  have T2 := Lib.hid (T1.out.later hb2)
  have L2 := Lib.hid (L1.out.later hb2)
  clear hb2 KT
  clear l1 q0 q1 q2 q3 q4 q5
  have l1 := S2.out.lt
  have q0 := S2.out.row.c0
  have q1 := S2.out.row.c1
  have q2 := S2.out.row.c2
  have q3 := S2.out.row.c3
  have q4 := S2.out.row.c4
  have q5 := S2.out.row.c5
  simp only [Nat.zero_add] at q1 q2 q3 q4 q5
  go_wp2_with fail
  refine (KU.out _ R2.out.bound).mono ?_
  rintro e w3 ⟨rfl, hb3⟩
  have S3 := Lib.hid (S2.out.later hb3)
  have R3 := Lib.hid (R2.out.later hb3)
  have B3 := Lib.hid (B2.out.trans (hb3.mono B2.out.size))
  have T3 := Lib.hid (T2.out.later hb3)
  have L3 := Lib.hid (L2.out.later hb3)
  clear hb3 KU
  clear l1 q0 q1 q2 q3 q4 q5
  go_wp2_with fail
  refine (KP.out _ T3.out L3.out).mono ?_
  rintro e w4 ⟨x, slx, c, rfl, hx, hpx, hsx, hb4⟩
  have S4 := Lib.hid (S3.out.later hb4)
  have R4 := Lib.hid (R3.out.later hb4)
  have B4 := Lib.hid (B3.out.trans (hb4.mono B3.out.size))
  have T4 := Lib.hid (T3.out.later hb4)
  have L4 := Lib.hid (L3.out.later hb4)
  clear hb4 KP
  obtain ⟨px, capx, rfl⟩ := hx.slice
  have Rx4 := Lib.hid hx
  have Px := Lib.hid hpx
  have Mx := Lib.hid hsx
  clear hx hpx hsx
  obtain ⟨W4, hW4⟩ : ∃ W, W = w4.alloc (.cells #[.int .u8 x.nd.k, .int .i64 x.nd.n, .int .i64 x.nd.d, .bool x.nd.t, .string x.nd.s, .slice px x.list.length capx] 28) := ⟨_, rfl⟩
  have hb5 : Below w4.heap.size w4 W4 := by rw [hW4]; exact (Below.refl _ _).alloc (Nat.le_refl _) _
  have S5 := Lib.hid (S4.out.later hb5)
  have R5 := Lib.hid (R4.out.later hb5)
  have B5 := Lib.hid (B4.out.trans (hb5.mono B4.out.size))
  have T5 := Lib.hid (T4.out.later hb5)
  have L5 := Lib.hid (L4.out.later hb5)
  have Rx5 := Lib.hid (Rx4.out.later hb5)
  have Sx5 : Hid (Six W4 w4.heap.size x.nd (.slice px x.list.length capx)) := Lib.hid (by rw [hW4]; exact Six.new _ _ _)
  clear hb5
  go_wp2_with fail
  rw [← hW4]
  clear hW4
  refine (KQ.out _).mono ?_
  rintro e w6 ⟨y, sly, d, rfl, hy, hpy, hsy, hb6⟩
  have S6 := Lib.hid (S5.out.later hb6)
  have R6 := Lib.hid (R5.out.later hb6)
  have B6 := Lib.hid (B5.out.trans (hb6.mono B5.out.size))
  have T6 := Lib.hid (T5.out.later hb6)
  have L6 := Lib.hid (L5.out.later hb6)
  have Rx6 := Lib.hid (Rx5.out.later hb6)
  have Sx6 := Lib.hid (Sx5.out.later hb6)
  clear hb6 KQ
  obtain ⟨e1, e2⟩ := Px.out.one hpy
  subst e1 e2
  obtain ⟨py, capy, rfl⟩ := hy.slice
  have Ry6 := Lib.hid hy
  clear hy hpy hsy Px
  obtain ⟨W6, hW6⟩ : ∃ W, W = w6.alloc (.cells #[.int .u8 x.nd.k, .int .i64 x.nd.n, .int .i64 x.nd.d, .bool x.nd.t, .string x.nd.s, .slice py x.list.length capy] 28) := ⟨_, rfl⟩
  have hb7 : Below w6.heap.size w6 W6 := by rw [hW6]; exact (Below.refl _ _).alloc (Nat.le_refl _) _
  have S7 := Lib.hid (S6.out.later hb7)
  have R7 := Lib.hid (R6.out.later hb7)
  have B7 := Lib.hid (B6.out.trans (hb7.mono B6.out.size))
  have T7 := Lib.hid (T6.out.later hb7)
  have L7 := Lib.hid (L6.out.later hb7)
  have Rx7 := Lib.hid (Rx6.out.later hb7)
  have Sx7 := Lib.hid (Sx6.out.later hb7)
  have Ry7 := Lib.hid (Ry6.out.later hb7)
  have Sy7 : Hid (Six W6 w6.heap.size x.nd (.slice py x.list.length capy)) := Lib.hid (by rw [hW6]; exact Six.new _ _ _)
  clear hb7
  go_wp2_with fail
  rw [← hW6]
  clear hW6
  refine (KN.out _).mono ?_
  rintro e w8 ⟨rfl, hb8⟩
  have S8 := Lib.hid (S7.out.later hb8)
  have R8 := Lib.hid (R7.out.later hb8)
  have B8 := Lib.hid (B7.out.trans (hb8.mono B7.out.size))
  have T8 := Lib.hid (T7.out.later hb8)
  have L8 := Lib.hid (L7.out.later hb8)
  have Rx8 := Lib.hid (Rx7.out.later hb8)
  have Sx8 := Lib.hid (Sx7.out.later hb8)
  have Ry8 := Lib.hid (Ry7.out.later hb8)
  have Sy8 := Lib.hid (Sy7.out.later hb8)
  clear hb8 KN
  obtain ⟨W8, hW8⟩ : ∃ W, W = w8.alloc (.cells #[.int .u8 N.nd.k, .int .i64 N.nd.n, .int .i64 N.nd.d, .bool N.nd.t, .string N.nd.s, .slice none 0 0] 28) := ⟨_, rfl⟩
  have hb9 : Below w8.heap.size w8 W8 := by rw [hW8]; exact (Below.refl _ _).alloc (Nat.le_refl _) _
  have S9 := Lib.hid (S8.out.later hb9)
  have R9 := Lib.hid (R8.out.later hb9)
  have B9 := Lib.hid (B8.out.trans (hb9.mono B8.out.size))
  have T9 := Lib.hid (T8.out.later hb9)
  have L9 := Lib.hid (L8.out.later hb9)
  have Rx9 := Lib.hid (Rx8.out.later hb9)
  have Sx9 := Lib.hid (Sx8.out.later hb9)
  have Ry9 := Lib.hid (Ry8.out.later hb9)
  have Sy9 := Lib.hid (Sy8.out.later hb9)
  have Sn9 : Hid (Six W8 w8.heap.size N.nd (.slice none 0 0)) := Lib.hid (by rw [hW8]; exact Six.new _ _ _)
  clear hb9
  go_wp2_with fail
  rw [← hW8]
  clear hW8
  refine (KO.out _).mono ?_
  rintro e w10 ⟨rfl, hb10⟩
  have S10 := Lib.hid (S9.out.later hb10)
  have R10 := Lib.hid (R9.out.later hb10)
  have B10 := Lib.hid (B9.out.trans (hb10.mono B9.out.size))
  have T10 := Lib.hid (T9.out.later hb10)
  have L10 := Lib.hid (L9.out.later hb10)
  have Rx10 := Lib.hid (Rx9.out.later hb10)
  have Sx10 := Lib.hid (Sx9.out.later hb10)
  have Ry10 := Lib.hid (Ry9.out.later hb10)
  have Sy10 := Lib.hid (Sy9.out.later hb10)
  have Sn10 := Lib.hid (Sn9.out.later hb10)
  clear hb10 KO
  obtain ⟨W10, hW10⟩ : ∃ W, W = w10.alloc (.cells #[.int .u8 N.nd.k, .int .i64 N.nd.n, .int .i64 N.nd.d, .bool N.nd.t, .string N.nd.s, .slice none 0 0] 28) := ⟨_, rfl⟩
  have hb11 : Below w10.heap.size w10 W10 := by rw [hW10]; exact (Below.refl _ _).alloc (Nat.le_refl _) _
  have S11 := Lib.hid (S10.out.later hb11)
  have R11 := Lib.hid (R10.out.later hb11)
  have B11 := Lib.hid (B10.out.trans (hb11.mono B10.out.size))
  have T11 := Lib.hid (T10.out.later hb11)
  have L11 := Lib.hid (L10.out.later hb11)
  have Rx11 := Lib.hid (Rx10.out.later hb11)
  have Sx11 := Lib.hid (Sx10.out.later hb11)
  have Ry11 := Lib.hid (Ry10.out.later hb11)
  have Sy11 := Lib.hid (Sy10.out.later hb11)
  have Sn11 := Lib.hid (Sn10.out.later hb11)
  have So11 : Hid (Six W10 w10.heap.size N.nd (.slice none 0 0)) := Lib.hid (by rw [hW10]; exact Six.new _ _ _)
  clear hb11
  have KS := Lib.hid (refsame_any _ _ x.nd x.nd x.list x.list _ _ W10 (by rw [V.eta]; exact Wf.mono (by omega) Mx.out.wf) Rx11.out Ry11.out)
  rw [same_mk] at KS
  have k1 := Sx11.out.lt
  have m0 := Sx11.out.row.c0
  have m1 := Sx11.out.row.c1
  have m2 := Sx11.out.row.c2
  have m3 := Sx11.out.row.c3
  have m4 := Sx11.out.row.c4
  have m5 := Sx11.out.row.c5
  simp only [Nat.zero_add] at m1 m2 m3 m4 m5
  have k2 := Sy11.out.lt
  have g0 := Sy11.out.row.c0
  have g1 := Sy11.out.row.c1
  have g2 := Sy11.out.row.c2
  have g3 := Sy11.out.row.c3
  have g4 := Sy11.out.row.c4
  have g5 := Sy11.out.row.c5
  simp only [Nat.zero_add] at g1 g2 g3 g4 g5
  rw [hW10] at m0 m1 m2 m3 m4 m5 k1 g0 g1 g2 g3 g4 g5 k2 KS
  go_wp2_with fail
  refine KS.out.mono ?_
  rw [← hW10]
  rintro e w12 ⟨rfl, hb12⟩
  clear hW10 KS k1 m0 m1 m2 m3 m4 m5 k2 g0 g1 g2 g3 g4 g5
  have B12 := Lib.hid (B11.out.trans (hb12.mono B11.out.size))
  have Sn12 := Lib.hid (Sn11.out.later hb12)
  have So12 := Lib.hid (So11.out.later hb12)
  clear hb12
  have KS := Lib.hid (refsame_any (fun _ => True) (fun _ => True) N.nd N.nd N.list N.list _ _ w12 (by rw [V.eta]; exact Wf.mono (by omega) HNs.out.wf) (RepL.nil' HNl.out none 0) (RepL.nil' HNl.out none 0))
  rw [same_mk] at KS
  have k1 := Sn12.out.lt
  have m0 := Sn12.out.row.c0
  have m1 := Sn12.out.row.c1
  have m2 := Sn12.out.row.c2
  have m3 := Sn12.out.row.c3
  have m4 := Sn12.out.row.c4
  have m5 := Sn12.out.row.c5
  simp only [Nat.zero_add] at m1 m2 m3 m4 m5
  have k2 := So12.out.lt
  have g0 := So12.out.row.c0
  have g1 := So12.out.row.c1
  have g2 := So12.out.row.c2
  have g3 := So12.out.row.c3
  have g4 := So12.out.row.c4
  have g5 := So12.out.row.c5
  simp only [Nat.zero_add] at g1 g2 g3 g4 g5
  go_wp2_with fail
  refine KS.out.mono ?_
  rintro e w13 ⟨rfl, hb13⟩
  have B13 := Lib.hid (B12.out.trans (hb13.mono B12.out.size))
  clear hb13
  go_wp2_with fail
  go_ret
  exact ⟨rfl, B13.out⟩
theorem texts_any (a : Nd) (l : List V) (sl : Value) (s : ByteArray) (num den : Int) (m : Nat) (h1 : -9223372036854775808 ≤ num) (h2 : num ≤ 9223372036854775807) (h3 : -9223372036854775808 ≤ den) (h4 : den ≤ 9223372036854775807) (w : World) (hw : Wf m (.mk a l)) (hr : RepL (· < w.heap.size) w l sl) (ht : Tab w) (hl : Len w) : Calls Tryz.prog 4 #[.agg #[.int .u8 a.k, .int .i64 a.n, .int .i64 a.d, .bool a.t, .string a.s, sl], .string s, .int .i64 num, .int .i64 den] w fun e w' => e = .returned (.bool true) ∧ Below w.heap.size w w' := by
  rcases Bool.eq_false_or_eq_true (grtB (.mk a l)) with hg | hg
  · exact texts_great a l sl s num den m w hg hw hr ht hl
  · by_cases hs : 5000 < s.size
    · exact texts_long a l sl s num den m w hg hs hw hr ht hl
    · exact texts_main a l sl s num den m h1 h2 h3 h4 w hg (by omega) hw hr ht hl
end Go.Proofs.YtakjgjhjndiggaaGreatDoor
