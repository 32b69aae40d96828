/-
  What compares and reads of the laws hand back. The chapter's examples: what the calls hand back, and new lists in memory.
-/
import Derived.Test.YtakjgjhjndiggaaGreatDoorValMk
import Derived.Test.YtakjgjhjndiggaaGreatDoorValParse
import Derived.Test.YtakjgjhjndiggaaGreatDoorValIdx
import Derived.Test.YtakjgjhjndiggaaGreatDoorValTextB
import Derived.Test.YtakjgjhjndiggaaGreatDoorValNum
namespace Go.Proofs.YtakjgjhjndiggaaGreatDoor
open Go.RowKit Go.Shelf
open VM
set_option linter.unusedVariables false
set_option linter.unusedSimpArgs false

set_option maxHeartbeats 1000000 in
theorem compares_any (a b : Nd) (l m : List V) (sl sm : Value) (want err : Int) (w : World) (b1 : -1 ≤ want) (b2 : want ≤ 1) (h1 : cmpC (.mk a l) (.mk b m) = (want, err)) (h2 : cmpC (.mk b m) (.mk a l) = (-want, err)) (hs : Small (.mk a l)) (hs2 : Small (.mk b m)) (hr : RepL (· < w.heap.size) w l sl) (hr2 : RepL (· < w.heap.size) w m sm) :
    Calls Tryz.prog 21 #[.agg #[.int .u8 a.k, .int .i64 a.n, .int .i64 a.d, .bool a.t, .string a.s, sl], .agg #[.int .u8 b.k, .int .i64 b.n, .int .i64 b.d, .bool b.t, .string b.s, sm], .int .i64 want, .int .i64 err] w fun e w' => e = .returned (.bool true) ∧ Below w.heap.size w w' := by
  obtain ⟨p, cap, rfl⟩ := hr.slice
  obtain ⟨p2, cap2, rfl⟩ := hr2.slice
  have hb1 : Below w.heap.size w (w.alloc (.cells #[.int .u8 a.k, .int .i64 a.n, .int .i64 a.d, .bool a.t, .string a.s, .slice p l.length cap] 28)) := (Below.refl _ _).alloc (Nat.le_refl _) _
  have hb2 : Below w.heap.size w ((w.alloc (.cells #[.int .u8 a.k, .int .i64 a.n, .int .i64 a.d, .bool a.t, .string a.s, .slice p l.length cap] 28)).alloc (.cells #[.int .u8 b.k, .int .i64 b.n, .int .i64 b.d, .bool b.t, .string b.s, .slice p2 m.length cap2] 28)) := hb1.alloc (by simp) _
  have hb3 : Below (w.alloc (.cells #[.int .u8 a.k, .int .i64 a.n, .int .i64 a.d, .bool a.t, .string a.s, .slice p l.length cap] 28)).heap.size (w.alloc (.cells #[.int .u8 a.k, .int .i64 a.n, .int .i64 a.d, .bool a.t, .string a.s, .slice p l.length cap] 28)) ((w.alloc (.cells #[.int .u8 a.k, .int .i64 a.n, .int .i64 a.d, .bool a.t, .string a.s, .slice p l.length cap] 28)).alloc (.cells #[.int .u8 b.k, .int .i64 b.n, .int .i64 b.d, .bool b.t, .string b.s, .slice p2 m.length cap2] 28)) := (Below.refl _ _).alloc (Nat.le_refl _) _
  have S1 := Lib.hid ((Six.new w a (.slice p l.length cap)).later hb3)
  have S2 := Lib.hid (Six.new (w.alloc (.cells #[.int .u8 a.k, .int .i64 a.n, .int .i64 a.d, .bool a.t, .string a.s, .slice p l.length cap] 28)) b (.slice p2 m.length cap2))
  rw [World.size_alloc] at S2
  have R1 := Lib.hid (hr.later hb2)
  have R2 := Lib.hid (hr2.later hb2)
  have B0 := Lib.hid hb2
  clear hb1 hb2 hb3 hr hr2
  have KA := Lib.hid (fun w1 h h2 => vcompare_any a b l m (.slice p l.length cap) (.slice p2 m.length cap2) w1 hs hs2 h h2)
  have KB := Lib.hid (fun w1 h h2 => vcompare_any b a m l (.slice p2 m.length cap2) (.slice p l.length cap) w1 hs2 hs h h2)
  rw [h1] at KA; rw [h2] at KB
  have hw : wrap64 (-want) = -want := by unfold wrap64; omega
  clear h1 h2 hs hs2
  have l1 := S1.out.lt
  have q0 := S1.out.row.c0
  have q1 := S1.out.row.c1
  have q2 := S1.out.row.c2
  have q3 := S1.out.row.c3
  have q4 := S1.out.row.c4
  have q5 := S1.out.row.c5
  simp only [Nat.zero_add] at q1 q2 q3 q4 q5
  have l2 := S2.out.lt
  have g0 := S2.out.row.c0
  have g1 := S2.out.row.c1
  have g2 := S2.out.row.c2
  have g3 := S2.out.row.c3
  have g4 := S2.out.row.c4
  have g5 := S2.out.row.c5
  simp only [Nat.zero_add] at g1 g2 g3 g4 g5
  go_enter Tryz.func21, Tryz.ntmps21
  go_wp2_with fail
  refine (KA.out _ R1.out.bound R2.out.bound).mono ?_
  rintro e w1 ⟨rfl, hb⟩
  have S3 := Lib.hid (S1.out.later hb)
  have S4 := Lib.hid (S2.out.later hb)
  have R3 := Lib.hid (R1.out.later hb)
  have R4 := Lib.hid (R2.out.later hb)
  have HB := Lib.hid (B0.out.trans (hb.mono B0.out.size))
  clear hb l1 q0 q1 q2 q3 q4 q5 l2 g0 g1 g2 g3 g4 g5
  have l1 := S3.out.lt
  have q0 := S3.out.row.c0
  have q1 := S3.out.row.c1
  have q2 := S3.out.row.c2
  have q3 := S3.out.row.c3
  have q4 := S3.out.row.c4
  have q5 := S3.out.row.c5
  simp only [Nat.zero_add] at q1 q2 q3 q4 q5
  have l2 := S4.out.lt
  have g0 := S4.out.row.c0
  have g1 := S4.out.row.c1
  have g2 := S4.out.row.c2
  have g3 := S4.out.row.c3
  have g4 := S4.out.row.c4
  have g5 := S4.out.row.c5
  simp only [Nat.zero_add] at g1 g2 g3 g4 g5
  go_wp2_with fail
  refine (KB.out _ R4.out.bound R3.out.bound).mono ?_
  rintro e w2 ⟨rfl, hb⟩
  have HB2 := Lib.hid (HB.out.trans (hb.mono HB.out.size))
  clear hb l1 q0 q1 q2 q3 q4 q5 l2 g0 g1 g2 g3 g4 g5
  go_wp2_with fail
  go_ret
  exact ⟨rfl, HB2.out⟩
theorem pa_txt {s : By} {v x : V} {c : Int} (h : PaOk s x c) (hv : vchk v = 0) (ht : txt v = s) (hl : s.length ≤ 4000) : x = v ∧ c = 0 := by
  rcases h with ⟨h1, _, _, _, h5⟩ | ⟨_, _, h3⟩
  · exact ⟨h5 v hv ht, h1⟩
  · exact absurd hl (h3 v hv ht)
set_option maxHeartbeats 1000000 in
theorem reads_any (s : ByteArray) (a : Nd) (l : List V) (sl : Value) (w : World) (hv : vchk (.mk a l) = 0) (htx : txt (.mk a l) = lA s) (h4 : (lA s).length ≤ 4000) (hs : Small (.mk a l)) (hr : RepL (· < w.heap.size) w l sl) (ht : Tab w) (hl : Len w) :
    Calls Tryz.prog 10 #[.string s, .agg #[.int .u8 a.k, .int .i64 a.n, .int .i64 a.d, .bool a.t, .string a.s, sl]] w fun e w' => e = .returned (.bool true) ∧ Below w.heap.size w w' := by
  obtain ⟨p, cap, rfl⟩ := hr.slice
  have hb0 : Below w.heap.size w (w.alloc (.cells #[.int .u8 a.k, .int .i64 a.n, .int .i64 a.d, .bool a.t, .string a.s, .slice p l.length cap] 28)) := (Below.refl _ _).alloc (Nat.le_refl _) _
  have S0 := Lib.hid (Six.new w a (.slice p l.length cap))
  have R0 := Lib.hid (hr.later hb0)
  have B0 := Lib.hid hb0
  have T0 := Lib.hid (ht.later hb0)
  have L0 := Lib.hid (hl.later hb0)
  have KP := Lib.hid (fun w1 ht hl => vparse_any idx_ok s w1 ht hl)
  have KT := Lib.hid (fun w1 ht hr => vtext_any a l p cap w1 hs ht hr)
  have HP : Hid (∀ x c, PaOk (lA s) x c → x = .mk a l ∧ c = 0) := Lib.hid fun x c h => pa_txt h hv htx h4
  have e1 : tErr (.mk a l) = 0 := by unfold tErr; rw [if_pos hv, if_neg (by rw [htx]; omega)]
  have e2 : tStr (.mk a l) = s := by unfold tStr; rw [if_pos e1, htx]; exact bA_lA s
  rw [e1, e2] at KT
  have HW : Hid (Wf 1000000 (.mk a l)) := Lib.hid (Wf.mono (by omega) hs.wf)
  clear hb0 hr ht hl e1 e2 hv htx h4 hs
  go_enter Tryz.func10, Tryz.ntmps10
  go_wp2_with fail
  refine (KP.out _ T0.out L0.out).mono ?_
  rintro e w1 ⟨x, slx, c, rfl, hx, hpx, hsx, hb1⟩
  obtain ⟨rfl, rfl⟩ := HP.out _ _ hpx
  dsimp only [V.nd_mk, V.list_mk] at hx ⊢
  obtain ⟨px, capx, rfl⟩ := hx.slice
  obtain ⟨W1, hW1⟩ : ∃ W, W = w1.alloc (.cells #[.int .u8 a.k, .int .i64 a.n, .int .i64 a.d, .bool a.t, .string a.s, .slice px l.length capx] 28) := ⟨_, rfl⟩
  have hbw : Below w1.heap.size w1 W1 := by rw [hW1]; exact (Below.refl _ _).alloc (Nat.le_refl _) _
  have S1 := Lib.hid ((S0.out.later hb1).later hbw)
  have R1 := Lib.hid ((R0.out.later hb1).later hbw)
  have T1 := Lib.hid ((T0.out.later hb1).later hbw)
  have B1 := Lib.hid ((B0.out.trans (hb1.mono B0.out.size)).trans (hbw.mono (Nat.le_trans B0.out.size hb1.size)))
  have Rx1 := Lib.hid (hx.later hbw)
  have Sx1 : Hid (Six W1 w1.heap.size a (.slice px l.length capx)) := Lib.hid (by rw [hW1]; exact Six.new _ _ _)
  clear hx hpx hsx hb1 hbw
  have l1 := S1.out.lt
  have q0 := S1.out.row.c0
  have q1 := S1.out.row.c1
  have q2 := S1.out.row.c2
  have q3 := S1.out.row.c3
  have q4 := S1.out.row.c4
  have q5 := S1.out.row.c5
  simp only [Nat.zero_add] at q1 q2 q3 q4 q5
  rw [hW1] at l1 q0 q1 q2 q3 q4 q5
  go_wp2_with fail
  rw [← hW1]
  clear hW1 l1 q0 q1 q2 q3 q4 q5
  refine (KT.out _ T1.out R1.out.bound).mono ?_
  rintro e w2 ⟨rfl, hb2⟩
  have S2 := Lib.hid (S1.out.later hb2)
  have R2 := Lib.hid (R1.out.later hb2)
  have B2 := Lib.hid (B1.out.trans (hb2.mono B1.out.size))
  have Rx2 := Lib.hid (Rx1.out.later hb2)
  have Sx2 := Lib.hid (Sx1.out.later hb2)
  clear hb2
  have KS := Lib.hid (refsame_any _ _ a a l l _ _ w2 HW.out R2.out Rx2.out)
  rw [show sameB (.mk a l) (.mk a l) = true from (sameB_iff _ _).2 rfl] at KS
  have l1 := S2.out.lt
  have q0 := S2.out.row.c0
  have q1 := S2.out.row.c1
  have q2 := S2.out.row.c2
  have q3 := S2.out.row.c3
  have q4 := S2.out.row.c4
  have q5 := S2.out.row.c5
  simp only [Nat.zero_add] at q1 q2 q3 q4 q5
  have l2 := Sx2.out.lt
  have g0 := Sx2.out.row.c0
  have g1 := Sx2.out.row.c1
  have g2 := Sx2.out.row.c2
  have g3 := Sx2.out.row.c3
  have g4 := Sx2.out.row.c4
  have g5 := Sx2.out.row.c5
  simp only [Nat.zero_add] at g1 g2 g3 g4 g5
  go_wp2_with fail
  refine KS.out.mono ?_
  rintro e w3 ⟨rfl, hb3⟩
  have B3 := Lib.hid (B2.out.trans (hb3.mono B2.out.size))
  clear hb3 l1 q0 q1 q2 q3 q4 q5 l2 g0 g1 g2 g3 g4 g5
  go_wp2_with fail
  go_ret
  exact ⟨rfl, B3.out⟩
end Go.Proofs.YtakjgjhjndiggaaGreatDoor
namespace Go.Proofs.YtakjgjhjndiggaaGreatDoor
open Go.RowKit Go.Shelf
open VM
open RM (vld vld_iff)
set_option linter.unusedVariables false
set_option linter.unusedSimpArgs false

abbrev Any : Nat → Prop := fun _ => True
theorem row_at (w : World) (cs : Array Value) (t : TypeId) (o : Nat) (a : Nd) (sl : Value) (h0 : cs[o]? = some (.int .u8 a.k)) (h1 : cs[o + 1]? = some (.int .i64 a.n)) (h2 : cs[o + 2]? = some (.int .i64 a.d)) (h3 : cs[o + 3]? = some (.bool a.t)) (h4 : cs[o + 4]? = some (.string a.s)) (h5 : cs[o + 5]? = some sl) : Row6 (w.alloc (.cells cs t)) w.heap.size o a sl := by
  have hb := heap_alloc_new w (.cells cs t)
  constructor <;> (simp only [World.cell?, hb]; first | exact h0 | exact h1 | exact h2 | exact h3 | exact h4 | exact h5)
theorem not_frozen (w : World) (cs : Array Value) (t : TypeId) : (w.alloc (.cells cs t)).frozen? ⟨w.heap.size, 0, none⟩ = false := by
  have hb := heap_alloc_new w (.cells cs t)
  simp only [World.frozen?, hb]; rfl
theorem rep_one {w : World} {ka : Int} {na da : Int} {ta : Bool} {za : ByteArray} {l : List V} {sl : Value} {ty : TypeId} (h0 : RepL Any w l sl) : RepL Any (w.alloc (.cells #[.int .u8 ka, .int .i64 na, .int .i64 da, .bool ta, .string za, sl] ty)) [.mk ⟨ka, na, da, ta, za⟩ l] (.slice (some ⟨w.heap.size, 0, none⟩) 1 1) := by
  have hb : Below w.heap.size w (w.alloc (.cells #[.int .u8 ka, .int .i64 na, .int .i64 da, .bool ta, .string za, sl] ty)) := (Below.refl _ _).alloc (Nat.le_refl _) _
  refine .mk (some ⟨w.heap.size, 0, none⟩) 1 [.mk ⟨ka, na, da, ta, za⟩ l] (fun _ => sl) (fun _ => ⟨w.heap.size, 0, rfl, trivial, not_frozen _ _ _, fun i hi => ?_⟩) (fun i hi => ?_)
  · have hc : i = 0 := by simp at hi; omega
    subst hc
    exact row_at w _ _ 0 ⟨ka, na, da, ta, za⟩ sl rfl rfl rfl rfl rfl rfl
  · have hc : i = 0 := by simp at hi; omega
    subst hc
    exact h0.later hb
theorem rep_two {w : World} {ka : Int} {na da : Int} {ta : Bool} {za : ByteArray} {kb : Int} {nb db : Int} {tb : Bool} {zb : ByteArray} {l m : List V} {sl sm : Value} {ty : TypeId} (h0 : RepL Any w l sl) (h1 : RepL Any w m sm) : RepL Any (w.alloc (.cells #[.int .u8 ka, .int .i64 na, .int .i64 da, .bool ta, .string za, sl, .int .u8 kb, .int .i64 nb, .int .i64 db, .bool tb, .string zb, sm] ty)) [.mk ⟨ka, na, da, ta, za⟩ l, .mk ⟨kb, nb, db, tb, zb⟩ m] (.slice (some ⟨w.heap.size, 0, none⟩) 2 2) := by
  have hb : Below w.heap.size w (w.alloc (.cells #[.int .u8 ka, .int .i64 na, .int .i64 da, .bool ta, .string za, sl, .int .u8 kb, .int .i64 nb, .int .i64 db, .bool tb, .string zb, sm] ty)) := (Below.refl _ _).alloc (Nat.le_refl _) _
  refine .mk (some ⟨w.heap.size, 0, none⟩) 2 [.mk ⟨ka, na, da, ta, za⟩ l, .mk ⟨kb, nb, db, tb, zb⟩ m] (fun i => if i = 0 then sl else sm) (fun _ => ⟨w.heap.size, 0, rfl, trivial, not_frozen _ _ _, fun i hi => ?_⟩) (fun i hi => ?_)
  · have hc : i = 0 ∨ i = 1 := by simp at hi; omega
    rcases hc with rfl | rfl
    · exact row_at w _ _ 0 ⟨ka, na, da, ta, za⟩ sl rfl rfl rfl rfl rfl rfl
    · exact row_at w _ _ 6 ⟨kb, nb, db, tb, zb⟩ sm rfl rfl rfl rfl rfl rfl
  · have hc : i = 0 ∨ i = 1 := by simp at hi; omega
    rcases hc with rfl | rfl
    · exact h0.later hb
    · exact h1.later hb
theorem rep_three {w : World} {ka : Int} {na da : Int} {ta : Bool} {za : ByteArray} {kb : Int} {nb db : Int} {tb : Bool} {zb : ByteArray} {kc : Int} {nc dc : Int} {tc : Bool} {zc : ByteArray} {l m n : List V} {sl sm sn : Value} {ty : TypeId} (h0 : RepL Any w l sl) (h1 : RepL Any w m sm) (h2 : RepL Any w n sn) : RepL Any (w.alloc (.cells #[.int .u8 ka, .int .i64 na, .int .i64 da, .bool ta, .string za, sl, .int .u8 kb, .int .i64 nb, .int .i64 db, .bool tb, .string zb, sm, .int .u8 kc, .int .i64 nc, .int .i64 dc, .bool tc, .string zc, sn] ty)) [.mk ⟨ka, na, da, ta, za⟩ l, .mk ⟨kb, nb, db, tb, zb⟩ m, .mk ⟨kc, nc, dc, tc, zc⟩ n] (.slice (some ⟨w.heap.size, 0, none⟩) 3 3) := by
  have hb : Below w.heap.size w (w.alloc (.cells #[.int .u8 ka, .int .i64 na, .int .i64 da, .bool ta, .string za, sl, .int .u8 kb, .int .i64 nb, .int .i64 db, .bool tb, .string zb, sm, .int .u8 kc, .int .i64 nc, .int .i64 dc, .bool tc, .string zc, sn] ty)) := (Below.refl _ _).alloc (Nat.le_refl _) _
  refine .mk (some ⟨w.heap.size, 0, none⟩) 3 [.mk ⟨ka, na, da, ta, za⟩ l, .mk ⟨kb, nb, db, tb, zb⟩ m, .mk ⟨kc, nc, dc, tc, zc⟩ n] (fun i => if i = 0 then sl else if i = 1 then sm else sn) (fun _ => ⟨w.heap.size, 0, rfl, trivial, not_frozen _ _ _, fun i hi => ?_⟩) (fun i hi => ?_)
  · have hc : i = 0 ∨ i = 1 ∨ i = 2 := by simp at hi; omega
    rcases hc with rfl | rfl | rfl
    · exact row_at w _ _ 0 ⟨ka, na, da, ta, za⟩ sl rfl rfl rfl rfl rfl rfl
    · exact row_at w _ _ 6 ⟨kb, nb, db, tb, zb⟩ sm rfl rfl rfl rfl rfl rfl
    · exact row_at w _ _ 12 ⟨kc, nc, dc, tc, zc⟩ sn rfl rfl rfl rfl rfl rfl
  · have hc : i = 0 ∨ i = 1 ∨ i = 2 := by simp at hi; omega
    rcases hc with rfl | rfl | rfl
    · exact h0.later hb
    · exact h1.later hb
    · exact h2.later hb
theorem six_at {w : World} {k : Nat} {n d : Int} {t : Bool} {z : ByteArray} {sl : Value} : Six (w.alloc (.cells #[.int .u8 k, .int .i64 n, .int .i64 d, .bool t, .string z, sl] 28)) w.heap.size ⟨k, n, d, t, z⟩ sl := Six.new w ⟨k, n, d, t, z⟩ sl
theorem small_num (n : Int) (hn : vld n 1 = true) : Small (numV' n 1) := ⟨wf_numV hn, by rw [show hgt (numV' n 1) = 1 from (sz_leaf (by simp)).2]; omega⟩
theorem small_lst {l : List V} (h : ∀ x ∈ l, Wf 20000 x) (hl : l.length ≤ 20000) (hh : hgtL l ≤ 10) : Small (lstV l) := ⟨wf_lstV h hl, by rw [(sz_lst l).2]; omega⟩
theorem num64_any (w : World) : Calls Tryz.prog 19 #[.int .i64 6, .int .i64 4] w fun e w' => e = .returned (.tuple #[.agg #[.int .u8 1, .int .i64 3, .int .i64 2, .bool false, .string ⟨#[]⟩, .slice none 0 0], .int .i64 0]) ∧ Below w.heap.size w w' := by
  have h := number_api 6 4 (by omega) (by omega) (by omega) (by omega) w
  rw [show RM.mkN 6 4 = 3 by decide +kernel, show RM.mkD 6 4 = 2 by decide +kernel, show RM.mkE 6 4 = 0 by decide +kernel] at h
  exact h
theorem cmp_lists (l m : List V) (want err : Int) (p q : Option Addr) (n k cap cap2 : Nat) (w : World) (b1 : -1 ≤ want) (b2 : want ≤ 1) (h1 : cmpC (lstV l) (lstV m) = (want, err)) (h2 : cmpC (lstV m) (lstV l) = (-want, err)) (hs : Small (lstV l)) (hs2 : Small (lstV m)) (hr : RepL Any w l (.slice p n cap)) (hr2 : RepL Any w m (.slice q k cap2)) :
    Calls Tryz.prog 21 #[.agg #[.int .u8 4, .int .i64 0, .int .i64 0, .bool false, .string ⟨#[]⟩, .slice p n cap], .agg #[.int .u8 4, .int .i64 0, .int .i64 0, .bool false, .string ⟨#[]⟩, .slice q k cap2], .int .i64 want, .int .i64 err] w fun e w' => e = .returned (.bool true) ∧ Below w.heap.size w w' :=
  compares_any ⟨4, 0, 0, false, ⟨#[]⟩⟩ ⟨4, 0, 0, false, ⟨#[]⟩⟩ l m _ _ want err w b1 b2 h1 h2 hs hs2 hr.bound hr2.bound
theorem vld1 : vld 1 1 = true := by decide +kernel
theorem vld2 : vld 2 1 = true := by decide +kernel
theorem vld3 : vld 3 1 = true := by decide +kernel
theorem vld5 : vld 5 1 = true := by decide +kernel
theorem wf1 : Wf 20000 (numV' 1 1) := wf_numV vld1
theorem wf2 : Wf 20000 (numV' 2 1) := wf_numV vld2
theorem wf3 : Wf 20000 (numV' 3 1) := wf_numV vld3
theorem wf5 : Wf 20000 (numV' 5 1) := wf_numV vld5
theorem wfs (b : By) (h : b.length ≤ 100) : Wf 20000 (strV b) := wf_strV (by omega)
theorem small2 {x y : V} (hx : Wf 20000 x) (hy : Wf 20000 y) (h : hgtL [x, y] ≤ 10) : Small (lstV [x, y]) := small_lst (by simp; exact ⟨hx, hy⟩) (by simp) h
theorem small1 {x : V} (hx : Wf 20000 x) (h : hgtL [x] ≤ 10) : Small (lstV [x]) := small_lst (by simp; exact hx) (by simp) h
theorem cmp_1 (p q : Option Addr) (cap cap2 : Nat) (w : World) (hr : RepL Any w [numV' 1 1, numV' 2 1] (.slice p 2 cap)) (hr2 : RepL Any w [numV' 1 1, numV' 3 1] (.slice q 2 cap2)) :
    Calls Tryz.prog 21 #[.agg #[.int .u8 4, .int .i64 0, .int .i64 0, .bool false, .string ⟨#[]⟩, .slice p 2 cap], .agg #[.int .u8 4, .int .i64 0, .int .i64 0, .bool false, .string ⟨#[]⟩, .slice q 2 cap2], .int .i64 (-1), .int .i64 0] w fun e w' => e = .returned (.bool true) ∧ Below w.heap.size w w' :=
  cmp_lists _ _ _ _ p q _ _ cap cap2 w (by omega) (by omega) (by decide +kernel) (by decide +kernel) (small2 wf1 wf2 (by decide +kernel)) (small2 wf1 wf3 (by decide +kernel)) hr hr2
theorem cmp_2 (p q : Option Addr) (cap cap2 : Nat) (w : World) (hr : RepL Any w [numV' 1 1, numV' 2 1] (.slice p 2 cap)) (hr2 : RepL Any w [numV' 1 1] (.slice q 1 cap2)) :
    Calls Tryz.prog 21 #[.agg #[.int .u8 4, .int .i64 0, .int .i64 0, .bool false, .string ⟨#[]⟩, .slice p 2 cap], .agg #[.int .u8 4, .int .i64 0, .int .i64 0, .bool false, .string ⟨#[]⟩, .slice q 1 cap2], .int .i64 1, .int .i64 0] w fun e w' => e = .returned (.bool true) ∧ Below w.heap.size w w' :=
  cmp_lists _ _ _ _ p q _ _ cap cap2 w (by omega) (by omega) (by decide +kernel) (by decide +kernel) (small2 wf1 wf2 (by decide +kernel)) (small1 wf1 (by decide +kernel)) hr hr2
theorem cmp_3 (p q : Option Addr) (cap cap2 : Nat) (w : World) (hr : RepL Any w [numV' 1 1] (.slice p 1 cap)) (hr2 : RepL Any w [strV [49]] (.slice q 1 cap2)) :
    Calls Tryz.prog 21 #[.agg #[.int .u8 4, .int .i64 0, .int .i64 0, .bool false, .string ⟨#[]⟩, .slice p 1 cap], .agg #[.int .u8 4, .int .i64 0, .int .i64 0, .bool false, .string ⟨#[]⟩, .slice q 1 cap2], .int .i64 0, .int .i64 20] w fun e w' => e = .returned (.bool true) ∧ Below w.heap.size w w' :=
  cmp_lists _ _ _ _ p q _ _ cap cap2 w (by omega) (by omega) (by decide +kernel) (by decide +kernel) (small1 wf1 (by decide +kernel)) (small1 (wfs [49] (by decide)) (by decide +kernel)) hr hr2
theorem cmp_4 (p q : Option Addr) (cap cap2 : Nat) (w : World) (hr : RepL Any w [lstV [numV' 1 1]] (.slice p 1 cap)) (hr2 : RepL Any w [lstV [strV [49]]] (.slice q 1 cap2)) :
    Calls Tryz.prog 21 #[.agg #[.int .u8 4, .int .i64 0, .int .i64 0, .bool false, .string ⟨#[]⟩, .slice p 1 cap], .agg #[.int .u8 4, .int .i64 0, .int .i64 0, .bool false, .string ⟨#[]⟩, .slice q 1 cap2], .int .i64 0, .int .i64 20] w fun e w' => e = .returned (.bool true) ∧ Below w.heap.size w w' :=
  cmp_lists _ _ _ _ p q _ _ cap cap2 w (by omega) (by omega) (by decide +kernel) (by decide +kernel) (small1 (small1 wf1 (by decide +kernel)).wf (by decide +kernel)) (small1 (small1 (wfs [49] (by decide)) (by decide +kernel)).wf (by decide +kernel)) hr hr2
theorem cmp_5 (p q : Option Addr) (cap cap2 : Nat) (w : World) (hr : RepL Any w [numV' 2 1, truV true] (.slice p 2 cap)) (hr2 : RepL Any w [numV' 1 1, numV' 5 1] (.slice q 2 cap2)) :
    Calls Tryz.prog 21 #[.agg #[.int .u8 4, .int .i64 0, .int .i64 0, .bool false, .string ⟨#[]⟩, .slice p 2 cap], .agg #[.int .u8 4, .int .i64 0, .int .i64 0, .bool false, .string ⟨#[]⟩, .slice q 2 cap2], .int .i64 1, .int .i64 0] w fun e w' => e = .returned (.bool true) ∧ Below w.heap.size w w' :=
  cmp_lists _ _ _ _ p q _ _ cap cap2 w (by omega) (by omega) (by decide +kernel) (by decide +kernel) (small2 wf2 (wf_truV true) (by decide +kernel)) (small2 wf1 wf5 (by decide +kernel)) hr hr2
theorem reads_1 (p : Option Addr) (cap : Nat) (w : World) (hr : RepL Any w [numV' 1 2, truV true, strV [97, 34, 98]] (.slice p 3 cap)) (ht : Tab w) (hl : Len w) :
    Calls Tryz.prog 10 #[.string ⟨#[91, 49, 47, 50, 44, 32, 116, 114, 117, 101, 44, 32, 34, 97, 92, 34, 98, 34, 93]⟩, .agg #[.int .u8 4, .int .i64 0, .int .i64 0, .bool false, .string ⟨#[]⟩, .slice p 3 cap]] w fun e w' => e = .returned (.bool true) ∧ Below w.heap.size w w' :=
  reads_any _ ⟨4, 0, 0, false, ⟨#[]⟩⟩ [numV' 1 2, truV true, strV [97, 34, 98]] _ w (by decide +kernel) (by decide +kernel) (by decide +kernel) (small_lst (l := [numV' 1 2, truV true, strV [97, 34, 98]]) (by simp; exact ⟨wf_numV (by decide +kernel), wf_truV true, wfs _ (by decide)⟩) (by simp) (by decide +kernel)) hr.bound ht hl
theorem same_1 (w : World) : Calls Tryz.prog 29 #[.agg #[.int .u8 1, .int .i64 3, .int .i64 2, .bool false, .string ⟨#[]⟩, .slice none 0 0], .agg #[.int .u8 1, .int .i64 3, .int .i64 2, .bool false, .string ⟨#[]⟩, .slice none 0 0]] w fun e w' => e = .returned (.bool true) ∧ Below w.heap.size w w' := by
  have h := refsame_any Any Any ⟨1, 3, 2, false, ⟨#[]⟩⟩ ⟨1, 3, 2, false, ⟨#[]⟩⟩ [] [] (.slice none 0 0) (.slice none 0 0) w (Wf.mono (by omega) (wf_numV (n := 3) (d := 2) (by decide +kernel))) (RepL.nil _ _ _ _) (RepL.nil _ _ _ _)
  rw [show sameB (.mk ⟨1, 3, 2, false, ⟨#[]⟩⟩ []) (.mk ⟨1, 3, 2, false, ⟨#[]⟩⟩ []) = true from (sameB_iff _ _).2 rfl] at h
  exact h
end Go.Proofs.YtakjgjhjndiggaaGreatDoor
