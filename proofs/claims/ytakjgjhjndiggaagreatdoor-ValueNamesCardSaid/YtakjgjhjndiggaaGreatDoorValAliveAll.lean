/-
  What Add hands back of strings, and of values of two kinds. What alive hands back.
-/
import Derived.Test.YtakjgjhjndiggaaGreatDoorValAlTwo
import Derived.Test.YtakjgjhjndiggaaGreatDoorValTwin
import Derived.Deep.RegionHeld3
import Derived.Deep.Cut
import Derived.Deep.CutRange
namespace Go.Proofs.YtakjgjhjndiggaaGreatDoor
open Go.RowKit Go.Shelf
open VM
set_option linter.unusedVariables false
set_option linter.unusedSimpArgs false

set_option maxHeartbeats 1000000 in
set_option maxRecDepth 100000 in
theorem grow_nil (w : World) : Calls Tryz.prog 58 #[.slice none 0 0, .int .i64 0] w fun e w' => e = .returned (.slice none 0 0) ∧ w' = w := by
  go_enter Tryz.func58, Tryz.ntmps58
  go_wp2_with fail
  go_ret
  exact ⟨rfl, rfl⟩
set_option maxHeartbeats 1000000 in
set_option maxRecDepth 100000 in
theorem concat_nil (g : Nat) (w : World) (h0 : w.cell? ⟨g, 0, none⟩ = some (.slice none 0 0)) (h1 : w.cell? ⟨g, 1, none⟩ = some (.slice none 0 0)) :
    Calls Tryz.prog 38 #[.slice (some ⟨g, 0, none⟩) 2 2] w fun e w' => e = .returned (.slice none 0 0) ∧ w' = w := by
  go_enter Tryz.func38, Tryz.ntmps38
  go_wp2_with fail
  go_loopw [3, 11] (fun nv iv wr => ∃ j : Nat, nv = .int .i64 0 ∧ iv = .int .i64 j ∧ j ≤ 2 ∧ wr = w) (fun _ iv _ => 2 - (intOf iv).toNat)
  case atStart => exact ⟨0, rfl, rfl, by omega, rfl⟩
  case round =>
    obtain ⟨j, rfl, rfl, hj, rfl⟩ := hrel
    have hc : j = 0 ∨ j = 1 ∨ j = 2 := by omega
    rcases hc with rfl | rfl | rfl
    · go_wp2_with fail
      go_roundw
      case rel => exact ⟨1, rfl, by go_num, by first | trivial | omega, by first | trivial | rfl⟩
      case measure => simp [intOf]
    · go_wp2_with fail
      go_roundw
      case rel => exact ⟨2, rfl, by go_num, by first | trivial | omega, by first | trivial | rfl⟩
      case measure => simp [intOf]
    · go_wp2_with fail
      refine (grow_nil _).mono ?_
      rintro e w1 ⟨rfl, rfl⟩
      go_wp2_with fail
      go_loopw [6, 27] (fun nv iv wr => ∃ j : Nat, nv = .slice none 0 0 ∧ iv = .int .i64 j ∧ j ≤ 2 ∧ wr = w1) (fun _ iv _ => 2 - (intOf iv).toNat)
      case atStart => exact ⟨0, rfl, rfl, by omega, rfl⟩
      case round =>
        obtain ⟨j, rfl, rfl, hj, rfl⟩ := hrel
        have hc : j = 0 ∨ j = 1 ∨ j = 2 := by omega
        rcases hc with rfl | rfl | rfl
        · go_wp2_with fail
          go_roundw
          case rel => exact ⟨1, rfl, by go_num, by first | trivial | omega, by first | trivial | rfl⟩
          case measure => simp [intOf]
        · go_wp2_with fail
          go_roundw
          case rel => exact ⟨2, rfl, by go_num, by first | trivial | omega, by first | trivial | rfl⟩
          case measure => simp [intOf]
        · go_wp2_with fail
          go_ret
          exact ⟨rfl, rfl⟩
set_option maxHeartbeats 1000000 in
set_option maxRecDepth 100000 in
theorem add_kind (a b : Nd) (l m : List V) (sl sm : Value) (w : World) (hs : Small (.mk a l)) (hs2 : Small (.mk b m)) (h1 : vchk (.mk a l) = 0) (h2 : vchk (.mk b m) = 0) (hk : a.k ≠ b.k) (hr : RepL (· < w.heap.size) w l sl) (hr2 : RepL (· < w.heap.size) w m sm) :
    Calls Tryz.prog 16 #[.agg #[.int .u8 a.k, .int .i64 a.n, .int .i64 a.d, .bool a.t, .string a.s, sl], .agg #[.int .u8 b.k, .int .i64 b.n, .int .i64 b.d, .bool b.t, .string b.s, sm]] w fun e w' => e = .returned (.tuple #[.agg #[.int .u8 0, .int .i64 0, .int .i64 0, .bool false, .string ⟨#[]⟩, .slice none 0 0], .int .i64 20]) ∧ Below w.heap.size w w' := by
  obtain ⟨p, cap, rfl⟩ := hr.slice
  obtain ⟨p2, cap2, rfl⟩ := hr2.slice
  have KA := Lib.hid (fun w1 h h2 => checkboth_any a b l m (.slice p l.length cap) (.slice p2 m.length cap2) w1 hs hs2 h h2)
  rw [show bothE (.mk a l) (.mk b m) = 0 by unfold bothE; rw [h1, h2]; rfl] at KA
  have z0 : ((a.k : Int) != b.k) = true := by simp [bne]; exact hk
  have HB : Hid (∀ o1 o2 o3 : Obj, Below w.heap.size w (((w.alloc o1).alloc o2).alloc o3)) := Lib.hid fun o1 o2 o3 => (((Below.refl _ _).alloc (Nat.le_refl _) _).alloc (by simp) _).alloc (by simp; omega) _
  have S1 : Hid (∀ o2 o3 : Obj, Six (((w.alloc (.cells #[.int .u8 a.k, .int .i64 a.n, .int .i64 a.d, .bool a.t, .string a.s, .slice p l.length cap] 28)).alloc o2).alloc o3) w.heap.size a (.slice p l.length cap)) := Lib.hid fun o2 o3 => (Six.new w a (.slice p l.length cap)).later (((Below.refl _ _).alloc (Nat.le_refl _) _).alloc (by simp) _)
  have S2 : Hid (∀ o1 o3 : Obj, Six (((w.alloc o1).alloc (.cells #[.int .u8 b.k, .int .i64 b.n, .int .i64 b.d, .bool b.t, .string b.s, .slice p2 m.length cap2] 28)).alloc o3) (w.heap.size + 1) b (.slice p2 m.length cap2)) := Lib.hid fun o1 o3 => by
    have := (Six.new (w.alloc o1) b (.slice p2 m.length cap2)).later ((Below.refl _ _).alloc (Nat.le_refl _) o3)
    rwa [World.size_alloc] at this
  have S3 : Hid (∀ o1 o2 : Obj, Six (((w.alloc o1).alloc o2).alloc (.cells #[.int .u8 0, .int .i64 0, .int .i64 0, .bool false, .string ⟨#[]⟩, .slice none 0 0] 28)) (w.heap.size + 1 + 1) ⟨0, 0, 0, false, ⟨#[]⟩⟩ (.slice none 0 0)) := Lib.hid fun o1 o2 => by
    have := Six.new ((w.alloc o1).alloc o2) ⟨0, 0, 0, false, ⟨#[]⟩⟩ (.slice none 0 0)
    rwa [World.size_alloc, World.size_alloc] at this
  have R1 := Lib.hid (fun o1 o2 o3 => hr.later (HB.out o1 o2 o3))
  have R2 := Lib.hid (fun o1 o2 o3 => hr2.later (HB.out o1 o2 o3))
  clear h1 h2 hk hr hr2 hs hs2
  go_enter Tryz.func16, Tryz.ntmps16
  go_wp2_with fail
  refine (KA.out _ (R1.out _ _ _).bound (R2.out _ _ _).bound).mono ?_
  rintro e w1 ⟨rfl, hb⟩
  have S4 := Lib.hid ((S1.out _ _).later hb)
  have S5 := Lib.hid ((S2.out _ _).later hb)
  have S6 := Lib.hid ((S3.out _ _).later hb)
  have B1 := Lib.hid ((HB.out _ _ _).trans (hb.mono (HB.out _ _ _).size))
  clear hb
  have l1 := S4.out.lt
  have q0 := S4.out.row.c0
  have q1 := S4.out.row.c1
  have q2 := S4.out.row.c2
  have q3 := S4.out.row.c3
  have q4 := S4.out.row.c4
  have q5 := S4.out.row.c5
  simp only [Nat.zero_add] at q1 q2 q3 q4 q5
  have l2 := S5.out.lt
  have g0 := S5.out.row.c0
  have g1 := S5.out.row.c1
  have g2 := S5.out.row.c2
  have g3 := S5.out.row.c3
  have g4 := S5.out.row.c4
  have g5 := S5.out.row.c5
  simp only [Nat.zero_add] at g1 g2 g3 g4 g5
  have l3 := S6.out.lt
  have h0 := S6.out.row.c0
  have h1 := S6.out.row.c1
  have h2 := S6.out.row.c2
  have h3 := S6.out.row.c3
  have h4 := S6.out.row.c4
  have h5 := S6.out.row.c5
  have f0 := S6.out.free 0
  have f1 := S6.out.free 1
  have f2 := S6.out.free 2
  have f3 := S6.out.free 3
  have f4 := S6.out.free 4
  have f5 := S6.out.free 5
  simp only [Nat.zero_add] at h1 h2 h3 h4 h5
  go_wp2_with fail
  have H6 := sixSet_six S6.out ⟨0, 0, 0, false, ⟨#[]⟩⟩ (.slice none 0 0)
  have HBw := sixSet_below (a := ⟨0, 0, 0, false, ⟨#[]⟩⟩) (sl := (.slice none 0 0)) B1.out (by omega : w.heap.size ≤ w.heap.size + 1 + 1)
  unfold sixSet at H6 HBw
  have e0 := H6.row.c0
  have e1 := H6.row.c1
  have e2 := H6.row.c2
  have e3 := H6.row.c3
  have e4 := H6.row.c4
  have e5 := H6.row.c5
  simp only [Nat.zero_add] at e1 e2 e3 e4 e5
  exact bodyPost_ret (v := .tuple #[.agg #[.int .u8 0, .int .i64 0, .int .i64 0, .bool false, .string ⟨#[]⟩, .slice none 0 0], .int .i64 20]) (by simp [results, Tryz.results16, go_sem, h0, h1, h2, h3, h4, h5, l3, e0, e1, e2, e3, e4, e5] <;> rfl) rfl ⟨rfl, HBw⟩
theorem drew_cell (w : World) (a : Addr) : w.drew.cell? a = w.cell? a := rfl
theorem drew_size (w : World) : w.drew.heap.size = w.heap.size := rfl
theorem six_a (w : World) (a : Nd) (sl : Value) (o : Obj) : Six ((w.alloc o).alloc (.cells #[.int .u8 a.k, .int .i64 a.n, .int .i64 a.d, .bool a.t, .string a.s, sl] 28)).drew (w.heap.size + 1) a sl := by
  have h := (Six.new (w.alloc o) a sl).later (Below.refl _ _).drew
  rwa [World.size_alloc] at h
theorem six_b (w : World) (a : Nd) (sl : Value) (o : Obj) : Six ((w.alloc (.cells #[.int .u8 a.k, .int .i64 a.n, .int .i64 a.d, .bool a.t, .string a.s, sl] 28)).alloc o).drew w.heap.size a sl :=
  ((Six.new w a sl).later ((Below.refl _ _).alloc (Nat.le_refl _) o)).later (Below.refl _ _).drew
set_option maxHeartbeats 2000000 in
set_option maxRecDepth 100000 in
theorem add_str (s1 s2 : ByteArray) (w : World) (hz1 : s1.size ≤ 1000) (hz2 : s2.size ≤ 1000) (h1 : vchk (.mk ⟨3, 0, 0, false, s1⟩ []) = 0) (h2 : vchk (.mk ⟨3, 0, 0, false, s2⟩ []) = 0) (h3 : vchk (.mk ⟨3, 0, 0, false, s1 ++ s2⟩ []) = 0) :
    Calls Tryz.prog 16 #[.agg #[.int .u8 3, .int .i64 0, .int .i64 0, .bool false, .string s1, .slice none 0 0], .agg #[.int .u8 3, .int .i64 0, .int .i64 0, .bool false, .string s2, .slice none 0 0]] w fun e w' => e = .returned (.tuple #[.agg #[.int .u8 3, .int .i64 0, .int .i64 0, .bool false, .string (s1 ++ s2), .slice none 0 0], .int .i64 0]) ∧ Below w.heap.size w w' := by
  have small : ∀ s : ByteArray, s.size ≤ 2000 → Small (.mk ⟨3, 0, 0, false, s⟩ []) := fun s h => ⟨.mk _ _ (nd_wf (by simp) (by simp) (by simp) (by simp) (by simp) (by simp) (by show s.size ≤ 20000; omega)) (by simp) (by simp), by rw [show hgt (V.mk ⟨3, 0, 0, false, s⟩ []) = 1 from (sz_leaf (by simp)).2]; omega⟩
  have hsz : (s1 ++ s2).size ≤ 2000 := by rw [ByteArray.size_append]; omega
  have KA := Lib.hid (fun w1 h h2 => checkboth_any ⟨3, 0, 0, false, s1⟩ ⟨3, 0, 0, false, s2⟩ [] [] (.slice none 0 0) (.slice none 0 0) w1 (small s1 (by omega)) (small s2 (by omega)) h h2)
  rw [show bothE (.mk ⟨3, 0, 0, false, s1⟩ []) (.mk ⟨3, 0, 0, false, s2⟩ []) = 0 by unfold bothE; rw [h1, h2]; rfl] at KA
  have KC := Lib.hid (fun w1 h => vcheck_any ⟨3, 0, 0, false, s1 ++ s2⟩ [] none 0 w1 (small _ hsz) h)
  rw [h3] at KC
  have KT := Lib.hid (fun w1 => twin_any ⟨3, 0, 0, false, s1 ++ s2⟩ (by show (s1 ++ s2).size ≤ _; omega) w1)
  have HB : Hid (∀ o1 o2 o3 : Obj, Below w.heap.size w (((w.alloc o1).alloc o2).alloc o3)) := Lib.hid fun o1 o2 o3 => (((Below.refl _ _).alloc (Nat.le_refl _) _).alloc (by simp) _).alloc (by simp; omega) _
  have S1 : Hid (∀ o2 o3 : Obj, Six (((w.alloc (.cells #[.int .u8 (Nd.mk 3 0 0 false s1).k, .int .i64 (Nd.mk 3 0 0 false s1).n, .int .i64 (Nd.mk 3 0 0 false s1).d, .bool (Nd.mk 3 0 0 false s1).t, .string (Nd.mk 3 0 0 false s1).s, .slice none 0 0] 28)).alloc o2).alloc o3) w.heap.size ⟨3, 0, 0, false, s1⟩ (.slice none 0 0)) := Lib.hid fun o2 o3 => (Six.new w ⟨3, 0, 0, false, s1⟩ (.slice none 0 0)).later (((Below.refl _ _).alloc (Nat.le_refl _) _).alloc (by simp) _)
  have S2 : Hid (∀ o1 o3 : Obj, Six (((w.alloc o1).alloc (.cells #[.int .u8 (Nd.mk 3 0 0 false s2).k, .int .i64 (Nd.mk 3 0 0 false s2).n, .int .i64 (Nd.mk 3 0 0 false s2).d, .bool (Nd.mk 3 0 0 false s2).t, .string (Nd.mk 3 0 0 false s2).s, .slice none 0 0] 28)).alloc o3) (w.heap.size + 1) ⟨3, 0, 0, false, s2⟩ (.slice none 0 0)) := Lib.hid fun o1 o3 => by
    have := (Six.new (w.alloc o1) ⟨3, 0, 0, false, s2⟩ (.slice none 0 0)).later ((Below.refl _ _).alloc (Nat.le_refl _) o3)
    rwa [World.size_alloc] at this
  have S3 : Hid (∀ o1 o2 : Obj, Six (((w.alloc o1).alloc o2).alloc (.cells #[.int .u8 0, .int .i64 0, .int .i64 0, .bool false, .string ⟨#[]⟩, .slice none 0 0] 28)) (w.heap.size + 1 + 1) ⟨0, 0, 0, false, ⟨#[]⟩⟩ (.slice none 0 0)) := Lib.hid fun o1 o2 => by
    have := Six.new ((w.alloc o1).alloc o2) ⟨0, 0, 0, false, ⟨#[]⟩⟩ (.slice none 0 0)
    rwa [World.size_alloc, World.size_alloc] at this
  have hm : s1.size + s2.size ≤ 9223372036854775807 := by omega
  have hm2 : (s1.size : Int) + (s2.size : Int) ≤ 9223372036854775807 := by omega
  have hcat : ∀ w2 : World, (Op.stringOp .add s1 s2).run Tryz.prog w2 = .ok (.string (s1 ++ s2)) w2 := fun w2 => by apply run_string_add_sum; exact hm
  dsimp only at KA KC KT S1 S2
  clear h1 h2 h3 small
  go_enter Tryz.func16, Tryz.ntmps16
  go_wp2_with fail
  refine (KA.out _ (RepL.nil _ _ _ _) (RepL.nil _ _ _ _)).mono ?_
  rintro e w1 ⟨rfl, hb⟩
  have S4 := Lib.hid ((S1.out _ _).later hb)
  have S5 := Lib.hid ((S2.out _ _).later hb)
  have S6 := Lib.hid ((S3.out _ _).later hb)
  have B1 := Lib.hid ((HB.out _ _ _).trans (hb.mono (HB.out _ _ _).size))
  clear hb S1 S2 S3 HB
  have l1 := S4.out.lt
  have q0 := S4.out.row.c0
  have q1 := S4.out.row.c1
  have q2 := S4.out.row.c2
  have q3 := S4.out.row.c3
  have q4 := S4.out.row.c4
  have q5 := S4.out.row.c5
  simp only [Nat.zero_add] at q1 q2 q3 q4 q5
  have l2 := S5.out.lt
  have g0 := S5.out.row.c0
  have g1 := S5.out.row.c1
  have g2 := S5.out.row.c2
  have g3 := S5.out.row.c3
  have g4 := S5.out.row.c4
  have g5 := S5.out.row.c5
  simp only [Nat.zero_add] at g1 g2 g3 g4 g5
  dsimp only at q0 q1 q2 q3 q4 q5 g0 g1 g2 g3 g4 g5
  go_wp2_with fail
  go_region_held3 (fun w' => w'.cell? ⟨w.heap.size, 0, none⟩ = some (.int .u8 3) ∧ w'.cell? ⟨w.heap.size, 4, none⟩ = some (.string s1) ∧ w'.cell? ⟨w.heap.size, 5, none⟩ = some (.slice none 0 0) ∧ w'.cell? ⟨w.heap.size + 1, 4, none⟩ = some (.string s2) ∧ w'.cell? ⟨w.heap.size + 1, 5, none⟩ = some (.slice none 0 0)) (go_keep) (first | (go_at_call 38; refine (concat_nil _ _ (by (simp only [drew_cell, drew_size, World.size_alloc]; first | (rw [World.cell?_alloc_at _ _ _ _ (by simp [drew_size])]; rfl) | (rw [World.cell?_alloc_past _ _ _ (by simp [drew_size]), drew_cell, World.cell?_alloc_at _ _ _ _ (by simp [drew_size])]; rfl) | (rw [World.cell?_alloc_past _ _ _ (by simp [drew_size]), World.cell?_alloc_at _ _ _ _ (by simp [drew_size])]; rfl))) (by (simp only [drew_cell, drew_size, World.size_alloc]; first | (rw [World.cell?_alloc_at _ _ _ _ (by simp [drew_size])]; rfl) | (rw [World.cell?_alloc_past _ _ _ (by simp [drew_size]), drew_cell, World.cell?_alloc_at _ _ _ _ (by simp [drew_size])]; rfl) | (rw [World.cell?_alloc_past _ _ _ (by simp [drew_size]), World.cell?_alloc_at _ _ _ _ (by simp [drew_size])]; rfl)))).mono ?_; rintro e w' ⟨rfl, rfl⟩))
  all_goals go_wp2_with fail
  all_goals
    refine (KC.out _ (RepL.nil _ _ _ _)).mono ?_
    rintro e w2 ⟨rfl, hb⟩
    have HW : Hid (Below w1.heap.size w1 w2) := Lib.hid (by repeat (first | exact Below.refl _ _ | refine below_chain ?_ hb | refine below_chain ?_ ((Below.refl _ _).alloc (Nat.le_refl _) _) | refine below_chain ?_ (Below.refl _ _).drew))
    first
    | have S7 := Lib.hid (Six.later (six_a w1 ⟨3, 0, 0, false, s1 ++ s2⟩ (.slice none 0 0) _) hb)
    | have S7 := Lib.hid (Six.later (six_b w1 ⟨3, 0, 0, false, s1 ++ s2⟩ (.slice none 0 0) _) hb)
    have B2 := Lib.hid (B1.out.trans (HW.out.mono B1.out.size))
    have S8 := Lib.hid (S6.out.later HW.out)
    clear hb l1 q0 q1 q2 q3 q4 q5 l2 g0 g1 g2 g3 g4 g5
    have l1 := S7.out.lt
    have q0 := S7.out.row.c0
    have q1 := S7.out.row.c1
    have q2 := S7.out.row.c2
    have q3 := S7.out.row.c3
    have q4 := S7.out.row.c4
    have q5 := S7.out.row.c5
    simp only [Nat.zero_add] at q1 q2 q3 q4 q5
    go_wp2_with fail
    refine (KT.out _).mono ?_
    rintro e w3 ⟨rfl, hb⟩
    have B3 := Lib.hid (B2.out.trans (hb.mono B2.out.size))
    have S9 := Lib.hid (S8.out.later hb)
    clear hb l1 q0 q1 q2 q3 q4 q5
    have l3 := S9.out.lt
    have h0 := S9.out.row.c0
    have h1 := S9.out.row.c1
    have h2 := S9.out.row.c2
    have h3 := S9.out.row.c3
    have h4 := S9.out.row.c4
    have h5 := S9.out.row.c5
    have f0 := S9.out.free 0
    have f1 := S9.out.free 1
    have f2 := S9.out.free 2
    have f3 := S9.out.free 3
    have f4 := S9.out.free 4
    have f5 := S9.out.free 5
    simp only [Nat.zero_add] at h1 h2 h3 h4 h5
    go_wp2_with fail
    have H6 := sixSet_six S9.out ⟨3, 0, 0, false, s1 ++ s2⟩ (.slice none 0 0)
    have HBw := sixSet_below (a := ⟨3, 0, 0, false, s1 ++ s2⟩) (sl := (.slice none 0 0)) B3.out (by omega : w.heap.size ≤ w.heap.size + 1 + 1)
    unfold sixSet at H6 HBw
    have e0 := H6.row.c0
    have e1 := H6.row.c1
    have e2 := H6.row.c2
    have e3 := H6.row.c3
    have e4 := H6.row.c4
    have e5 := H6.row.c5
    simp only [Nat.zero_add] at e1 e2 e3 e4 e5
    exact bodyPost_ret (v := .tuple #[.agg #[.int .u8 3, .int .i64 0, .int .i64 0, .bool false, .string (s1 ++ s2), .slice none 0 0], .int .i64 0]) (by simp [results, Tryz.results16, go_sem, h0, h1, h2, h3, h4, h5, l3, e0, e1, e2, e3, e4, e5] <;> rfl) rfl ⟨rfl, HBw⟩
end Go.Proofs.YtakjgjhjndiggaaGreatDoor
namespace Go.Proofs.YtakjgjhjndiggaaGreatDoor
open Go.RowKit Go.Shelf
open VM
set_option linter.unusedVariables false
set_option linter.unusedSimpArgs false

theorem small_leaf {a : Nd} (h : a.Wf 20000) : Small (.mk a []) := ⟨.mk _ _ h (by simp) (by simp), by rw [hgt_eq]; simp [hgtL]⟩
theorem add_1 (w : World) : Calls Tryz.prog 16 #[.agg #[.int .u8 3, .int .i64 0, .int .i64 0, .bool false, .string ⟨#[97, 98]⟩, .slice none 0 0], .agg #[.int .u8 3, .int .i64 0, .int .i64 0, .bool false, .string ⟨#[99]⟩, .slice none 0 0]] w fun e w' => e = .returned (.tuple #[.agg #[.int .u8 3, .int .i64 0, .int .i64 0, .bool false, .string ⟨#[97, 98, 99]⟩, .slice none 0 0], .int .i64 0]) ∧ Below w.heap.size w w' := by
  have h := add_str ⟨#[97, 98]⟩ ⟨#[99]⟩ w (by decide) (by decide) (by decide +kernel) (by decide +kernel) (by decide +kernel)
  rw [show (⟨#[97, 98]⟩ ++ ⟨#[99]⟩ : ByteArray) = ⟨#[97, 98, 99]⟩ by decide +kernel] at h
  exact h
theorem add_2 (w : World) : Calls Tryz.prog 16 #[.agg #[.int .u8 1, .int .i64 1, .int .i64 1, .bool false, .string ⟨#[]⟩, .slice none 0 0], .agg #[.int .u8 3, .int .i64 0, .int .i64 0, .bool false, .string ⟨#[49]⟩, .slice none 0 0]] w fun e w' => e = .returned (.tuple #[.agg #[.int .u8 0, .int .i64 0, .int .i64 0, .bool false, .string ⟨#[]⟩, .slice none 0 0], .int .i64 20]) ∧ Below w.heap.size w w' :=
  add_kind ⟨1, 1, 1, false, ⟨#[]⟩⟩ ⟨3, 0, 0, false, ⟨#[49]⟩⟩ [] [] (.slice none 0 0) (.slice none 0 0) w (small_leaf (nd_wf (by decide) (by decide) (by decide) (by decide) (by decide) (by decide) (by decide))) (small_leaf (nd_wf (by decide) (by decide) (by decide) (by decide) (by decide) (by decide) (by decide))) (by decide +kernel) (by decide +kernel) (by decide) (RepL.nil _ _ _ _) (RepL.nil _ _ _ _)
theorem rep_oneA {w : World} {o : Obj} {ka na da : Int} {ta : Bool} {za : ByteArray} {l : List V} {sl : Value} {ty : TypeId} (h0 : RepL Any (w.alloc o) l sl) : RepL Any ((w.alloc o).alloc (.cells #[.int .u8 ka, .int .i64 na, .int .i64 da, .bool ta, .string za, sl] ty)) [.mk ⟨ka, na, da, ta, za⟩ l] (.slice (some ⟨w.heap.size + 1, 0, none⟩) 1 1) := by
  have h := rep_one (ka := ka) (na := na) (da := da) (ta := ta) (za := za) (ty := ty) h0
  rwa [World.size_alloc] at h
theorem cmq_1 (p q : Option Addr) (cap cap2 : Nat) (w : World) (hr : RepL Any w [.mk ⟨1, 1, 1, false, ⟨#[]⟩⟩ [], .mk ⟨1, 2, 1, false, ⟨#[]⟩⟩ []] (.slice p 2 cap)) (hr2 : RepL Any w [.mk ⟨1, 1, 1, false, ⟨#[]⟩⟩ [], .mk ⟨1, 3, 1, false, ⟨#[]⟩⟩ []] (.slice q 2 cap2)) :
    Calls Tryz.prog 21 #[.agg #[.int .u8 4, .int .i64 0, .int .i64 0, .bool false, .string ⟨#[]⟩, .slice p 2 cap], .agg #[.int .u8 4, .int .i64 0, .int .i64 0, .bool false, .string ⟨#[]⟩, .slice q 2 cap2], .int .i64 (-1), .int .i64 0] w fun e w' => e = .returned (.bool true) ∧ Below w.heap.size w w' := cmp_1 p q cap cap2 w hr hr2
theorem cmq_2 (p q : Option Addr) (cap cap2 : Nat) (w : World) (hr : RepL Any w [.mk ⟨1, 1, 1, false, ⟨#[]⟩⟩ [], .mk ⟨1, 2, 1, false, ⟨#[]⟩⟩ []] (.slice p 2 cap)) (hr2 : RepL Any w [.mk ⟨1, 1, 1, false, ⟨#[]⟩⟩ []] (.slice q 1 cap2)) :
    Calls Tryz.prog 21 #[.agg #[.int .u8 4, .int .i64 0, .int .i64 0, .bool false, .string ⟨#[]⟩, .slice p 2 cap], .agg #[.int .u8 4, .int .i64 0, .int .i64 0, .bool false, .string ⟨#[]⟩, .slice q 1 cap2], .int .i64 1, .int .i64 0] w fun e w' => e = .returned (.bool true) ∧ Below w.heap.size w w' := cmp_2 p q cap cap2 w hr hr2
theorem cmq_3 (p q : Option Addr) (cap cap2 : Nat) (w : World) (hr : RepL Any w [.mk ⟨1, 1, 1, false, ⟨#[]⟩⟩ []] (.slice p 1 cap)) (hr2 : RepL Any w [.mk ⟨3, 0, 0, false, ⟨#[49]⟩⟩ []] (.slice q 1 cap2)) :
    Calls Tryz.prog 21 #[.agg #[.int .u8 4, .int .i64 0, .int .i64 0, .bool false, .string ⟨#[]⟩, .slice p 1 cap], .agg #[.int .u8 4, .int .i64 0, .int .i64 0, .bool false, .string ⟨#[]⟩, .slice q 1 cap2], .int .i64 0, .int .i64 20] w fun e w' => e = .returned (.bool true) ∧ Below w.heap.size w w' := cmp_3 p q cap cap2 w hr hr2
theorem cmq_4 (p q : Option Addr) (cap cap2 : Nat) (w : World) (hr : RepL Any w [.mk ⟨4, 0, 0, false, ⟨#[]⟩⟩ [.mk ⟨1, 1, 1, false, ⟨#[]⟩⟩ []]] (.slice p 1 cap)) (hr2 : RepL Any w [.mk ⟨4, 0, 0, false, ⟨#[]⟩⟩ [.mk ⟨3, 0, 0, false, ⟨#[49]⟩⟩ []]] (.slice q 1 cap2)) :
    Calls Tryz.prog 21 #[.agg #[.int .u8 4, .int .i64 0, .int .i64 0, .bool false, .string ⟨#[]⟩, .slice p 1 cap], .agg #[.int .u8 4, .int .i64 0, .int .i64 0, .bool false, .string ⟨#[]⟩, .slice q 1 cap2], .int .i64 0, .int .i64 20] w fun e w' => e = .returned (.bool true) ∧ Below w.heap.size w w' := cmp_4 p q cap cap2 w hr hr2
theorem cmq_5 (p q : Option Addr) (cap cap2 : Nat) (w : World) (hr : RepL Any w [.mk ⟨1, 2, 1, false, ⟨#[]⟩⟩ [], .mk ⟨2, 0, 0, true, ⟨#[]⟩⟩ []] (.slice p 2 cap)) (hr2 : RepL Any w [.mk ⟨1, 1, 1, false, ⟨#[]⟩⟩ [], .mk ⟨1, 5, 1, false, ⟨#[]⟩⟩ []] (.slice q 2 cap2)) :
    Calls Tryz.prog 21 #[.agg #[.int .u8 4, .int .i64 0, .int .i64 0, .bool false, .string ⟨#[]⟩, .slice p 2 cap], .agg #[.int .u8 4, .int .i64 0, .int .i64 0, .bool false, .string ⟨#[]⟩, .slice q 2 cap2], .int .i64 1, .int .i64 0] w fun e w' => e = .returned (.bool true) ∧ Below w.heap.size w w' := cmp_5 p q cap cap2 w hr hr2
theorem reaq_1 (p : Option Addr) (cap : Nat) (w : World) (hr : RepL Any w [.mk ⟨1, 1, 2, false, ⟨#[]⟩⟩ [], .mk ⟨2, 0, 0, true, ⟨#[]⟩⟩ [], .mk ⟨3, 0, 0, false, ⟨#[97, 34, 98]⟩⟩ []] (.slice p 3 cap)) (ht : Tab w) (hl : Len w) :
    Calls Tryz.prog 10 #[.string ⟨#[91, 49, 47, 50, 44, 32, 116, 114, 117, 101, 44, 32, 34, 97, 92, 34, 98, 34, 93]⟩, .agg #[.int .u8 4, .int .i64 0, .int .i64 0, .bool false, .string ⟨#[]⟩, .slice p 3 cap]] w fun e w' => e = .returned (.bool true) ∧ Below w.heap.size w w' := reads_1 p cap w hr ht hl
theorem keepB {w w' : World} {b : Nat} (h : Below w.heap.size w w') (hb : b < w.heap.size) : ∀ o, w'.cell? ⟨b, o, none⟩ = w.cell? ⟨b, o, none⟩ := fun o => cell_of_heap (h.block b hb) o
theorem keep2 {w w' : World} {b c : Nat} (hb : b < w.heap.size) (hc : c < w.heap.size) (h : Below w.heap.size w w') : (∀ o, w'.cell? ⟨b, o, none⟩ = w.cell? ⟨b, o, none⟩) ∧ (∀ o, w'.cell? ⟨c, o, none⟩ = w.cell? ⟨c, o, none⟩) := ⟨keepB h hb, keepB h hc⟩
theorem keep3 {w w' : World} {b c d : Nat} (hb : b < w.heap.size) (hc : c < w.heap.size) (hd : d < w.heap.size) (h : Below w.heap.size w w') : (∀ o, w'.cell? ⟨b, o, none⟩ = w.cell? ⟨b, o, none⟩) ∧ (∀ o, w'.cell? ⟨c, o, none⟩ = w.cell? ⟨c, o, none⟩) ∧ (∀ o, w'.cell? ⟨d, o, none⟩ = w.cell? ⟨d, o, none⟩) := ⟨keepB h hb, keepB h hc, keepB h hd⟩
set_option maxHeartbeats 4000000 in
set_option maxRecDepth 100000 in
theorem alive_any (w : World) (ht : Tab w) (hl : Len w) : Calls Tryz.prog 22 #[] w fun e w' => e = .returned (.bool true) ∧ Below w.heap.size w w' := by
  have HT := Lib.hid ht
  have HL := Lib.hid hl
  clear ht hl
  go_enter Tryz.func22, Tryz.ntmps22
  go_wp2_with fail
  refine (num64_any _).mono ?_
  rintro e w1 ⟨rfl, hb⟩
  have B1 := Lib.hid hb
  clear hb
  go_wp2_with fail
  refine (str_law _ _).mono ?_
  rintro e w2 ⟨rfl, hb⟩
  have B2 := Lib.hid hb
  clear hb
  go_wp2_with fail
  refine (str_law _ _).mono ?_
  rintro e w3 ⟨rfl, hb⟩
  have B3 := Lib.hid hb
  clear hb
  go_wp2_with fail
  refine (add_1 _).mono ?_
  rintro e w4 ⟨rfl, hb⟩
  have B4 := Lib.hid hb
  clear hb
  go_wp2_with fail
  refine (of_law _ _ _).mono ?_
  rintro e w5 ⟨rfl, hb⟩
  have B5 := Lib.hid hb
  clear hb
  go_wp2_with fail
  refine (str_law _ _).mono ?_
  rintro e w6 ⟨rfl, hb⟩
  have B6 := Lib.hid hb
  clear hb
  go_wp2_with fail
  refine (add_2 _).mono ?_
  rintro e w7 ⟨rfl, hb⟩
  have B7 := Lib.hid hb
  clear hb
  go_wp2_with fail
  refine (of_law _ _ _).mono ?_
  rintro e w8 ⟨rfl, hb⟩
  have B8 := Lib.hid hb
  clear hb
  go_wp2_with fail
  refine (list_law _ _ _ _).mono ?_
  rintro e w9 ⟨rfl, hb⟩
  have B9 := Lib.hid hb
  clear hb
  go_wp2_with fail
  refine (str_law _ _).mono ?_
  rintro e w10 ⟨rfl, hb⟩
  have B10 := Lib.hid hb
  clear hb
  go_wp2_with fail
  refine (list_law _ _ _ _).mono ?_
  rintro e w11 ⟨rfl, hb⟩
  have B11 := Lib.hid hb
  clear hb
  go_upto_region 5 with fail
  obtain ⟨W5, hW5⟩ : ∃ W, W = (w11.alloc (.cells #[.int .u8 4, .int .i64 0, .int .i64 0, .bool false, .string ⟨#[]⟩, .slice (some ⟨w8.heap.size, 0, none⟩) 1 1] 28)).alloc (.cells #[.int .u8 4, .int .i64 0, .int .i64 0, .bool false, .string ⟨#[]⟩, .slice (some ⟨w10.heap.size, 0, none⟩) 1 1] 28) := ⟨_, rfl⟩
  have R7 : Hid (RepL Any W5 [.mk ⟨1, 1, 1, false, ⟨#[]⟩⟩ []] (.slice (some ⟨w8.heap.size, 0, none⟩) 1 1)) := Lib.hid (by rw [hW5]; (repeat (first | exact RepL.nil _ _ _ _ | refine rep_one ?_ | refine rep_oneA ?_ | refine RepL.later ?_ (Hid.out (by assumption)) | refine RepL.later ?_ ((Below.refl _ _).alloc (Nat.le_refl _) _) | refine RepL.later ?_ (Below.refl _ _).drew)))
  have R8 : Hid (RepL Any W5 [.mk ⟨3, 0, 0, false, ⟨#[49]⟩⟩ []] (.slice (some ⟨w10.heap.size, 0, none⟩) 1 1)) := Lib.hid (by rw [hW5]; (repeat (first | exact RepL.nil _ _ _ _ | refine rep_one ?_ | refine rep_oneA ?_ | refine RepL.later ?_ (Hid.out (by assumption)) | refine RepL.later ?_ ((Below.refl _ _).alloc (Nat.le_refl _) _) | refine RepL.later ?_ (Below.refl _ _).drew)))
  have X1 : Hid (Six W5 w1.heap.size ⟨1, 3, 2, false, ⟨#[]⟩⟩ (.slice none 0 0)) := Lib.hid (by rw [hW5]; (repeat (first | exact six_at | exact Six.new _ _ _ | refine Six.later ?_ (Hid.out (by assumption)) | refine Six.later ?_ ((Below.refl _ _).alloc (Nat.le_refl _) _) | refine Six.later ?_ (Below.refl _ _).drew)))
  have X3 : Hid (Six W5 w4.heap.size ⟨3, 0, 0, false, ⟨#[97, 98, 99]⟩⟩ (.slice none 0 0)) := Lib.hid (by rw [hW5]; (repeat (first | exact six_at | exact Six.new _ _ _ | refine Six.later ?_ (Hid.out (by assumption)) | refine Six.later ?_ ((Below.refl _ _).alloc (Nat.le_refl _) _) | refine Six.later ?_ (Below.refl _ _).drew)))
  have X7 : Hid (Six W5 w11.heap.size ⟨4, 0, 0, false, ⟨#[]⟩⟩ (.slice (some ⟨w8.heap.size, 0, none⟩) 1 1)) := Lib.hid (by rw [hW5]; (repeat (first | exact six_at | exact Six.new _ _ _ | refine Six.later ?_ (Hid.out (by assumption)) | refine Six.later ?_ ((Below.refl _ _).alloc (Nat.le_refl _) _) | refine Six.later ?_ (Below.refl _ _).drew)))
  have X8 : Hid (Six W5 (w11.heap.size + 1) ⟨4, 0, 0, false, ⟨#[]⟩⟩ (.slice (some ⟨w10.heap.size, 0, none⟩) 1 1)) := Lib.hid (by
    have h := Six.new (w11.alloc (.cells #[.int .u8 4, .int .i64 0, .int .i64 0, .bool false, .string ⟨#[]⟩, .slice (some ⟨w8.heap.size, 0, none⟩) 1 1] 28)) ⟨4, 0, 0, false, ⟨#[]⟩⟩ (.slice (some ⟨w10.heap.size, 0, none⟩) 1 1)
    rw [World.size_alloc] at h
    rw [hW5]; exact h)
  have T5 : Hid (Tab W5) := Lib.hid (by rw [hW5]; exact (by with_reducible (repeat (first | exact HT.out | refine Tab.later ?_ (Hid.out (by assumption)) | refine Tab.later ?_ ((Below.refl _ _).alloc (Nat.le_refl _) _) | refine Tab.later ?_ (Below.refl _ _).drew))))
  have L5 : Hid (Len W5) := Lib.hid (by rw [hW5]; exact (by with_reducible (repeat (first | exact HL.out | refine Len.later ?_ (Hid.out (by assumption)) | refine Len.later ?_ ((Below.refl _ _).alloc (Nat.le_refl _) _) | refine Len.later ?_ (Below.refl _ _).drew))))
  have BW : Hid (Below w.heap.size w W5) := Lib.hid (by rw [hW5]; exact (by with_reducible (repeat (first | exact Below.refl _ _ | refine below_chain ?_ (Hid.out (by assumption)) | refine below_chain ?_ ((Below.refl _ _).alloc (Nat.le_refl _) _) | refine below_chain ?_ (Below.refl _ _).drew))))
  rw [← hW5]
  clear hW5 HT HL B1 B2 B3 B4 B5 B6 B7 B8 B9 B10 B11
  have z1 : Hid (w1.heap.size < W5.heap.size) := Lib.hid X1.out.lt
  have z2 : Hid (w11.heap.size < W5.heap.size) := Lib.hid X7.out.lt
  have z3 : Hid (w11.heap.size + 1 < W5.heap.size) := Lib.hid X8.out.lt
  have z4 : Hid (w4.heap.size < W5.heap.size) := Lib.hid X3.out.lt
  have a0 := X1.out.row.c0
  have a1 := X1.out.row.c1
  have a2 := X1.out.row.c2
  have a3 := X1.out.row.c3
  have a4 := X1.out.row.c4
  have a5 := X1.out.row.c5
  have c4 := X3.out.row.c4
  have d0 := X7.out.row.c0
  have d1 := X7.out.row.c1
  have d2 := X7.out.row.c2
  have d3 := X7.out.row.c3
  have d4 := X7.out.row.c4
  have d5 := X7.out.row.c5
  have f0 := X8.out.row.c0
  have f1 := X8.out.row.c1
  have f2 := X8.out.row.c2
  have f3 := X8.out.row.c3
  have f4 := X8.out.row.c4
  have f5 := X8.out.row.c5
  simp only [Nat.zero_add] at a1 a2 a3 a4 a5 c4 d1 d2 d3 d4 d5 f1 f2 f3 f4 f5
  clear X1 X3 X7 X8
  go_cut [9] from 32 to 73 (fun s9 wx => s9 = .bool true ∧ Below W5.heap.size W5 wx)
  case first =>
    go_region_held3 (fun w' => (∀ o, w'.cell? ⟨w1.heap.size, o, none⟩ = W5.cell? ⟨w1.heap.size, o, none⟩) ∧ (∀ o, w'.cell? ⟨w11.heap.size, o, none⟩ = W5.cell? ⟨w11.heap.size, o, none⟩) ∧ (∀ o, w'.cell? ⟨w11.heap.size + 1, o, none⟩ = W5.cell? ⟨w11.heap.size + 1, o, none⟩)) ((first | exact keep3 z1.out z2.out z3.out ((by with_reducible (repeat (first | exact Below.refl _ _ | refine below_chain ?_ (Hid.out (by assumption)) | refine below_chain ?_ ((Below.refl _ _).alloc (Nat.le_refl _) _) | refine below_chain ?_ (Below.refl _ _).drew)))))) (first
      | (go_at_call 13; with_reducible refine (of_law _ _ _).mono ?_; rintro e w' ⟨rfl, hb⟩; replace hb := Lib.hid hb)
      | (go_at_call 11; with_reducible refine (list_law _ _ _ _).mono ?_; rintro e w' ⟨rfl, hb⟩; replace hb := Lib.hid hb)
      | (go_at_call 15; with_reducible refine (is_any _ _).mono ?_; rintro e w' ⟨rfl, hb⟩; replace hb := Lib.hid hb)
      | (go_at_call 21; with_reducible refine (cmq_1 _ _ _ _ _ ?_ ?_).mono ?_; (focus (with_reducible (repeat (first | exact RepL.nil _ _ _ _ | exact R7.out | exact R8.out | refine rep_one ?_ | refine rep_oneA ?_ | refine rep_two ?_ ?_ | refine rep_three ?_ ?_ ?_ | refine RepL.later ?_ (Hid.out (by assumption)) | refine RepL.later ?_ ((Below.refl _ _).alloc (Nat.le_refl _) _) | refine RepL.later ?_ (Below.refl _ _).drew)); done)); (focus (with_reducible (repeat (first | exact RepL.nil _ _ _ _ | exact R7.out | exact R8.out | refine rep_one ?_ | refine rep_oneA ?_ | refine rep_two ?_ ?_ | refine rep_three ?_ ?_ ?_ | refine RepL.later ?_ (Hid.out (by assumption)) | refine RepL.later ?_ ((Below.refl _ _).alloc (Nat.le_refl _) _) | refine RepL.later ?_ (Below.refl _ _).drew)); done)); rintro e w' ⟨rfl, hb⟩; replace hb := Lib.hid hb)
      | (go_at_call 21; with_reducible refine (cmq_2 _ _ _ _ _ ?_ ?_).mono ?_; (focus (with_reducible (repeat (first | exact RepL.nil _ _ _ _ | exact R7.out | exact R8.out | refine rep_one ?_ | refine rep_oneA ?_ | refine rep_two ?_ ?_ | refine rep_three ?_ ?_ ?_ | refine RepL.later ?_ (Hid.out (by assumption)) | refine RepL.later ?_ ((Below.refl _ _).alloc (Nat.le_refl _) _) | refine RepL.later ?_ (Below.refl _ _).drew)); done)); (focus (with_reducible (repeat (first | exact RepL.nil _ _ _ _ | exact R7.out | exact R8.out | refine rep_one ?_ | refine rep_oneA ?_ | refine rep_two ?_ ?_ | refine rep_three ?_ ?_ ?_ | refine RepL.later ?_ (Hid.out (by assumption)) | refine RepL.later ?_ ((Below.refl _ _).alloc (Nat.le_refl _) _) | refine RepL.later ?_ (Below.refl _ _).drew)); done)); rintro e w' ⟨rfl, hb⟩; replace hb := Lib.hid hb)
      | (go_at_call 21; with_reducible refine (cmq_3 _ _ _ _ _ ?_ ?_).mono ?_; (focus (with_reducible (repeat (first | exact RepL.nil _ _ _ _ | exact R7.out | exact R8.out | refine rep_one ?_ | refine rep_oneA ?_ | refine rep_two ?_ ?_ | refine rep_three ?_ ?_ ?_ | refine RepL.later ?_ (Hid.out (by assumption)) | refine RepL.later ?_ ((Below.refl _ _).alloc (Nat.le_refl _) _) | refine RepL.later ?_ (Below.refl _ _).drew)); done)); (focus (with_reducible (repeat (first | exact RepL.nil _ _ _ _ | exact R7.out | exact R8.out | refine rep_one ?_ | refine rep_oneA ?_ | refine rep_two ?_ ?_ | refine rep_three ?_ ?_ ?_ | refine RepL.later ?_ (Hid.out (by assumption)) | refine RepL.later ?_ ((Below.refl _ _).alloc (Nat.le_refl _) _) | refine RepL.later ?_ (Below.refl _ _).drew)); done)); rintro e w' ⟨rfl, hb⟩; replace hb := Lib.hid hb)
      | (go_at_call 21; with_reducible refine (cmq_4 _ _ _ _ _ ?_ ?_).mono ?_; (focus (with_reducible (repeat (first | exact RepL.nil _ _ _ _ | exact R7.out | exact R8.out | refine rep_one ?_ | refine rep_oneA ?_ | refine rep_two ?_ ?_ | refine rep_three ?_ ?_ ?_ | refine RepL.later ?_ (Hid.out (by assumption)) | refine RepL.later ?_ ((Below.refl _ _).alloc (Nat.le_refl _) _) | refine RepL.later ?_ (Below.refl _ _).drew)); done)); (focus (with_reducible (repeat (first | exact RepL.nil _ _ _ _ | exact R7.out | exact R8.out | refine rep_one ?_ | refine rep_oneA ?_ | refine rep_two ?_ ?_ | refine rep_three ?_ ?_ ?_ | refine RepL.later ?_ (Hid.out (by assumption)) | refine RepL.later ?_ ((Below.refl _ _).alloc (Nat.le_refl _) _) | refine RepL.later ?_ (Below.refl _ _).drew)); done)); rintro e w' ⟨rfl, hb⟩; replace hb := Lib.hid hb)
      | (go_at_call 21; with_reducible refine (cmq_5 _ _ _ _ _ ?_ ?_).mono ?_; (focus (with_reducible (repeat (first | exact RepL.nil _ _ _ _ | exact R7.out | exact R8.out | refine rep_one ?_ | refine rep_oneA ?_ | refine rep_two ?_ ?_ | refine rep_three ?_ ?_ ?_ | refine RepL.later ?_ (Hid.out (by assumption)) | refine RepL.later ?_ ((Below.refl _ _).alloc (Nat.le_refl _) _) | refine RepL.later ?_ (Below.refl _ _).drew)); done)); (focus (with_reducible (repeat (first | exact RepL.nil _ _ _ _ | exact R7.out | exact R8.out | refine rep_one ?_ | refine rep_oneA ?_ | refine rep_two ?_ ?_ | refine rep_three ?_ ?_ ?_ | refine RepL.later ?_ (Hid.out (by assumption)) | refine RepL.later ?_ ((Below.refl _ _).alloc (Nat.le_refl _) _) | refine RepL.later ?_ (Below.refl _ _).drew)); done)); rintro e w' ⟨rfl, hb⟩; replace hb := Lib.hid hb))
    all_goals go_wp2_with fail
    all_goals go_meet
    all_goals exact ⟨rfl, (by with_reducible (repeat (first | exact Below.refl _ _ | refine below_chain ?_ (Hid.out (by assumption)) | refine below_chain ?_ ((Below.refl _ _).alloc (Nat.le_refl _) _) | refine below_chain ?_ (Below.refl _ _).drew)))⟩
  case rest =>
    obtain ⟨rfl, hb⟩ := hcut
    have HW := Lib.hid hb
    have HT := Lib.hid (T5.out.later hb)
    have HL := Lib.hid (L5.out.later hb)
    have y1 : Hid (w1.heap.size < wc.heap.size) := Lib.hid (Nat.lt_of_lt_of_le z1.out hb.size)
    have y4 : Hid (w4.heap.size < wc.heap.size) := Lib.hid (Nat.lt_of_lt_of_le z4.out hb.size)
    have k1 := keepB hb z1.out
    have k4 := keepB hb z4.out
    rw [← k1] at a0 a1 a2 a3 a4 a5
    rw [← k4] at c4
    clear hb k1 k4 d0 d1 d2 d3 d4 d5 f0 f1 f2 f3 f4 f5 T5 L5 R7 R8 z1 z2 z3 z4
    go_wp2_with fail
    go_region_held3 (fun w' => (∀ o, w'.cell? ⟨w1.heap.size, o, none⟩ = wc.cell? ⟨w1.heap.size, o, none⟩) ∧ (∀ o, w'.cell? ⟨w4.heap.size, o, none⟩ = wc.cell? ⟨w4.heap.size, o, none⟩)) ((first | exact keep2 y1.out y4.out ((by with_reducible (repeat (first | exact Below.refl _ _ | refine below_chain ?_ (Hid.out (by assumption)) | refine below_chain ?_ ((Below.refl _ _).alloc (Nat.le_refl _) _) | refine below_chain ?_ (Below.refl _ _).drew)))))) (first
      | (go_at_call 13; with_reducible refine (of_law _ _ _).mono ?_; rintro e w' ⟨rfl, hb⟩; replace hb := Lib.hid hb)
      | (go_at_call 11; with_reducible refine (list_law _ _ _ _).mono ?_; rintro e w' ⟨rfl, hb⟩; replace hb := Lib.hid hb)
      | (go_at_call 14; with_reducible refine (str_law _ _).mono ?_; rintro e w' ⟨rfl, hb⟩; replace hb := Lib.hid hb)
      | (go_at_call 15; with_reducible refine (is_any _ _).mono ?_; rintro e w' ⟨rfl, hb⟩; replace hb := Lib.hid hb)
      | (go_at_call 29; with_reducible refine (same_1 _).mono ?_; rintro e w' ⟨rfl, hb⟩; replace hb := Lib.hid hb)
      | (go_at_call 10; with_reducible refine (reaq_1 _ _ _ ?_ (by with_reducible (repeat (first | exact HT.out | refine Tab.later ?_ (Hid.out (by assumption)) | refine Tab.later ?_ ((Below.refl _ _).alloc (Nat.le_refl _) _) | refine Tab.later ?_ (Below.refl _ _).drew))) (by with_reducible (repeat (first | exact HL.out | refine Len.later ?_ (Hid.out (by assumption)) | refine Len.later ?_ ((Below.refl _ _).alloc (Nat.le_refl _) _) | refine Len.later ?_ (Below.refl _ _).drew)))).mono ?_; (focus (with_reducible (repeat (first | exact RepL.nil _ _ _ _ | refine rep_one ?_ | refine rep_oneA ?_ | refine rep_two ?_ ?_ | refine rep_three ?_ ?_ ?_ | refine RepL.later ?_ (Hid.out (by assumption)) | refine RepL.later ?_ ((Below.refl _ _).alloc (Nat.le_refl _) _) | refine RepL.later ?_ (Below.refl _ _).drew)); done)); rintro e w' ⟨rfl, hb⟩; replace hb := Lib.hid hb))
    all_goals go_wp2_with fail
    all_goals go_ret
    all_goals exact ⟨rfl, (by with_reducible (repeat (first | exact Below.refl _ _ | refine below_chain ?_ (Hid.out (by assumption)) | refine below_chain ?_ ((Below.refl _ _).alloc (Nat.le_refl _) _) | refine below_chain ?_ (Below.refl _ _).drew)))⟩
end Go.Proofs.YtakjgjhjndiggaaGreatDoor
