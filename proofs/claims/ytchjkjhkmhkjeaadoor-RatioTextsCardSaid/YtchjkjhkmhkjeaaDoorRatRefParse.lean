/-
  How the reference's Parse ends, by what Number says of the parts.
-/
import Derived.Test.YtchjkjhkmhkjeaaDoorRatNumberSpec
import Derived.Test.YtchjkjhkmhkjeaaDoorRatRef
namespace Go.Proofs.YtchjkjhkmhkjeaaDoor
open Go.RowKit
open RM
set_option linter.unusedVariables false
set_option linter.unusedSimpArgs false

def ParEnd (P : Int → Int → Int → Prop) (w : World) (e : Ending) (w' : World) : Prop := (∃ x y f, e = .returned (.tuple #[.agg #[.int .i64 x, .int .i64 y], .int .i64 f]) ∧ P x y f) ∧ Below w.heap.size w w'
def NoSlash (s : ByteArray) (k : Nat) : Prop := ∀ j (h : j < k) (h2 : j < s.size), s[j] ≠ 47
/-- What is asked of the ways through Parse, where a slash stands at k. -/
def Cutted (s : ByteArray) (P : Int → Int → Int → Prop) : Prop := ∀ k (h : k < s.size), s[k] = 47 → NoSlash s k → ∀ v b, NumSays (s.extract 0 k) v b →
  (b = false → P 0 0 12) ∧ (b = true → ∀ u c, NumSays (s.extract (k + 1) s.size) u c → (c = false → P 0 0 12) ∧ (c = true → (u = 1 → P 0 0 12) ∧ (u ≠ 1 → chk v u ≠ 0 → P 0 0 12) ∧ (u ≠ 1 → chk v u = 0 → P v u 0)))
def Whole (s : ByteArray) (P : Int → Int → Int → Prop) : Prop := NoSlash s s.size → ∀ v b, NumSays s v b → (b = false → P 0 0 12) ∧ (b = true → (chk v 1 ≠ 0 → P 0 0 12) ∧ (chk v 1 = 0 → P v 1 0))
theorem den_setCell {w : World} {b : Nat} {x y : Value} {t : TypeId} (h : w.heap[b]? = some (.cells #[x, y] t (0, 0))) (v : Value) :
    (w.setCell ⟨b, 1, none⟩ v).heap[b]? = some (.cells #[x, v] t (0, 0)) := by
  simp only [World.setCell, Array.getElem?_modify, if_true, h]
  rfl
theorem extract_small {s : ByteArray} (hs : s.size ≤ 1000) (i j : Nat) : (s.extract i j).size ≤ 1000 := by
  simp [ByteArray.size_extract]; omega

set_option maxHeartbeats 2000000 in
theorem refparse_walk (s : ByteArray) (hs : s.size ≤ 1000) (w : World) (P : Int → Int → Int → Prop) (hcut : Cutted s P) (hall : Whole s P) :
    Calls Tryd.prog 15 #[.string s] w (ParEnd P w) := by
  have HA := Lib.hid hcut
  have HB := Lib.hid hall
  have KN := Lib.hid (fun (a : ByteArray) (ha : a.size ≤ 1000) w => refnumber_any a ha w)
  have HS := Lib.hid hs
  clear hcut hall
  go_enter Tryd.func15, Tryd.ntmps15
  go_wp2_with fail
  go_loopw [4] (fun av wr => ∃ k : Nat, av = .int .i64 (k : Int) ∧ k ≤ s.size ∧ NoSlash s k ∧ wr = w.alloc (.cells #[.int .i64 0, .int .i64 0] 23)) (fun av _ => s.size - (intOf av).toNat)
  case atStart => exact ⟨0, by simp, Nat.zero_le _, fun j h => absurd h (by omega), rfl⟩
  case round =>
    obtain ⟨k, rfl, hk, hn, rfl⟩ := hrel
    have HN := Lib.hid hn
    clear hn
    have bw : Below w.heap.size w (w.alloc (.cells #[.int .i64 0, .int .i64 0] 23)) := (Below.refl _ _).alloc (Nat.le_refl _) _
    have BW := Lib.hid bw
    clear bw
    by_cases hlt : k < s.size
    · have k1 : (k : Int) < (s.size : Int) := by omega
      by_cases hc : s[k] = 47
      · have hm : (s[k].toNat : Int) = 47 := by rw [hc]; rfl
        have k2 : (k : Int) + 1 ≤ (s.size : Int) := by omega
        have HK := Lib.hid (HA.out k hlt hc HN.out)
        clear HA HB
        go_wp2_with fail
        refine (KN.out _ (extract_small HS.out _ _) _).mono ?_
        rintro e w1 ⟨⟨v1, b1, rfl, hN1⟩, hb⟩
        have S1 := Lib.hid hN1
        have R1 := Lib.hid (below_new hb (heap_alloc_old (heap_alloc_new w (.cells #[.int .i64 0, .int .i64 0] 23)) _))
        have a0 : ((w.alloc (.cells #[.int .i64 0, .int .i64 0] 23)).alloc (.cells #[.int .i64 0, .int .i64 1] 23)).heap[w.heap.size + 1]? = some (.cells #[.int .i64 0, .int .i64 1] 23 (0, 0)) := by have := heap_alloc_new (w.alloc (.cells #[.int .i64 0, .int .i64 0] 23)) (.cells #[.int .i64 0, .int .i64 1] 23); simpa using this
        have A1 := Lib.hid (below_new hb a0)
        have b0 : Below w.heap.size w ((w.alloc (.cells #[.int .i64 0, .int .i64 0] 23)).alloc (.cells #[.int .i64 0, .int .i64 1] 23)) := BW.out.alloc BW.out.size _
        have B1 := Lib.hid (b0.trans (hb.mono b0.size))
        clear hb hN1 a0 b0
        have l1 := lt_of_block R1.out
        have p1 := cell_two0 R1.out
        have q1 := cell_two1 R1.out
        have f1 := free_two0 R1.out
        have g1 := free_two1 R1.out
        have l2 := lt_of_block A1.out
        have p2 := cell_two0 A1.out
        have q2 := cell_two1 A1.out
        have f2 := free_two0 A1.out
        have g2 := free_two1 A1.out
        cases b1
        case false =>
          go_wp2_with fail
          refine bodyPost_ret (v := .tuple #[.agg #[.int .i64 0, .int .i64 0], .int .i64 12]) (by simp [results, Tryd.results15, go_sem, p1, q1, l1]) rfl ?_
          refine ⟨⟨_, _, _, rfl, (HK.out v1 false S1.out).1 rfl⟩, ?_⟩
          repeat (with_reducible (first | exact B1.out | refine Below.setCell ?_ (by first | exact Nat.le_refl _ | exact Nat.le_succ _ | (simp; omega)) _ | refine Below.alloc ?_ (by first | exact B1.out.size | (have := B1.out.size; simp; omega)) _))
        case true =>
          have HT := Lib.hid ((HK.out v1 true S1.out).2 rfl)
          clear HK
          go_wp2_with fail
          refine (KN.out _ (extract_small HS.out _ _) _).mono ?_
          rintro e w2 ⟨⟨v2, b2, rfl, hN2⟩, hb⟩
          have S2 := Lib.hid hN2
          have R2 := Lib.hid (below_new hb (heap_set_other R1.out (by show w.heap.size ≠ w.heap.size + 1; omega) _))
          have A2 := Lib.hid (below_new hb (neg_setCell A1.out (.int .i64 v1)))
          have b1 := (B1.out.setCell (p := ⟨w.heap.size + 1, 0, none⟩) (Nat.le_succ _) (.int .i64 v1))
          have B2 := Lib.hid (b1.trans (hb.mono b1.size))
          clear hb hN2 b1 l1 p1 q1 f1 g1 l2 p2 q2 f2 g2
          have l3 := lt_of_block R2.out
          have p3 := cell_two0 R2.out
          have q3 := cell_two1 R2.out
          have f3 := free_two0 R2.out
          have g3 := free_two1 R2.out
          have l4 := lt_of_block A2.out
          have p4 := cell_two0 A2.out
          have q4 := cell_two1 A2.out
          have f4 := free_two0 A2.out
          have g4 := free_two1 A2.out
          cases b2
          case false =>
            go_wp2_with fail
            refine bodyPost_ret (v := .tuple #[.agg #[.int .i64 0, .int .i64 0], .int .i64 12]) (by simp [results, Tryd.results15, go_sem, p3, q3, l3]) rfl ?_
            refine ⟨⟨_, _, _, rfl, (HT.out v2 false S2.out).1 rfl⟩, ?_⟩
            repeat (with_reducible (first | exact B2.out | refine Below.setCell ?_ (by first | exact Nat.le_refl _ | exact Nat.le_succ _ | (simp; omega)) _ | refine Below.alloc ?_ (by first | exact B2.out.size | (have := B2.out.size; simp; omega)) _))
          case true =>
            have HU := Lib.hid ((HT.out v2 true S2.out).2 rfl)
            by_cases hu : v2 = 1
            · have hu2 : (v2 == 1) = true := by rw [hu]; rfl
              have HV := Lib.hid hu
              clear hu
              go_wp2_with fail
              refine bodyPost_ret (v := .tuple #[.agg #[.int .i64 0, .int .i64 0], .int .i64 12]) (by simp [results, Tryd.results15, go_sem, p3, q3, l3]) rfl ?_
              refine ⟨⟨_, _, _, rfl, HU.out.1 HV.out⟩, ?_⟩
              repeat (with_reducible (first | exact B2.out | refine Below.setCell ?_ (by first | exact Nat.le_refl _ | exact Nat.le_succ _ | (simp; omega)) _ | refine Below.alloc ?_ (by first | exact B2.out.size | (have := B2.out.size; simp; omega)) _))
            · have hu2 : (v2 == 1) = false := beq_eq_false_iff_ne.2 hu
              have HV := Lib.hid hu
              clear hu
              cases hch : (chk v1 v2 == 0)
              case false =>
                have hch2 : (chk v1 v2 != 0) = true := by rw [bne, hch]; rfl
                have HC := Lib.hid hch
                go_wp2_with fail
                refine (refcheck_any _ _ _).mono ?_
                rintro e wz ⟨rfl, hb⟩
                have Rz := Lib.hid (below_new hb (heap_set_other R2.out (by show w.heap.size ≠ w.heap.size + 1; omega) _))
                have Az := Lib.hid (below_new hb (den_setCell A2.out (.int .i64 v2)))
                have bz := (B2.out.setCell (p := ⟨w.heap.size + 1, 1, none⟩) (Nat.le_succ _) (.int .i64 v2))
                have Bz := Lib.hid (bz.trans (hb.mono bz.size))
                clear hb bz
                have ly := lt_of_block Rz.out
                have py := cell_two0 Rz.out
                have qy := cell_two1 Rz.out
                have fy := free_two0 Rz.out
                have gy := free_two1 Rz.out
                have lz := lt_of_block Az.out
                have pz := cell_two0 Az.out
                have qz := cell_two1 Az.out
                have fz := free_two0 Az.out
                have gz := free_two1 Az.out
                go_wp2_with fail
                refine bodyPost_ret (v := .tuple #[.agg #[.int .i64 0, .int .i64 0], .int .i64 12]) (by simp [results, Tryd.results15, go_sem, py, qy, ly]) rfl ?_
                refine ⟨⟨_, _, _, rfl, HU.out.2.1 HV.out (by have h := HC.out; rw [beq_eq_false_iff_ne] at h; exact h)⟩, ?_⟩
                repeat (with_reducible (first | exact Bz.out | refine Below.setCell ?_ (by first | exact Nat.le_refl _ | exact Nat.le_succ _ | (simp; omega)) _ | refine Below.alloc ?_ (by first | exact Bz.out.size | (have := Bz.out.size; simp; omega)) _))
              case true =>
                have hch2 : (chk v1 v2 != 0) = false := by rw [bne, hch]; rfl
                have HC := Lib.hid hch
                go_wp2_with fail
                refine (refcheck_any _ _ _).mono ?_
                rintro e wz ⟨rfl, hb⟩
                have Rz := Lib.hid (below_new hb (heap_set_other R2.out (by show w.heap.size ≠ w.heap.size + 1; omega) _))
                have Az := Lib.hid (below_new hb (den_setCell A2.out (.int .i64 v2)))
                have bz := (B2.out.setCell (p := ⟨w.heap.size + 1, 1, none⟩) (Nat.le_succ _) (.int .i64 v2))
                have Bz := Lib.hid (bz.trans (hb.mono bz.size))
                clear hb bz
                have ly := lt_of_block Rz.out
                have py := cell_two0 Rz.out
                have qy := cell_two1 Rz.out
                have fy := free_two0 Rz.out
                have gy := free_two1 Rz.out
                have lz := lt_of_block Az.out
                have pz := cell_two0 Az.out
                have qz := cell_two1 Az.out
                have fz := free_two0 Az.out
                have gz := free_two1 Az.out
                go_wp2_with fail
                refine bodyPost_ret (v := .tuple #[.agg #[.int .i64 v1, .int .i64 v2], .int .i64 0]) (by simp [results, Tryd.results15, go_sem, py, qy, pz, qz, ly, lz]) rfl ?_
                refine ⟨⟨_, _, _, rfl, HU.out.2.2 HV.out (by have h := HC.out; rw [beq_iff_eq] at h; exact h)⟩, ?_⟩
                repeat (with_reducible (first | exact Bz.out | refine Below.setCell ?_ (by first | exact Nat.le_refl _ | exact Nat.le_succ _ | (simp; omega)) _ | refine Below.alloc ?_ (by first | exact Bz.out.size | (have := Bz.out.size; simp; omega)) _))
      · have hm : ((s[k].toNat : Int) == 47) = false := by
          rw [beq_eq_false_iff_ne]; intro h; exact hc (UInt8.toNat_inj.1 (by have : (47 : UInt8).toNat = 47 := rfl; omega))
        have hm2 : (s[k] == 47) = false := beq_eq_false_iff_ne.2 hc
        have hm3 : ((s[k].toNat : Int) != 47) = true := by rw [bne, hm]; rfl
        go_wp2_with fail
        go_roundw
        case rel =>
          refine ⟨k + 1, by go_num, by omega, fun j h h2 => ?_, by simp⟩
          rcases Nat.lt_or_ge j k with h3 | h3
          · exact HN.out j h3 h2
          · obtain rfl : j = k := by omega
            exact hc
        case measure => simp [intOf]; omega
    · obtain rfl : k = s.size := by omega
      have HK := Lib.hid (HB.out HN.out)
      clear HA HB
      go_wp2_with fail
      refine (KN.out _ HS.out _).mono ?_
      rintro e w1 ⟨⟨v1, b1, rfl, hN1⟩, hb⟩
      have S1 := Lib.hid hN1
      have R1 := Lib.hid (below_new hb (heap_alloc_old (heap_alloc_new w (.cells #[.int .i64 0, .int .i64 0] 23)) _))
      have a0 : ((w.alloc (.cells #[.int .i64 0, .int .i64 0] 23)).alloc (.cells #[.int .i64 0, .int .i64 1] 23)).heap[w.heap.size + 1]? = some (.cells #[.int .i64 0, .int .i64 1] 23 (0, 0)) := by have := heap_alloc_new (w.alloc (.cells #[.int .i64 0, .int .i64 0] 23)) (.cells #[.int .i64 0, .int .i64 1] 23); simpa using this
      have A1 := Lib.hid (below_new hb a0)
      have b0 : Below w.heap.size w ((w.alloc (.cells #[.int .i64 0, .int .i64 0] 23)).alloc (.cells #[.int .i64 0, .int .i64 1] 23)) := BW.out.alloc BW.out.size _
      have B1 := Lib.hid (b0.trans (hb.mono b0.size))
      clear hb hN1 a0 b0
      have l1 := lt_of_block R1.out
      have p1 := cell_two0 R1.out
      have q1 := cell_two1 R1.out
      have f1 := free_two0 R1.out
      have g1 := free_two1 R1.out
      have l2 := lt_of_block A1.out
      have p2 := cell_two0 A1.out
      have q2 := cell_two1 A1.out
      have f2 := free_two0 A1.out
      have g2 := free_two1 A1.out
      cases b1
      case false =>
        go_wp2_with fail
        refine bodyPost_ret (v := .tuple #[.agg #[.int .i64 0, .int .i64 0], .int .i64 12]) (by simp [results, Tryd.results15, go_sem, p1, q1, l1]) rfl ?_
        refine ⟨⟨_, _, _, rfl, (HK.out v1 false S1.out).1 rfl⟩, ?_⟩
        repeat (with_reducible (first | exact B1.out | refine Below.setCell ?_ (by first | exact Nat.le_refl _ | exact Nat.le_succ _ | (simp; omega)) _ | refine Below.alloc ?_ (by first | exact B1.out.size | (have := B1.out.size; simp; omega)) _))
      case true =>
        have HT := Lib.hid ((HK.out v1 true S1.out).2 rfl)
        clear HK
        cases hch : (chk v1 1 == 0)
        case false =>
          have hch2 : (chk v1 1 != 0) = true := by rw [bne, hch]; rfl
          have HC := Lib.hid hch
          go_wp2_with fail
          refine (refcheck_any _ _ _).mono ?_
          rintro e wz ⟨rfl, hb⟩
          have Rz := Lib.hid (below_new hb (heap_set_other R1.out (by show w.heap.size ≠ w.heap.size + 1; omega) _))
          have Az := Lib.hid (below_new hb (neg_setCell A1.out (.int .i64 v1)))
          have bz := (B1.out.setCell (p := ⟨w.heap.size + 1, 0, none⟩) (Nat.le_succ _) (.int .i64 v1))
          have Bz := Lib.hid (bz.trans (hb.mono bz.size))
          clear hb bz
          have ly := lt_of_block Rz.out
          have py := cell_two0 Rz.out
          have qy := cell_two1 Rz.out
          have fy := free_two0 Rz.out
          have gy := free_two1 Rz.out
          have lz := lt_of_block Az.out
          have pz := cell_two0 Az.out
          have qz := cell_two1 Az.out
          have fz := free_two0 Az.out
          have gz := free_two1 Az.out
          go_wp2_with fail
          refine bodyPost_ret (v := .tuple #[.agg #[.int .i64 0, .int .i64 0], .int .i64 12]) (by simp [results, Tryd.results15, go_sem, py, qy, ly]) rfl ?_
          refine ⟨⟨_, _, _, rfl, HT.out.1 (by have h := HC.out; rw [beq_eq_false_iff_ne] at h; exact h)⟩, ?_⟩
          repeat (with_reducible (first | exact Bz.out | refine Below.setCell ?_ (by first | exact Nat.le_refl _ | exact Nat.le_succ _ | (simp; omega)) _ | refine Below.alloc ?_ (by first | exact Bz.out.size | (have := Bz.out.size; simp; omega)) _))
        case true =>
          have hch2 : (chk v1 1 != 0) = false := by rw [bne, hch]; rfl
          have HC := Lib.hid hch
          go_wp2_with fail
          refine (refcheck_any _ _ _).mono ?_
          rintro e wz ⟨rfl, hb⟩
          have Rz := Lib.hid (below_new hb (heap_set_other R1.out (by show w.heap.size ≠ w.heap.size + 1; omega) _))
          have Az := Lib.hid (below_new hb (neg_setCell A1.out (.int .i64 v1)))
          have bz := (B1.out.setCell (p := ⟨w.heap.size + 1, 0, none⟩) (Nat.le_succ _) (.int .i64 v1))
          have Bz := Lib.hid (bz.trans (hb.mono bz.size))
          clear hb bz
          have ly := lt_of_block Rz.out
          have py := cell_two0 Rz.out
          have qy := cell_two1 Rz.out
          have fy := free_two0 Rz.out
          have gy := free_two1 Rz.out
          have lz := lt_of_block Az.out
          have pz := cell_two0 Az.out
          have qz := cell_two1 Az.out
          have fz := free_two0 Az.out
          have gz := free_two1 Az.out
          go_wp2_with fail
          refine bodyPost_ret (v := .tuple #[.agg #[.int .i64 v1, .int .i64 1], .int .i64 0]) (by simp [results, Tryd.results15, go_sem, py, qy, pz, qz, ly, lz]) rfl ?_
          refine ⟨⟨_, _, _, rfl, HT.out.2 (by have h := HC.out; rw [beq_iff_eq] at h; exact h)⟩, ?_⟩
          repeat (with_reducible (first | exact Bz.out | refine Below.setCell ?_ (by first | exact Nat.le_refl _ | exact Nat.le_succ _ | (simp; omega)) _ | refine Below.alloc ?_ (by first | exact Bz.out.size | (have := Bz.out.size; simp; omega)) _))
end Go.Proofs.YtchjkjhkmhkjeaaDoor
