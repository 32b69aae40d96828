/-
  What the reference's Starts and quoted hand back.
-/
import Derived.Test.YtakjgjhjndiggaaGreatDoorValRdOneVal
import Derived.Test.YtakjgjhjndiggaaGreatDoorValWritten
namespace Go.Proofs.YtakjgjhjndiggaaGreatDoor
open Go.RowKit Go.Shelf
open VM
set_option linter.unusedVariables false
set_option linter.unusedSimpArgs false

theorem ext_take (s : ByteArray) (i j : Nat) : s.extract i j = bA (((lA s).drop i).take (j - i)) := by
  apply ByteArray.ext
  rw [ByteArray.data_extract]
  show s.data.extract i j = (((lA s).drop i).take (j - i)).toArray
  apply Array.ext'
  rw [Array.toList_extract]; rfl
theorem toList_lA (s : ByteArray) : s.toList = lA s := ByteArray.toList_eq _
def startsB (s : ByteArray) (at_ : Nat) (t : By) : Bool := decide (((lA s).drop at_).take t.length = t)
theorem starts_long {s : ByteArray} {at_ : Nat} {t : By} (h : ¬ at_ + t.length ≤ s.size) (hn : at_ ≤ s.size) : startsB s at_ t = false := by
  unfold startsB
  rw [decide_eq_false_iff_not]; intro e
  have := congrArg List.length e
  rw [List.length_take, List.length_drop, lA_len] at this; omega
theorem starts_iff {s : ByteArray} {at_ : Nat} {t : By} : startsB s at_ t = true ↔ ∃ r, (lA s).drop at_ = t ++ r := by
  unfold startsB
  rw [decide_eq_true_eq]
  constructor
  · intro h; exact ⟨((lA s).drop at_).drop t.length, by conv => lhs; rw [← List.take_append_drop t.length ((lA s).drop at_), h]⟩
  · rintro ⟨r, h⟩; rw [h]; simp
set_option maxHeartbeats 1000000 in
theorem starts_any (s : ByteArray) (at_ : Nat) (t : By) (hs : s.size ≤ 10000) (ha : at_ ≤ s.size) (ht : t.length ≤ 100) (w : World) :
    Calls Tryz.prog 78 #[.string s, .int .i64 at_, .string (bA t)] w fun e w' => e = .returned (.bool (startsB s at_ t)) ∧ w' = w := by
  have htz := bA_size t
  by_cases h : at_ + t.length ≤ s.size
  · have h1 : (at_ : Int) + ((bA t).size : Int) ≤ (s.size : Int) := by omega
    have hx : (s.extract at_ (at_ + (bA t).size)).toList = ((lA s).drop at_).take t.length := by
      rw [toList_lA, ext_take, lA_bA, htz]; congr 1; omega
    have hy : (bA t).toList = t := by rw [toList_lA, lA_bA]
    have HB : Hid (((s.extract at_ (at_ + t.length)).toList == (bA t).toList) = startsB s at_ t) := Lib.hid (by
      rw [← htz, hx, hy]; unfold startsB
      by_cases hq : ((lA s).drop at_).take t.length = t
      · rw [hq]; simp
      · rw [decide_eq_false hq]; exact beq_eq_false_iff_ne.2 hq)
    have n1 : ((at_ : Int) + ((bA t).size : Int)).toNat = at_ + (bA t).size := by omega
    generalize bA t = T at *
    generalize startsB s at_ t = b at *
    clear hx hy
    go_enter Tryz.func78, Tryz.ntmps78
    go_wp2_with fail
    go_ret
    exact ⟨ret_bool HB.out, rfl⟩
  · have h1 : ¬ (at_ : Int) + ((bA t).size : Int) ≤ (s.size : Int) := by omega
    have HB := Lib.hid (starts_long h ha)
    generalize bA t = T at *
    go_enter Tryz.func78, Tryz.ntmps78
    go_wp2_with fail
    go_ret
    exact ⟨ret_bool HB.out.symm, rfl⟩
theorem str_any (s : ByteArray) (w : World) : Calls Tryz.prog 34 #[.string s] w fun e w' => e = .returned (.agg #[.int .u8 3, .int .i64 0, .int .i64 0, .bool false, .string s, .slice none 0 0]) ∧ Below w.heap.size w w' := by
  have H6 := Six.new w ⟨3, 0, 0, false, s⟩ (.slice none 0 0)
  have e0 := H6.row.c0
  have e1 := H6.row.c1
  have e2 := H6.row.c2
  have e3 := H6.row.c3
  have e4 := H6.row.c4
  have e5 := H6.row.c5
  simp only [Nat.zero_add] at e1 e2 e3 e4 e5
  clear H6
  go_enter Tryz.func34, Tryz.ntmps34
  go_wp2_with fail
  exact bodyPost_ret (v := .agg #[.int .u8 3, .int .i64 0, .int .i64 0, .bool false, .string s, .slice none 0 0]) (by simp [results, Tryz.results34, go_sem, e0, e1, e2, e3, e4, e5] <;> rfl) rfl ⟨rfl, (Below.refl _ _).alloc (Nat.le_refl _) _⟩
theorem is_any (b : Bool) (w : World) : Calls Tryz.prog 15 #[.bool b] w fun e w' => e = .returned (.agg #[.int .u8 2, .int .i64 0, .int .i64 0, .bool b, .string ⟨#[]⟩, .slice none 0 0]) ∧ Below w.heap.size w w' := by
  have H6 := Six.new w ⟨2, 0, 0, b, ⟨#[]⟩⟩ (.slice none 0 0)
  have e0 := H6.row.c0
  have e1 := H6.row.c1
  have e2 := H6.row.c2
  have e3 := H6.row.c3
  have e4 := H6.row.c4
  have e5 := H6.row.c5
  simp only [Nat.zero_add] at e1 e2 e3 e4 e5
  clear H6
  go_enter Tryz.func15, Tryz.ntmps15
  go_wp2_with fail
  exact bodyPost_ret (v := .agg #[.int .u8 2, .int .i64 0, .int .i64 0, .bool b, .string ⟨#[]⟩, .slice none 0 0]) (by simp [results, Tryz.results15, go_sem, e0, e1, e2, e3, e4, e5] <;> rfl) rfl ⟨rfl, (Below.refl _ _).alloc (Nat.le_refl _) _⟩
theorem of_any (n d : Int) (w : World) : Calls Tryz.prog 33 #[.agg #[.int .i64 n, .int .i64 d]] w fun e w' => e = .returned (.agg #[.int .u8 1, .int .i64 n, .int .i64 d, .bool false, .string ⟨#[]⟩, .slice none 0 0]) ∧ Below w.heap.size w w' := by
  have H6 := (by have := Six.new (w.alloc (.cells #[.int .i64 n, .int .i64 d] 25)) ⟨1, n, d, false, ⟨#[]⟩⟩ (.slice none 0 0); rwa [World.size_alloc] at this : Six ((w.alloc (.cells #[.int .i64 n, .int .i64 d] 25)).alloc (.cells #[.int .u8 1, .int .i64 n, .int .i64 d, .bool false, .string ⟨#[]⟩, .slice none 0 0] 28)) (w.heap.size + 1) ⟨1, n, d, false, ⟨#[]⟩⟩ (.slice none 0 0))
  have e0 := H6.row.c0
  have e1 := H6.row.c1
  have e2 := H6.row.c2
  have e3 := H6.row.c3
  have e4 := H6.row.c4
  have e5 := H6.row.c5
  simp only [Nat.zero_add] at e1 e2 e3 e4 e5
  clear H6
  go_enter Tryz.func33, Tryz.ntmps33
  go_wp2_with fail
  exact bodyPost_ret (v := .agg #[.int .u8 1, .int .i64 n, .int .i64 d, .bool false, .string ⟨#[]⟩, .slice none 0 0]) (by simp [results, Tryz.results33, go_sem, e0, e1, e2, e3, e4, e5] <;> rfl) rfl ⟨rfl, ((Below.refl _ _).alloc (Nat.le_refl _) _).alloc (by simp) _⟩

/-- What the reference's readers hand back. -/
def RfEnd (Q : V → Nat → Bool → Prop) (w : World) (e : Ending) (w' : World) : Prop :=
  ∃ (v : V) (sl : Value) (k : Nat) (ok : Bool), e = .returned (.tuple #[.agg #[.int .u8 v.nd.k, .int .i64 v.nd.n, .int .i64 v.nd.d, .bool v.nd.t, .string v.nd.s, sl], .int .i64 k, .bool ok]) ∧ RepL (w.heap.size ≤ ·) w' v.list sl ∧ Q v k ok ∧ Below w.heap.size w w'
/-- Of a text from a place on. -/
def QStr (s : By) (at_ : Nat) (v : V) (k : Nat) (ok : Bool) : Prop := k ≤ s.length ∧ (ok = true → at_ < k) ∧ PStr (s.drop at_) v (if ok = true then s.drop k else []) ok
theorem get_drop {s : By} {a k : Nat} (h : k < (s.drop a).length) : (s.drop a)[k] = s[a + k]'(by rw [List.length_drop] at h; omega) := by rw [List.getElem_drop]

set_option maxHeartbeats 4000000 in
theorem refquoted_any (s : ByteArray) (hs : s.size ≤ 5000) (at_ : Nat) (ha : at_ < s.size) (w : World) :
    Calls Tryz.prog 79 #[.string s, .int .i64 at_] w (RfEnd (QStr (lA s) (at_ + 1)) w) := by
  have S0 := Lib.hid (Six.new w ⟨0, 0, 0, false, ⟨#[]⟩⟩ (.slice none 0 0))
  have B0 : Hid (Below w.heap.size w (w.alloc (.cells #[.int .u8 0, .int .i64 0, .int .i64 0, .bool false, .string ⟨#[]⟩, .slice none 0 0] 28))) := Lib.hid ((Below.refl _ _).alloc (Nat.le_refl _) _)
  have HD : Hid (((lA s).drop (at_ + 1)).length = s.size - (at_ + 1)) := Lib.hid (by rw [List.length_drop, lA_len])
  go_enter Tryz.func79, Tryz.ntmps79
  go_wp2_with fail
  go_loopw [7, 8] (fun tv iv wr => ∃ (i pos : Nat) (acc : By), tv = .string (bA acc) ∧ iv = .int .i64 i ∧ i ≤ s.size ∧ Hid (i = at_ + 1 + pos) ∧ RsAt ((lA s).drop (at_ + 1)) pos acc false ∧ Six wr w.heap.size ⟨0, 0, 0, false, ⟨#[]⟩⟩ (.slice none 0 0) ∧ Below w.heap.size w wr) (fun _ iv _ => s.size + 10 - (intOf iv).toNat)
  case atStart => exact ⟨at_ + 1, 0, [], rfl, by go_num, by omega, Lib.hid rfl, RsAt.start _, S0.out, B0.out⟩
  case round =>
    obtain ⟨i, pos, acc, rfl, rfl, hpos, HIx, hA, hS, hB⟩ := hrel
    have HA := Lib.hid hA
    have HS := Lib.hid hS
    have HB := Lib.hid hB
    have l1 := hS.lt
    have q0 := hS.row.c0
    have q1 := hS.row.c1
    have q2 := hS.row.c2
    have q3 := hS.row.c3
    have q4 := hS.row.c4
    have q5 := hS.row.c5
    have f0 := hS.free 0
    have f1 := hS.free 1
    have f2 := hS.free 2
    have f3 := hS.free 3
    have f4 := hS.free 4
    have f5 := hS.free 5
    simp only [Nat.zero_add] at q1 q2 q3 q4 q5
    have hlen : acc.length ≤ 100000 := by have := hA.len; have := hA.bnd; rw [HD.out] at this; omega
    clear hA hS hB S0 B0
    by_cases hp : i < s.size
    · have hp' : pos < ((lA s).drop (at_ + 1)).length := by rw [HD.out]; have := HIx.out; omega
      have HC0 : Hid (((lA s).drop (at_ + 1))[pos] = s[i]) := Lib.hid (by
        rw [get_drop]
        have e : (lA s)[at_ + 1 + pos]'(by rw [lA_len]; have := HIx.out; omega) = (lA s)[i]'(by rw [lA_len]; exact hp) := getElem_congr_idx HIx.out.symm
        rw [e]; rfl)
      obtain ⟨c, hc⟩ : ∃ c, c = s[i] := ⟨_, rfl⟩
      have HC := HC0
      rw [← hc] at HC
      have HU1 : Hid (c = 34 ↔ ((c.toNat : Nat) : Int) = 34) := Lib.hid ⟨fun h => by subst h; rfl, fun h => UInt8.toNat_inj.1 (by show c.toNat = 34; omega)⟩
      have HU2 : Hid (c = 92 ↔ ((c.toNat : Nat) : Int) = 92) := Lib.hid ⟨fun h => by subst h; rfl, fun h => UInt8.toNat_inj.1 (by show c.toNat = 92; omega)⟩
      have hac := bA_size acc
      have i0 : (0 : Int) ≤ (i : Int) := by omega
      have i1 : (i : Int) < (s.size : Int) := by omega
      have i2 : ((i : Int)).toNat = i := by omega
      clear HC0
      by_cases z1 : ((c.toNat : Nat) : Int) = 34
      · have HP0 := HA.out.quote hp' (HC.out.trans (HU1.out.2 z1))
        rw [List.drop_drop] at HP0
        have HP : Hid (PStr ((lA s).drop (at_ + 1)) (strV acc) (if true = true then (lA s).drop (i + 1) else []) true) := Lib.hid (by
          rw [if_pos rfl]
          have e : at_ + 1 + (pos + 1) = i + 1 := by have := HIx.out; omega
          rwa [e] at HP0)
        clear HP0
        rw [hc] at z1
        go_wp2_with fail
        refine (str_any _ _).mono ?_
        rintro e w1 ⟨rfl, hb1⟩
        have S1 := Lib.hid (HS.out.later hb1)
        have HB1 := Lib.hid (HB.out.trans (hb1.mono HB.out.size))
        clear hb1 q0 q1 q2 q3 q4 q5 f0 f1 f2 f3 f4 f5 l1
        have l1 := S1.out.lt
        have q0 := S1.out.row.c0
        have q1 := S1.out.row.c1
        have q2 := S1.out.row.c2
        have q3 := S1.out.row.c3
        have q4 := S1.out.row.c4
        have q5 := S1.out.row.c5
        have f0 := S1.out.free 0
        have f1 := S1.out.free 1
        have f2 := S1.out.free 2
        have f3 := S1.out.free 3
        have f4 := S1.out.free 4
        have f5 := S1.out.free 5
        simp only [Nat.zero_add] at q1 q2 q3 q4 q5
        go_wp2_with fail
        have H6 := sixSet_six S1.out ⟨3, 0, 0, false, bA acc⟩ (.slice none 0 0)
        have HBw := sixSet_below (a := ⟨3, 0, 0, false, bA acc⟩) (sl := .slice none 0 0) HB1.out (Nat.le_refl _)
        unfold sixSet at H6 HBw
        have e0 := H6.row.c0
        have e1 := H6.row.c1
        have e2 := H6.row.c2
        have e3 := H6.row.c3
        have e4 := H6.row.c4
        have e5 := H6.row.c5
        simp only [Nat.zero_add] at e1 e2 e3 e4 e5
        exact bodyPost_ret (v := .tuple #[.agg #[.int .u8 3, .int .i64 0, .int .i64 0, .bool false, .string (bA acc), .slice none 0 0], .int .i64 ((i : Int) + 1), .bool true]) (by simp [results, Tryz.results79, go_sem, q0, q1, q2, q3, q4, q5, l1, e0, e1, e2, e3, e4, e5] <;> rfl) rfl ⟨strV acc, .slice none 0 0, i + 1, true, by simp [strV], RepL.nil _ _ _ _, ⟨by rw [lA_len]; omega, fun _ => by have := HIx.out; omega, HP.out⟩, HBw⟩
      · by_cases z2 : ((c.toNat : Nat) : Int) = 92
        · have HBk := Lib.hid (HA.out.back hp' (HC.out.trans (HU2.out.2 z2)))
          have z3 := beq_eq_false_iff_ne.2 z1
          have z4 : (((c.toNat : Nat) : Int) == 92) = true := by rw [z2]; rfl
          rw [hc] at z1 z2 z3 z4
          by_cases hn : i + 1 < s.size
          · have hq : pos + 1 < ((lA s).drop (at_ + 1)).length := by rw [HD.out]; have := HIx.out; omega
            have HC2 : Hid (((lA s).drop (at_ + 1))[pos + 1] = s[i + 1]) := Lib.hid (by
              rw [get_drop]
              have e : (lA s)[at_ + 1 + (pos + 1)]'(by rw [lA_len]; have := HIx.out; omega) = (lA s)[i + 1]'(by rw [lA_len]; exact hn) := getElem_congr_idx (by have := HIx.out; omega)
              rw [e]; rfl)
            obtain ⟨d, hd⟩ : ∃ d, d = s[i + 1] := ⟨_, rfl⟩
            rw [← hd] at HC2
            have HU3 : Hid (d = 34 ↔ ((d.toNat : Nat) : Int) = 34) := Lib.hid ⟨fun h => by subst h; rfl, fun h => UInt8.toNat_inj.1 (by show d.toNat = 34; omega)⟩
            have HU4 : Hid (d = 92 ↔ ((d.toNat : Nat) : Int) = 92) := Lib.hid ⟨fun h => by subst h; rfl, fun h => UInt8.toNat_inj.1 (by show d.toNat = 92; omega)⟩
            have j1 : (i : Int) + 1 < (s.size : Int) := by omega
            have j2 : ((i : Int) + 1).toNat = i + 1 := by omega
            have j3 : (0 : Int) ≤ (i : Int) + 1 := by omega
            by_cases y : ((d.toNat : Nat) : Int) = 34 ∨ ((d.toNat : Nat) : Int) = 92
            · have HR := Lib.hid (HBk.out.take hq ⟨fun _ => by rw [HC2.out]; exact y.imp HU3.out.2 HU4.out.2, fun _ => rfl⟩)
              rw [HC2.out] at HR
              have hx : s.extract (i + 1) (i + 1 + 1) = bA [d] := by rw [extract_one hn, hd]
              have HX : Hid (bA acc ++ s.extract (i + 1) (i + 1 + 1) = bA (acc ++ [d])) := Lib.hid (by rw [hx, bA_app])
              have hxs : (s.extract (i + 1) (i + 1 + 1)).size = 1 := by rw [hx, bA_size]; rfl
              rw [hd] at y
              have y3 : ((((s[i + 1]).toNat : Nat) : Int) == 34 || (((s[i + 1]).toNat : Nat) : Int) == 92) = true := by rcases y with e | e <;> rw [e] <;> rfl
              obtain ⟨X, hX⟩ : ∃ X, bA acc = X := ⟨_, rfl⟩
              rw [hX] at HX hac ⊢
              have w1 : ¬ 9223372036854775807 < X.size + 1 := by omega
              have w2 : ¬ (9223372036854775807 : Int) < (X.size : Int) + 1 := by omega
              clear hx hX hd hc
              rcases y with y | y
              all_goals
                have y5 := y
                clear y
                go_wp2_with fail
                go_roundw
                case rel => exact ⟨i + 1 + 1, pos + 1 + 1, acc ++ [d], by rw [HX.out], by go_num, by omega, Lib.hid (by have := HIx.out; omega), HR.out, HS.out, HB.out⟩
                case measure => simp [intOf]; omega
            · have y1 : ¬ ((d.toNat : Nat) : Int) = 34 := fun e => y (.inl e)
              have y2 : ¬ ((d.toNat : Nat) : Int) = 92 := fun e => y (.inr e)
              have HP := Lib.hid (HBk.out.bad hq (fun e => by rw [HC2.out] at e; exact y (e.imp HU3.out.1 HU4.out.1)))
              have y3 := beq_eq_false_iff_ne.2 y1
              have y4 := beq_eq_false_iff_ne.2 y2
              rw [hd] at y1 y2 y3 y4
              clear y hc hd
              go_wp2_with fail
              have H6 := sixSet_six HS.out ⟨0, 0, 0, false, ⟨#[]⟩⟩ (.slice none 0 0)
              have HBw := sixSet_below (a := ⟨0, 0, 0, false, ⟨#[]⟩⟩) (sl := .slice none 0 0) HB.out (Nat.le_refl _)
              unfold sixSet at H6 HBw
              have e0 := H6.row.c0
              have e1 := H6.row.c1
              have e2 := H6.row.c2
              have e3 := H6.row.c3
              have e4 := H6.row.c4
              have e5 := H6.row.c5
              simp only [Nat.zero_add] at e1 e2 e3 e4 e5
              exact bodyPost_ret (v := .tuple #[.agg #[.int .u8 0, .int .i64 0, .int .i64 0, .bool false, .string ⟨#[]⟩, .slice none 0 0], .int .i64 0, .bool false]) (by simp [results, Tryz.results79, go_sem, q0, q1, q2, q3, q4, q5, l1, e0, e1, e2, e3, e4, e5] <;> rfl) rfl ⟨zerV, .slice none 0 0, 0, false, rfl, RepL.nil _ _ _ _, ⟨Nat.zero_le _, fun e => by simp at e, HP.out⟩, HBw⟩
          · have HP := Lib.hid (HBk.out.ended (by rw [HD.out]; have := HIx.out; omega))
            have j1 : ¬ (i : Int) + 1 < (s.size : Int) := by omega
            clear hc
            go_wp2_with fail
            have H6 := sixSet_six HS.out ⟨0, 0, 0, false, ⟨#[]⟩⟩ (.slice none 0 0)
            have HBw := sixSet_below (a := ⟨0, 0, 0, false, ⟨#[]⟩⟩) (sl := .slice none 0 0) HB.out (Nat.le_refl _)
            unfold sixSet at H6 HBw
            have e0 := H6.row.c0
            have e1 := H6.row.c1
            have e2 := H6.row.c2
            have e3 := H6.row.c3
            have e4 := H6.row.c4
            have e5 := H6.row.c5
            simp only [Nat.zero_add] at e1 e2 e3 e4 e5
            exact bodyPost_ret (v := .tuple #[.agg #[.int .u8 0, .int .i64 0, .int .i64 0, .bool false, .string ⟨#[]⟩, .slice none 0 0], .int .i64 0, .bool false]) (by simp [results, Tryz.results79, go_sem, q0, q1, q2, q3, q4, q5, l1, e0, e1, e2, e3, e4, e5] <;> rfl) rfl ⟨zerV, .slice none 0 0, 0, false, rfl, RepL.nil _ _ _ _, ⟨Nat.zero_le _, fun e => by simp at e, HP.out⟩, HBw⟩
        · have HR := Lib.hid (HA.out.take hp' ⟨fun e => by simp at e, fun e => by rw [HC.out] at e; exact (e.elim (fun e => z1 (HU1.out.1 e)) fun e => z2 (HU2.out.1 e)).elim⟩)
          rw [HC.out] at HR
          have z3 := beq_eq_false_iff_ne.2 z1
          have z4 := beq_eq_false_iff_ne.2 z2
          have hx : s.extract i (i + 1) = bA [c] := by rw [extract_one hp, hc]
          have HX : Hid (bA acc ++ s.extract i (i + 1) = bA (acc ++ [c])) := Lib.hid (by rw [hx, bA_app])
          have hxs : (s.extract i (i + 1)).size = 1 := by rw [hx, bA_size]; rfl
          rw [hc] at z1 z2 z3 z4
          obtain ⟨X, hX⟩ : ∃ X, bA acc = X := ⟨_, rfl⟩
          rw [hX] at HX hac ⊢
          have w1 : ¬ 9223372036854775807 < X.size + 1 := by omega
          have w2 : ¬ (9223372036854775807 : Int) < (X.size : Int) + 1 := by omega
          clear hx hX hc
          go_wp2_with fail
          go_roundw
          case rel => exact ⟨i + 1, pos + 1, acc ++ [c], by rw [HX.out], by go_num, by omega, Lib.hid (by have := HIx.out; omega), HR.out, HS.out, HB.out⟩
          case measure => simp [intOf]; omega
    · have HP := Lib.hid (HA.out.ended (by rw [HD.out]; have := HIx.out; omega))
      have i1 : ¬ (i : Int) < (s.size : Int) := by omega
      go_wp2_with fail
      have H6 := sixSet_six HS.out ⟨0, 0, 0, false, ⟨#[]⟩⟩ (.slice none 0 0)
      have HBw := sixSet_below (a := ⟨0, 0, 0, false, ⟨#[]⟩⟩) (sl := .slice none 0 0) HB.out (Nat.le_refl _)
      unfold sixSet at H6 HBw
      have e0 := H6.row.c0
      have e1 := H6.row.c1
      have e2 := H6.row.c2
      have e3 := H6.row.c3
      have e4 := H6.row.c4
      have e5 := H6.row.c5
      simp only [Nat.zero_add] at e1 e2 e3 e4 e5
      exact bodyPost_ret (v := .tuple #[.agg #[.int .u8 0, .int .i64 0, .int .i64 0, .bool false, .string ⟨#[]⟩, .slice none 0 0], .int .i64 0, .bool false]) (by simp [results, Tryz.results79, go_sem, q0, q1, q2, q3, q4, q5, l1, e0, e1, e2, e3, e4, e5] <;> rfl) rfl ⟨zerV, .slice none 0 0, 0, false, rfl, RepL.nil _ _ _ _, ⟨Nat.zero_le _, fun e => by simp at e, HP.out⟩, HBw⟩
end Go.Proofs.YtakjgjhjndiggaaGreatDoor
