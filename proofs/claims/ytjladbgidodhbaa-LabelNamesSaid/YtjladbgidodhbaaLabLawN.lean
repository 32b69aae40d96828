/-
  LabelNames, walked.
-/
import Derived.Test.YtjladbgidodhbaaLabAlive
namespace Go.Proofs.Ytjladbgidodhbaa
open Go.RowKit Go.Shelf
open LM
set_option linter.unusedVariables false
set_option linter.unusedSimpArgs false
attribute [local go_sem] Oper.semAt_some

set_option maxRecDepth 100000
def repL (s : Bs) : Nat → Bs
  | 0 => []
  | k + 1 => repL s k ++ s
theorem repL_len (s : Bs) : ∀ k, (repL s k).length = k * s.length
  | 0 => by simp [repL]
  | k + 1 => by rw [repL, List.length_append, repL_len s k, Nat.succ_mul]
set_option maxHeartbeats 1000000 in
theorem reflong_any (s : Bs) (n : Nat) (hn : n ≤ 100000) (hs : s.length ≤ 2) (w : World) : Calls Try.prog 30 #[.string (bA s), .int .i64 n] w fun e w' => e = .returned (.string (bA (repL s n))) ∧ w = w' := by
  have hs2 : (bA s).size ≤ 2 := by rw [bA_size]; exact hs
  go_enter Try.func30, Try.ntmps30
  go_wp2_with fail
  go_loop [5, 6] (fun o i => ∃ (k : Nat) (l : Bs), k ≤ n ∧ o = .string (bA l) ∧ i = .int .i64 k ∧ l = repL s k) (fun _ i => n - (intOf i).toNat)
  case atStart => exact ⟨0, [], Nat.zero_le _, rfl, rfl, rfl⟩
  case round =>
    obtain ⟨k, l, hk, rfl, rfl, hl⟩ := hrel
    have HL := Lib.hid hl
    have hz : (bA l).size ≤ 200000 := by
      rw [bA_size, hl, repL_len]
      have : k * s.length ≤ k * 2 := Nat.mul_le_mul (Nat.le_refl _) hs
      omega
    clear hl
    by_cases hlt : k < n
    · go_wp2_with fail
      go_round
      case rel => exact ⟨k + 1, l ++ s, by omega, by rw [bA_app], by go_num, by rw [repL, HL.out]⟩
      case measure => simp [intOf]; omega
    · obtain rfl : k = n := by omega
      go_wp2_with fail
      go_ret
      exact ⟨ret_str (by rw [HL.out]), rfl⟩
theorem row_lit (w : World) (t : TypeId) (xs : List Bs) (cs : Array Value) (hcs : cs = (xs.map sV).toArray) (n : Nat) (hn : xs.length = n) (hle : n ≤ maxLen) : Row (w.alloc (.cells cs t)) w.heap.size n xs := by
  subst hcs hn
  have hb := heap_alloc_new w (.cells (xs.map sV).toArray t)
  refine ⟨fun k hk => ?_, Nat.le_refl _, hle, by simp⟩
  rw [cell_of_row _ _ k _ _ (0, 0) hb]
  simp [hk]
set_option maxHeartbeats 4000000 in
theorem names_main (fA wA lA0 : ByteArray) (xw : Bs) (hxw : sV xw = .string (wA ++ ⟨#[97]⟩)) (hf : fA.size ≤ 1000) (hw : wA.size ≤ 1000) (hll : (4000 : Int) ≤ lA0.size) (hlm : lA0.size ≤ 5000)
    (hfo : ∀ x ∈ ([[47], [97, 47], [47, 97], [97, 47, 47, 98], [97, 91], [97, 91, 93], [97, 91, 48, 49, 93], [97, 91, 49, 48, 48, 48, 48, 93], [97, 91, 49, 93, 98], [97, 91, 45, 49, 93], [91, 49, 93], [97, 32, 98], xw] : List Bs), ∀ w, Len w → Calls Try.prog 19 #[.string (bA x)] w fun e w' => e = .returned (.int .i64 12) ∧ Below w.heap.size w w')
    (hlf : (∀ w, Calls Try.prog 30 #[.string ⟨#[97, 47]⟩, .int .i64 39] w fun e w' => e = .returned (.string fA) ∧ w = w'))
    (hj1 : (∀ w, Len w → Calls Try.prog 22 #[.string (fA ++ ⟨#[97]⟩), .string ⟨#[97]⟩] w fun e w' => e = .returned (.tuple #[.string ByteArray.empty, .int .i64 4]) ∧ Below w.heap.size w w'))
    (hp1 : (∀ w, Len w → Calls Try.prog 13 #[.string ByteArray.empty] w fun e w' => e = .returned (.tuple #[.string ByteArray.empty, .int .i64 6]) ∧ Below w.heap.size w w'))
    (hl1 : (∀ w, Len w → Calls Try.prog 15 #[.string ByteArray.empty] w fun e w' => e = .returned (.tuple #[.string ByteArray.empty, .int .i64 0, .int .i64 6]) ∧ Below w.heap.size w w'))
    (hj2 : (∀ w, Len w → Calls Try.prog 22 #[.string ⟨#[97]⟩, .string ⟨#[66]⟩] w fun e w' => e = .returned (.tuple #[.string ByteArray.empty, .int .i64 12]) ∧ Below w.heap.size w w'))
    (hj3 : (∀ w, Len w → Calls Try.prog 22 #[.string ⟨#[97]⟩, .string ⟨#[98, 47, 99]⟩] w fun e w' => e = .returned (.tuple #[.string ByteArray.empty, .int .i64 12]) ∧ Below w.heap.size w w'))
    (hlw : (∀ w, Calls Try.prog 30 #[.string ⟨#[97]⟩, .int .i64 40] w fun e w' => e = .returned (.string wA) ∧ w = w'))
    (hj4 : (∀ w, Len w → Calls Try.prog 22 #[.string ByteArray.empty, .string (wA ++ ⟨#[91, 57, 57, 57, 57, 93]⟩)] w fun e w' => e = .returned (.tuple #[.string (wA ++ ⟨#[91, 57, 57, 57, 57, 93]⟩), .int .i64 0]) ∧ Below w.heap.size w w'))
    (hs1 : (∀ w, Len w → Calls Try.prog 11 #[.string ByteArray.empty] w fun e w' => (∃ a cap, e = .returned (.tuple #[.slice a 0 cap, .int .i64 0]) ∧ Sl w' a cap []) ∧ Below w.heap.size w w'))
    (hll : (∀ w, Calls Try.prog 30 #[.string ⟨#[97]⟩, .int .i64 4001] w fun e w' => e = .returned (.string lA0) ∧ w = w'))
    (hc1 : (∀ w, Len w → Calls Try.prog 19 #[.string (fA ++ ⟨#[97]⟩)] w fun e w' => e = .returned (.int .i64 0) ∧ Below w.heap.size w w'))
    (hc2 : (∀ w, Len w → Calls Try.prog 19 #[.string (fA ++ ⟨#[97]⟩ ++ ⟨#[47, 97]⟩)] w fun e w' => e = .returned (.int .i64 4) ∧ Below w.heap.size w w'))
    (hc3 : (∀ w, Len w → Calls Try.prog 19 #[.string lA0] w fun e w' => e = .returned (.int .i64 4) ∧ Below w.heap.size w w'))
    (hc4 : (∀ w, Len w → Calls Try.prog 19 #[.string (lA0.extract 0 4000)] w fun e w' => e = .returned (.int .i64 12) ∧ Below w.heap.size w w'))
    (hn1 : (∀ w, Calls Try.prog 17 #[.string ByteArray.empty] w fun e w' => e = .returned (.bool false) ∧ Below w.heap.size w w'))
    (hn2 : (∀ w, Calls Try.prog 17 #[.string ⟨#[57, 97]⟩] w fun e w' => e = .returned (.bool false) ∧ Below w.heap.size w w'))
    (hn3 : (∀ w, Calls Try.prog 17 #[.string wA] w fun e w' => e = .returned (.bool true) ∧ Below w.heap.size w w'))
    (hn4 : (∀ w, Calls Try.prog 17 #[.string (wA ++ ⟨#[97]⟩)] w fun e w' => e = .returned (.bool false) ∧ Below w.heap.size w w')) (w : World) (hl : Len w) : Calls Try.prog 5 #[] w fun e w' => e = .returned (.bool true) ∧ Below w.heap.size w w' := by
  obtain ⟨xs, hxs⟩ : ∃ xs : List Bs, xs = [[47], [97, 47], [47, 97], [97, 47, 47, 98], [97, 91], [97, 91, 93], [97, 91, 48, 49, 93], [97, 91, 49, 48, 48, 48, 48, 93], [97, 91, 49, 93, 98], [97, 91, 45, 49, 93], [91, 49, 93], [97, 32, 98], xw] := ⟨_, rfl⟩
  rw [← hxs] at hfo
  have HFo := Lib.hid hfo
  have HN : Hid (xs.length = 13) := Lib.hid (by rw [hxs]; rfl)
  have HC : Hid (#[.string ⟨#[47]⟩, .string ⟨#[97, 47]⟩, .string ⟨#[47, 97]⟩, .string ⟨#[97, 47, 47, 98]⟩, .string ⟨#[97, 91]⟩, .string ⟨#[97, 91, 93]⟩, .string ⟨#[97, 91, 48, 49, 93]⟩, .string ⟨#[97, 91, 49, 48, 48, 48, 48, 93]⟩, .string ⟨#[97, 91, 49, 93, 98]⟩, .string ⟨#[97, 91, 45, 49, 93]⟩, .string ⟨#[91, 49, 93]⟩, .string ⟨#[97, 32, 98]⟩, .string (wA ++ ⟨#[97]⟩)] = (xs.map sV).toArray) := Lib.hid (by rw [hxs]; simp only [List.map_cons, List.map_nil, hxw]; rfl)
  have Klf := Lib.hid hlf
  have Kj1 := Lib.hid hj1
  have Kp1 := Lib.hid hp1
  have Kl1 := Lib.hid hl1
  have Kj2 := Lib.hid hj2
  have Kj3 := Lib.hid hj3
  have Klw := Lib.hid hlw
  have Kj4 := Lib.hid hj4
  have Ks1 := Lib.hid hs1
  have Kll := Lib.hid hll
  have Kc1 := Lib.hid hc1
  have Kc2 := Lib.hid hc2
  have Kc3 := Lib.hid hc3
  have Kc4 := Lib.hid hc4
  have Kn1 := Lib.hid hn1
  have Kn2 := Lib.hid hn2
  have Kn3 := Lib.hid hn3
  have Kn4 := Lib.hid hn4
  have B0 := Lib.hid (Below.refl w.heap.size w)
  have L_0 := Lib.hid hl
  clear hl hfo hxs hxw hlf hj1 hp1 hl1 hj2 hj3 hlw hj4 hs1 hll hc1 hc2 hc3 hc4 hn1 hn2 hn3 hn4
  go_enter Try.func5, Try.ntmps5
  go_wp2_with fail
  refine (Klf.out _).mono ?_
  rintro e ws1 ⟨rfl, rfl⟩
  go_wp2_with fail
  refine (Kj1.out _ L_0.out).mono ?_
  rintro e w1 ⟨rfl, hb⟩
  have B1 := Lib.hid (B0.out.trans (hb.mono B0.out.size))
  have L_1 := Lib.hid (L_0.out.later hb)
  clear hb B0 L_0
  go_wp2_with fail
  refine (Kp1.out _ L_1.out).mono ?_
  rintro e w2 ⟨rfl, hb⟩
  have B2 := Lib.hid (B1.out.trans (hb.mono B1.out.size))
  have L_2 := Lib.hid (L_1.out.later hb)
  clear hb B1 L_1
  go_wp2_with fail
  refine (Kl1.out _ L_2.out).mono ?_
  rintro e w3 ⟨rfl, hb⟩
  have B3 := Lib.hid (B2.out.trans (hb.mono B2.out.size))
  have L_3 := Lib.hid (L_2.out.later hb)
  clear hb B2 L_2
  go_wp2_with fail
  refine (Kj2.out _ L_3.out).mono ?_
  rintro e w4 ⟨rfl, hb⟩
  have B4 := Lib.hid (B3.out.trans (hb.mono B3.out.size))
  have L_4 := Lib.hid (L_3.out.later hb)
  clear hb B3 L_3
  go_wp2_with fail
  refine (Kj3.out _ L_4.out).mono ?_
  rintro e w5 ⟨rfl, hb⟩
  have B5 := Lib.hid (B4.out.trans (hb.mono B4.out.size))
  have L_5 := Lib.hid (L_4.out.later hb)
  clear hb B4 L_4
  go_wp2_with fail
  refine (Klw.out _).mono ?_
  rintro e ws6 ⟨rfl, rfl⟩
  go_wp2_with fail
  refine (Kj4.out _ L_5.out).mono ?_
  rintro e w6 ⟨rfl, hb⟩
  have B6 := Lib.hid (B5.out.trans (hb.mono B5.out.size))
  have L_6 := Lib.hid (L_5.out.later hb)
  clear hb B5 L_5
  go_wp2_with fail
  refine (Ks1.out _ L_6.out).mono ?_
  rintro e w7 ⟨⟨a, cap, rfl, hS⟩, hb⟩
  have B7 := Lib.hid (B6.out.trans (hb.mono B6.out.size))
  have L_7 := Lib.hid (L_6.out.later hb)
  clear hS hb B6 L_6
  go_wp2_with fail
  have R0 := Lib.hid (row_lit w7 9 xs _ HC.out 13 HN.out (by decide))
  have BB := Lib.hid ((Below.refl _ w7).alloc (Nat.le_refl _) (.cells #[.string ⟨#[47]⟩, .string ⟨#[97, 47]⟩, .string ⟨#[47, 97]⟩, .string ⟨#[97, 47, 47, 98]⟩, .string ⟨#[97, 91]⟩, .string ⟨#[97, 91, 93]⟩, .string ⟨#[97, 91, 48, 49, 93]⟩, .string ⟨#[97, 91, 49, 48, 48, 48, 48, 93]⟩, .string ⟨#[97, 91, 49, 93, 98]⟩, .string ⟨#[97, 91, 45, 49, 93]⟩, .string ⟨#[91, 49, 93]⟩, .string ⟨#[97, 32, 98]⟩, .string (wA ++ ⟨#[97]⟩)] 9))
  obtain ⟨wf, hwf⟩ : ∃ x, x = w7.alloc (.cells #[.string ⟨#[47]⟩, .string ⟨#[97, 47]⟩, .string ⟨#[47, 97]⟩, .string ⟨#[97, 47, 47, 98]⟩, .string ⟨#[97, 91]⟩, .string ⟨#[97, 91, 93]⟩, .string ⟨#[97, 91, 48, 49, 93]⟩, .string ⟨#[97, 91, 49, 48, 48, 48, 48, 93]⟩, .string ⟨#[97, 91, 49, 93, 98]⟩, .string ⟨#[97, 91, 45, 49, 93]⟩, .string ⟨#[91, 49, 93]⟩, .string ⟨#[97, 32, 98]⟩, .string (wA ++ ⟨#[97]⟩)] 9) := ⟨_, rfl⟩
  rw [← hwf] at R0 BB ⊢
  clear hwf
  have B8 := Lib.hid (B7.out.trans (BB.out.mono B7.out.size))
  have L_8 := Lib.hid (L_7.out.later BB.out)
  obtain ⟨g, hg⟩ : ∃ g, g = w7.heap.size := ⟨_, rfl⟩
  rw [← hg] at R0 ⊢
  clear BB hg B7 L_7
  go_loopw [19] (fun iv wr => ∃ k : Nat, k ≤ 13 ∧ iv = .int .i64 k ∧ Below wf.heap.size wf wr) (fun iv _ => 13 - (intOf iv).toNat)
  case atStart => exact ⟨0, Nat.zero_le _, rfl, Below.refl _ _⟩
  case round =>
    obtain ⟨k, hk, rfl, hB⟩ := hrel
    have HB := Lib.hid hB
    clear hB
    by_cases hlt : k < 13
    · have hlx : k < xs.length := by rw [HN.out]; exact hlt
      have hR := R0.out.later HB.out
      have c0 := hR.at k hlx
      have hK := HFo.out _ (List.getElem_mem hlx)
      have glt := hR.lt
      obtain ⟨x, hx⟩ : ∃ x, xs[k] = x := ⟨_, rfl⟩
      rw [hx] at c0 hK
      have K1 := Lib.hid hK
      have LW := Lib.hid (L_8.out.later HB.out)
      have k0 : (0 : Int) ≤ k := by omega
      have k1 : (k : Int) < 13 := by omega
      clear hR hx hK
      go_wp2_with fail
      refine (K1.out _ LW.out).mono ?_
      rintro e v1 ⟨rfl, hb⟩
      have HB1 := Lib.hid (HB.out.trans (hb.mono HB.out.size))
      clear hb
      go_wp2_with fail
      go_roundw
      case rel => exact ⟨k + 1, by omega, by go_num, HB1.out⟩
      case measure => simp [intOf]; omega
    · obtain rfl : k = 13 := by omega
      have B9 := Lib.hid (B8.out.trans (HB.out.mono B8.out.size))
      have L_9 := Lib.hid (L_8.out.later HB.out)
      clear HB B8 L_8
      go_wp2_with fail
      refine (Kll.out _).mono ?_
      rintro e ws10 ⟨rfl, rfl⟩
      go_wp2_with fail
      refine (alive_any _ L_9.out).mono ?_
      rintro e w10 ⟨rfl, hb⟩
      have B10 := Lib.hid (B9.out.trans (hb.mono B9.out.size))
      have L_10 := Lib.hid (L_9.out.later hb)
      clear hb B9 L_9
      go_wp2_with fail
      refine (Kc1.out _ L_10.out).mono ?_
      rintro e w11 ⟨rfl, hb⟩
      have B11 := Lib.hid (B10.out.trans (hb.mono B10.out.size))
      have L_11 := Lib.hid (L_10.out.later hb)
      clear hb B10 L_10
      go_wp2_with fail
      refine (Kc2.out _ L_11.out).mono ?_
      rintro e w12 ⟨rfl, hb⟩
      have B12 := Lib.hid (B11.out.trans (hb.mono B11.out.size))
      have L_12 := Lib.hid (L_11.out.later hb)
      clear hb B11 L_11
      go_wp2_with fail
      refine (Kc3.out _ L_12.out).mono ?_
      rintro e w13 ⟨rfl, hb⟩
      have B13 := Lib.hid (B12.out.trans (hb.mono B12.out.size))
      have L_13 := Lib.hid (L_12.out.later hb)
      clear hb B12 L_12
      go_wp2_with fail
      refine (Kc4.out _ L_13.out).mono ?_
      rintro e w14 ⟨rfl, hb⟩
      have B14 := Lib.hid (B13.out.trans (hb.mono B13.out.size))
      have L_14 := Lib.hid (L_13.out.later hb)
      clear hb B13 L_13
      go_wp2_with fail
      refine (Kn1.out _).mono ?_
      rintro e w15 ⟨rfl, hb⟩
      have B15 := Lib.hid (B14.out.trans (hb.mono B14.out.size))
      have L_15 := Lib.hid (L_14.out.later hb)
      clear hb B14 L_14
      go_wp2_with fail
      refine (Kn2.out _).mono ?_
      rintro e w16 ⟨rfl, hb⟩
      have B16 := Lib.hid (B15.out.trans (hb.mono B15.out.size))
      have L_16 := Lib.hid (L_15.out.later hb)
      clear hb B15 L_15
      go_wp2_with fail
      refine (Kn3.out _).mono ?_
      rintro e w17 ⟨rfl, hb⟩
      have B17 := Lib.hid (B16.out.trans (hb.mono B16.out.size))
      have L_17 := Lib.hid (L_16.out.later hb)
      clear hb B16 L_16
      go_wp2_with fail
      refine (Kn4.out _).mono ?_
      rintro e w18 ⟨rfl, hb⟩
      have B18 := Lib.hid (B17.out.trans (hb.mono B17.out.size))
      have L_18 := Lib.hid (L_17.out.later hb)
      clear hb B17 L_17
      go_wp2_with fail
      go_ret
      exact ⟨rfl, B18.out⟩
end Go.Proofs.Ytjladbgidodhbaa
