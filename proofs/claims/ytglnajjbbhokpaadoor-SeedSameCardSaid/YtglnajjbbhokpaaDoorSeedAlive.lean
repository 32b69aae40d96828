/-
  The chapter's examples, as the laws ask for them.
-/
import Derived.Test.YtglnajjbbhokpaaDoorSeedOrdB
namespace Go.Proofs.YtglnajjbbhokpaaDoor
open Go.RowKit
open SM
set_option linter.unusedVariables false
set_option linter.unusedSimpArgs false

theorem of_named (s : Int) (x : ByteArray) (hx : x.size ≤ 100) : ∃ a : Nat, a = ofN s (lA x) ∧ ∀ w, Calls Tryd.prog 17 #[.int .i64 s, .string x] w fun e w' => e = .returned (.int .u64 a) ∧ w = w' :=
  ⟨_, rfl, fun w => of_any s x (by omega) w⟩
theorem ne_int {a b : Nat} (h : a ≠ b) : ((a : Int) != (b : Int)) = true := by rw [bne_iff_ne]; omega
theorem i64_one : -9223372036854775808 ≤ (1 : Int) ∧ (1 : Int) ≤ 9223372036854775807 := by omega
theorem i64_two : -9223372036854775808 ≤ (2 : Int) ∧ (2 : Int) ≤ 9223372036854775807 := by omega
theorem order_one (w : World) (ht : Tab w) : Calls Tryd.prog 12 #[.int .i64 5, .string ⟨#[120]⟩, .int .i64 1] w fun e w' =>
    ∃ b off cap, e = .returned (.tuple #[.slice (some ⟨b, off, none⟩) 1 cap, .int .i64 0]) ∧ w'.cell? ⟨b, off, none⟩ = some (.int .i64 0) ∧ Below w.heap.size w w' := by
  refine (order_any 5 ⟨#[120]⟩ (by decide) 1 w ht).mono ?_
  rintro e w' (⟨hn, _⟩ | ⟨_, q, cap, he, hb, hi⟩)
  · simp [oOk] at hn
  · have hl : castL (ordN (ordF 5 (lA ⟨#[120]⟩)) (1 : Int).toNat) = [0] := by
      show castL (ordN _ 1) = [0]
      rfl
    rw [hl] at hi
    obtain ⟨b, off, cap', hv, hc, _⟩ := hi.at (k := 0) (by simp)
    have he' := he
    rw [show (.slice q (1 : Int).toNat cap : Value) = .slice (some ⟨b, off, none⟩) 1 cap' from hv] at he'
    exact ⟨b, off, cap', he', hc, hb⟩
def wantL : List Int := [0, 2, 2, 0, 2, 2]
theorem want_at (k : Nat) (h : k < 6) : pkI [1, 0, 2] k = wantL.getD k 0 ∧ pkE [1, 0, 2] = 0 := by
  have : ∀ k : Fin 6, pkI [1, 0, 2] k.1 = wantL.getD k.1 0 ∧ pkE [1, 0, 2] = 0 := by decide +kernel
  exact this ⟨k, h⟩
theorem draw_one (w : World) : Calls Tryd.prog 9 #[.int .i64 (-3), .string ⟨#[97, 47, 98]⟩, .int .i64 1] w fun e w' => e = .returned (.tuple #[.int .i64 0, .int .i64 0]) ∧ w = w' := by
  refine (draw_any (-3) ⟨#[97, 47, 98]⟩ (by decide) 1 w).mono ?_
  rintro e w' ⟨he, rfl⟩
  have h := drI_lt (n := 1) rfl (ofN (-3) (lA ⟨#[97, 47, 98]⟩))
  have h0 : drI (ofN (-3) (lA ⟨#[97, 47, 98]⟩)) 1 = 0 := by omega
  rw [h0] at he
  exact ⟨he, rfl⟩
def wantC : Array Value := #[.int .i64 0, .int .i64 2, .int .i64 2, .int .i64 0, .int .i64 2, .int .i64 2]
theorem wantC_at (k : Nat) (h : k < 6) : wantC[k]? = some (.int .i64 (wantL.getD k 0)) := by
  match k, h with
  | 0, _ => rfl
  | 1, _ => rfl
  | 2, _ => rfl
  | 3, _ => rfl
  | 4, _ => rfl
  | 5, _ => rfl
theorem want_cell {w : World} {b : Nat} (h : w.heap[b]? = some (.cells wantC 54 (0, 0))) (k : Nat) (hk : k < 6) : w.cell? ⟨b, k, none⟩ = some (.int .i64 (wantL.getD k 0)) := by
  simp only [World.cell?, h]; simpa using wantC_at k hk
/-- A slice written out, in memory that is new. -/
theorem lit_row (l : List Int) (w : World) : RowI (w.alloc (.cells (l.map (Value.int .i64)).toArray 3)) w.heap.size l :=
  ⟨_, heap_alloc_new _ _, by simp, fun i hi => by simp [hi]⟩
theorem lit_ints (l : List Int) (n : Nat) (hn : l.length = n) (w : World) : Ints (w.alloc (.cells (l.map (Value.int .i64)).toArray 3)) (.slice (some ⟨w.heap.size, 0, none⟩) n n) l := by
  subst hn; exact (lit_row l w).ints _
set_option maxHeartbeats 1600000 in
theorem alive_any (w : World) (ht : Tab w) : Calls Tryd.prog 13 #[] w fun e w' => e = .returned (.bool true) ∧ Below w.heap.size w w' := by
  have HT := Lib.hid ht
  clear ht
  go_enter Tryd.func13, Tryd.ntmps13
  go_wp2_with fail
  have W0 : Hid ((w.alloc (.cells wantC 54)).heap[w.heap.size]? = some (.cells wantC 54 (0, 0))) := Lib.hid (heap_alloc_new _ _)
  go_loopw [2] (fun i wr => ∃ k : Nat, k ≤ 6 ∧ i = .int .i64 k ∧ Below w.heap.size w wr ∧ wr.heap[w.heap.size]? = some (.cells wantC 54 (0, 0))) (fun i _ => 6 - (intOf i).toNat)
  case atStart => exact ⟨0, Nat.zero_le _, rfl, (Below.refl _ _).alloc (Nat.le_refl _) _, W0.out⟩
  case round =>
    obtain ⟨k, hk, rfl, hb, hw⟩ := hrel
    have HB := Lib.hid hb
    have HW := Lib.hid hw
    clear hb hw
    by_cases hlt : k < 6
    · have HP : Hid (∀ wx, Ints wx (.slice (some ⟨wr.heap.size, 0, none⟩) 3 3) [1, 0, 2] → Calls Tryd.prog 10 #[.slice (some ⟨wr.heap.size, 0, none⟩) 3 3, .int .u64 (k : Int)] wx fun e w' =>
          e = .returned (.tuple #[.int .i64 (wantL.getD k 0), .int .i64 0]) ∧ Below wx.heap.size wx w') := Lib.hid (fun wx hx => by
        have := pick_any _ [1, 0, 2] (by decide) k (by omega) wx hx
        rwa [(want_at k hlt).1, (want_at k hlt).2] at this)
      have HC : Hid (∀ wx, Below wr.heap.size wr wx → wx.heap[w.heap.size]? = some (.cells wantC 54 (0, 0))) := Lib.hid (fun wx hx => (hx.block _ (lt_of_block HW.out)).trans HW.out)
      have HI : Hid (Ints (wr.alloc (.cells #[.int .i64 1, .int .i64 0, .int .i64 2] 3)) (.slice (some ⟨wr.heap.size, 0, none⟩) 3 3) [1, 0, 2]) := Lib.hid (lit_ints [1, 0, 2] 3 rfl wr)
      go_wp2_with fail
      refine (HP.out _ HI.out).mono ?_
      rintro e w1 ⟨rfl, hb⟩
      have HB1 : Hid (Below wr.heap.size wr w1) := Lib.hid (((Below.refl _ _).alloc (Nat.le_refl _) _).trans (hb.mono (by simp)))
      have hc1 := want_cell (HC.out w1 HB1.out) k hlt
      have l1 := lt_of_block (HC.out w1 HB1.out)
      have HC1 := Lib.hid (HC.out w1 HB1.out)
      have HB2 := Lib.hid (HB.out.trans (HB1.out.mono HB.out.size))
      generalize wantL.getD k 0 = y at hc1 ⊢
      clear hb HP HC HI HB1 HB HW
      go_wp2_with fail
      go_roundw
      case rel => exact ⟨k + 1, by omega, by go_num, HB2.out, HC1.out⟩
      case measure => simp [intOf]; omega
    · obtain rfl : k = 6 := by omega
      have HT1 := Lib.hid (HT.out.later (HB.out.mono (Nat.le_refl _)))
      clear W0 HW
      obtain ⟨a1, e1, c1⟩ := of_named 1 ⟨#[]⟩ (by decide)
      obtain ⟨a2, e2, c2⟩ := of_named 2 ⟨#[]⟩ (by decide)
      obtain ⟨a3, e3, c3⟩ := of_named 1 ⟨#[97, 98]⟩ (by decide)
      obtain ⟨a4, e4, c4⟩ := of_named 1 ⟨#[98, 98]⟩ (by decide)
      obtain ⟨a5, e5, c5⟩ := of_named 2 ⟨#[97, 98]⟩ (by decide)
      have n12 : ((a1 : Int) != (a2 : Int)) = true := ne_int (fun h => by
        rw [e1, e2] at h; exact absurd ((ofN_seed i64_one i64_two _).1 h) (by decide))
      have n34 : ((a3 : Int) != (a4 : Int)) = true := ne_int (fun h => by
        rw [e3, e4] at h; exact absurd ((ofN_byte 1 [] 97 98 [98]).1 h) (by decide))
      have n35 : ((a3 : Int) != (a5 : Int)) = true := ne_int (fun h => by
        rw [e3, e5] at h; exact absurd ((ofN_seed i64_one i64_two _).1 h) (by decide))
      have C1 := Lib.hid c1
      have C2 := Lib.hid c2
      have C3 := Lib.hid c3
      have C4 := Lib.hid c4
      have C5 := Lib.hid c5
      clear e1 e2 e3 e4 e5 c1 c2 c3 c4 c5
      go_wp2_with fail
      refine (order_one _ HT1.out).mono ?_
      rintro e w1 ⟨b, off, cap, rfl, hc, hb⟩
      have HB1 := Lib.hid (HB.out.trans (hb.mono HB.out.size))
      clear hb HB HT1
      go_wp2_with fail
      refine (draw_one _).mono ?_
      rintro e w2 ⟨rfl, rfl⟩
      go_wp2_with fail
      refine (C1.out _).mono ?_
      rintro e w2 ⟨rfl, rfl⟩
      go_wp2_with fail
      refine (C2.out _).mono ?_
      rintro e w2 ⟨rfl, rfl⟩
      go_wp2_with fail
      refine (C3.out _).mono ?_
      rintro e w2 ⟨rfl, rfl⟩
      go_wp2_with fail
      refine (C4.out _).mono ?_
      rintro e w2 ⟨rfl, rfl⟩
      go_wp2_with fail
      refine (C3.out _).mono ?_
      rintro e w2 ⟨rfl, rfl⟩
      go_wp2_with fail
      refine (C5.out _).mono ?_
      rintro e w2 ⟨rfl, rfl⟩
      go_wp2_with fail
      go_ret
      exact ⟨rfl, HB1.out⟩
end Go.Proofs.YtglnajjbbhokpaaDoor
