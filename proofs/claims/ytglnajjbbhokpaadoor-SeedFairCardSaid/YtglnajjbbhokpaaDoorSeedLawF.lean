/-
  The walk of SeedFair.
-/
import Derived.Test.YtglnajjbbhokpaaDoorSeedAlive
namespace Go.Proofs.YtglnajjbbhokpaaDoor
open Go.RowKit
open SM
set_option linter.unusedVariables false
set_option linter.unusedSimpArgs false

theorem fair_few (v : Value) (l : List Int) (hmax : l.length ≤ 9223372036854775807) (h : Int) (hc : sumN l < 1 ∨ 500 < sumN l) (w : World) (ht : Tab w) (hv : Ints w v l) :
    Calls Tryd.prog 5 #[v, .int .u64 h] w fun e w' => e = .returned (.bool true) ∧ Below w.heap.size w w' := by
  have HA := Lib.hid (alive_any w ht)
  obtain ⟨n, hn⟩ : ∃ n, sumN l = n := ⟨_, rfl⟩
  have HS : Hid (Calls Tryd.prog 16 #[v] w fun e w' => e = .returned (.int .i64 n) ∧ w = w') := Lib.hid (by rw [← hn]; exact refsum_any v l hmax w hv)
  rw [hn] at hc
  clear ht hn hv
  rcases hc with h1 | h1
  · go_enter Tryd.func5, Tryd.ntmps5
    go_wp2_with (go_at_call 16; refine (HS.out).mono ?_; rintro e w2 ⟨rfl, rfl⟩)
    refine HA.out.mono ?_
    rintro e w1 ⟨rfl, hb⟩
    have HB := Lib.hid hb
    clear hb
    go_wp2_with fail
    go_ret
    exact ⟨rfl, HB.out⟩
  · have h4 : ¬ n < 1 := by omega
    go_enter Tryd.func5, Tryd.ntmps5
    go_wp2_with (go_at_call 16; refine (HS.out).mono ?_; rintro e w2 ⟨rfl, rfl⟩)
    refine HA.out.mono ?_
    rintro e w1 ⟨rfl, hb⟩
    have HB := Lib.hid hb
    clear hb
    go_wp2_with fail
    go_ret
    exact ⟨rfl, HB.out⟩
/-- The index that the i-th number behind g picks. -/
def pkAt (l : List Int) (n g i : Nat) : Nat := pickN l (((g + i) % n : Nat) : Int)
/-- Where the counting stands. -/
structure CountAt (w : World) (l : List Int) (n g b : Nat) (i : Nat) (wr : World) : Prop where
  hi : i ≤ n
  below : Below w.heap.size w wr
  own : w.heap.size ≤ b
  row : RowI wr b (cntL i l.length (pkAt l n g))
set_option maxHeartbeats 1600000 in
theorem fair_some (p : Option Addr) (cap : Nat) (l : List Int) (hw : wOk l = true) (h500 : sumI l ≤ 500) (h : Nat) (hh : h < 18446744073709551616) (w : World) (ht : Tab w) (hv : Ints w (.slice p l.length cap) l) :
    Calls Tryd.prog 5 #[.slice p l.length cap, .int .u64 h] w fun e w' => e = .returned (.bool true) ∧ Below w.heap.size w w' := by
  have hk := wOk_iff.1 hw
  have hmax : l.length ≤ 9223372036854775807 := by omega
  have HA := Lib.hid (fun w ht => alive_any w ht)
  have HT := Lib.hid ht
  have HV := Lib.hid hv
  obtain ⟨n, hn⟩ : ∃ n : Nat, (sumI l).toNat = n := ⟨_, rfl⟩
  have hn1 : (n : Int) = sumI l := by omega
  have n1 : 1 ≤ n := by omega
  have n2 : n ≤ 500 := by omega
  have HS : Hid (∀ w, Ints w (.slice p l.length cap) l → Calls Tryd.prog 16 #[.slice p l.length cap] w fun e w' => e = .returned (.int .i64 n) ∧ w = w') := Lib.hid (fun w hv => by
    have := refsum_any _ l hmax w hv
    rwa [sumN_eq hw, ← hn1] at this)
  obtain ⟨g, hg⟩ : ∃ g, h / 2 = g := ⟨_, rfl⟩
  have hq : (h : Int) / 2 = (g : Int) := by omega
  have hgl : g < 9223372036854775808 := by omega
  have HP : Hid (∀ i, i < n → ∀ w, Ints w (.slice p l.length cap) l → Calls Tryd.prog 10 #[.slice p l.length cap, .int .u64 ((g + i : Nat) : Int)] w fun e w' => e = .returned (.tuple #[.int .i64 (pkAt l n g i), .int .i64 0]) ∧ Below w.heap.size w w') := Lib.hid (fun i hi w hv => by
    have := pick_any _ l hmax (g + i) (by omega) w hv
    rwa [(pk_yes hw (g + i)).1, (pk_yes hw 0).2, hn] at this)
  have HLt : Hid (∀ i, pkAt l n g i < l.length) := Lib.hid (fun i => by
    have := (rest_lt hw (g + i)).2
    rwa [hn] at this)
  have HEnd : Hid (cntL n l.length (pkAt l n g) = l) := Lib.hid (by
    have := cntL_end hw g
    rwa [hn] at this)
  have hmk := fun w => made_run l.length (by omega) w
  have h1 : ¬ (n : Int) < 1 := by omega
  have h2 : ¬ 500 < (n : Int) := by omega
  obtain ⟨f, hf⟩ : ∃ f, pkAt l n g = f := ⟨_, rfl⟩
  clear hw hk hv ht hn hn1 hg h500
  go_enter Tryd.func5, Tryd.ntmps5
  go_wp2_with (go_at_call 16; refine (HS.out _ HV.out).mono ?_; rintro e w2 ⟨rfl, rfl⟩)
  have S0 : Hid (CountAt w l n g w.heap.size 0 (w.alloc (.cells (zeros l.length) 3))) := Lib.hid ⟨Nat.zero_le _, (Below.refl _ _).alloc (Nat.le_refl _) _, Nat.le_refl _, by rw [cntL_zero]; exact made_row l.length w⟩
  go_loopw [7] (fun i wr => ∃ k : Nat, i = .int .i64 k ∧ CountAt w l n g w.heap.size k wr) (fun i _ => n - (intOf i).toNat)
  case atStart => exact ⟨0, rfl, S0.out⟩
  case round =>
    obtain ⟨k, rfl, hS⟩ := hrel
    have HC := Lib.hid hS
    have k0 := hS.hi
    have l1 := hS.row.lt
    clear hS
    by_cases hlt : k < n
    · have hsum : IntKind.u64.wrap ((g : Int) + (k : Int)) = ((g + k : Nat) : Int) := by rw [IntKind.wrap_u64]; omega
      have HPk := Lib.hid (HP.out k hlt wr (HV.out.later (HC.out.below.mono (Nat.le_refl _))))
      have hpl := HLt.out k
      have HRow : Hid (∀ W, Below wr.heap.size wr W → RowI W w.heap.size (cntL k l.length (pkAt l n g))) := Lib.hid (fun W hb => HC.out.row.later hb)
      have hcl : pkAt l n g k < (cntL k l.length (pkAt l n g)).length := by rw [cntL_length]; exact hpl
      obtain ⟨c, hc⟩ : ∃ c, (cntL k l.length (pkAt l n g))[pkAt l n g k] = c := ⟨_, rfl⟩
      have hcr : 0 ≤ c ∧ c ≤ 500 := by
        rw [← hc, cntL_get hpl]
        have : ∀ (p : Nat → Bool) m, cnt p m ≤ m := fun p m => by
          induction m with
          | zero => exact Nat.le_refl _
          | succ m ih => unfold cnt; split <;> omega
        have := this (fun i => pkAt l n g i == pkAt l n g k) k
        omega
      have HSet : Hid (∀ W, RowI W w.heap.size (cntL k l.length (pkAt l n g)) → RowI (W.setCell ⟨w.heap.size, pkAt l n g k, none⟩ (.int .i64 (c + 1))) w.heap.size (cntL (k + 1) l.length (pkAt l n g))) := Lib.hid (fun W hR => by
        rw [cntL_succ hpl, hc]; exact hR.set hcl _)
      have HCell : Hid (∀ W, RowI W w.heap.size (cntL k l.length (pkAt l n g)) → W.cell? ⟨w.heap.size, pkAt l n g k, none⟩ = some (.int .i64 c)) := Lib.hid (fun W hR => by
        rw [hR.cell hcl, hc])
      clear hc hcl
      obtain ⟨m, hm⟩ : ∃ m, pkAt l n g k = m := ⟨_, rfl⟩
      rw [hm] at HPk hpl HSet HCell
      clear hm
      go_wp2_with fail
      refine HPk.out.mono ?_
      rintro e w1 ⟨rfl, hb⟩
      have HR1 := Lib.hid (HRow.out w1 hb)
      have HB1 := Lib.hid (HC.out.below.trans (hb.mono HC.out.below.size))
      have l2 := HR1.out.lt
      have q1 := HCell.out w1 HR1.out
      have f1 := HR1.out.free m
      have HG := Lib.hid (HSet.out w1 HR1.out)
      clear hb HC HRow HSet HCell HPk
      have m1 : (m : Int) < (l.length : Int) := by omega
      go_wp2_with fail
      go_roundw
      case rel => exact ⟨k + 1, by go_num, hlt, HB1.out.setCell (Nat.le_refl _) _, Nat.le_refl _, HG.out⟩
      case measure => simp [intOf]; omega
    · obtain rfl : n = k := by omega
      have HR := HC.out.row
      rw [HEnd.out] at HR
      have HRow := Lib.hid HR
      have HB := Lib.hid HC.out.below
      have HV2 := Lib.hid (HV.out.later (HC.out.below.mono (Nat.le_refl _)))
      have HT2 := Lib.hid (HT.out.later (HC.out.below.mono (Nat.le_refl _)))
      clear HR HC HEnd HLt HP HS hmk
      go_wp2_with fail
      go_loopw [10] (fun i wx => ∃ (j q : Nat), i = .int .i64 j ∧ j ≤ l.length ∧ wx = wr.drewN q) (fun i _ => l.length - (intOf i).toNat)
      case atStart => exact ⟨0, 0, rfl, Nat.zero_le _, rfl⟩
      case round =>
        obtain ⟨j, q, rfl, hj, rfl⟩ := hrel
        by_cases hlt : j < l.length
        · have e1 : wr.cell? ⟨w.heap.size, j, none⟩ = some (.int .i64 l[j]) := HRow.out.cell hlt
          have j1 : (j : Int) < (l.length : Int) := by omega
          obtain ⟨b, off, cap', hp, e2, l3⟩ := HV2.out.at hlt
          obtain rfl : p = some ⟨b, off, none⟩ := by cases hp; rfl
          clear hp
          obtain ⟨y, hy⟩ : ∃ y, l[j] = y := ⟨_, rfl⟩
          rw [hy] at e1 e2
          clear hy
          go_wp2_with fail
          go_quiet (fail)
          go_wp2_with fail
          go_roundw
          case rel => exact ⟨j + 1, _, by go_num, by omega, rfl⟩
          case measure => simp [intOf]; omega
        · obtain rfl : j = l.length := by omega
          go_wp2_with fail
          refine (HA.out (wr.drewN q) (HT2.out.later (below_drewN (Below.refl _ _) q))).mono ?_
          rintro e w5 ⟨rfl, hb⟩
          have B5 : Hid (Below w.heap.size w w5) := Lib.hid ((below_drewN HB.out q).trans (hb.mono (by exact HB.out.size)))
          clear hb
          go_wp2_with fail
          go_ret
          exact ⟨rfl, B5.out⟩
theorem fair_walk (p : Option Addr) (cap : Nat) (l : List Int) (hmax : l.length ≤ 9223372036854775807) (h : Int) (h0 : 0 ≤ h ∧ h ≤ 18446744073709551615) (w : World) (ht : Tab w) (hv : Ints w (.slice p l.length cap) l) :
    Calls Tryd.prog 5 #[.slice p l.length cap, .int .u64 h] w fun e w' => e = .returned (.bool true) ∧ Below w.heap.size w w' := by
  by_cases h1 : sumN l < 1
  · exact fair_few _ l hmax h (.inl h1) w ht hv
  by_cases h2 : 500 < sumN l
  · exact fair_few _ l hmax h (.inr h2) w ht hv
  have hw : wOk l = true := sumN_pos.1 (by omega)
  rw [sumN_eq hw] at h2
  obtain ⟨m, rfl⟩ : ∃ m : Nat, h = (m : Int) := ⟨h.toNat, by omega⟩
  exact fair_some p cap l hw (by omega) m (by omega) w ht hv
end Go.Proofs.YtglnajjbbhokpaaDoor
