/-
  The walk of SeedPicks.
-/
import Derived.Test.YtglnajjbbhokpaaDoorSeedRefO
namespace Go.Proofs.YtglnajjbbhokpaaDoor
open Go.RowKit
open SM
set_option linter.unusedVariables false
set_option linter.unusedSimpArgs false

theorem picks_far (p : Option Addr) (cap : Nat) (l : List Int) (hmax : l.length ≤ 9223372036854775807) (h s : Int) (x : ByteArray) (n : Int) (hc : 500 < x.size ∨ (x.size ≤ 500 ∧ 250 < l.length)) (w : World) :
    Calls Tryd.prog 4 #[.slice p l.length cap, .int .u64 h, .int .i64 s, .string x, .int .i64 n] w fun e w' => e = .returned (.bool true) ∧ Below w.heap.size w w' := by
  rcases hc with h1 | ⟨h1, h2⟩
  · have h3 : (500 : Int) < (x.size : Int) := by omega
    go_enter Tryd.func4, Tryd.ntmps4
    go_wp2_with fail
    go_ret
    exact ⟨rfl, Below.refl _ _⟩
  · have h3 : ¬ (500 : Int) < (x.size : Int) := by omega
    have h4 : (250 : Int) < (l.length : Int) := by omega
    go_enter Tryd.func4, Tryd.ntmps4
    go_wp2_with fail
    go_ret
    exact ⟨rfl, Below.refl _ _⟩
/-- Two orders, by a common length, error and list. -/
theorem ord_named (s : Int) (x : ByteArray) (hx : x.size ≤ 500) (n : Int) : ∃ (m : Nat) (f : Int) (L : List Int), L.length = m ∧ m ≤ 200 ∧
    (∀ w, Tab w → Calls Tryd.prog 12 #[.int .i64 s, .string x, .int .i64 n] w fun e w' => ∃ q cap, e = .returned (.tuple #[.slice q m cap, .int .i64 f]) ∧ Below w.heap.size w w' ∧ Ints w' (.slice q m cap) L) ∧
    (∀ w, Calls Tryd.prog 15 #[.int .i64 s, .string x, .int .i64 n] w fun e w' => ∃ q cap, e = .returned (.tuple #[.slice q m cap, .int .i64 f]) ∧ Below w.heap.size w w' ∧ Ints w' (.slice q m cap) L) := by
  have key : ∃ (m : Nat) (f : Int) (L : List Int), L.length = m ∧ m ≤ 200 ∧ ∀ w e w', OrdEnd s (lA x) n w e w' → ∃ q cap, e = .returned (.tuple #[.slice q m cap, .int .i64 f]) ∧ Below w.heap.size w w' ∧ Ints w' (.slice q m cap) L := by
    cases hn : oOk n with
    | false =>
      refine ⟨0, 2, [], rfl, by omega, ?_⟩
      rintro w e w' (⟨_, he, hb⟩ | ⟨h, _⟩)
      · exact ⟨none, 0, he, hb, .none _ _⟩
      · rw [hn] at h; exact absurd h (by simp)
    | true =>
      have h2 : 0 ≤ n ∧ n ≤ 200 := by simpa [oOk] using hn
      refine ⟨n.toNat, 0, castL (ordN (ordF s (lA x)) n.toNat), by rw [castL_length, ordN_length], by omega, ?_⟩
      rintro w e w' (⟨h, _⟩ | ⟨_, q, cap, he, hb, hi⟩)
      · rw [hn] at h; exact absurd h (by simp)
      · exact ⟨q, cap, he, hb, hi⟩
  obtain ⟨m, f, L, h1, h2, h3⟩ := key
  exact ⟨m, f, L, h1, h2, fun w ht => (order_any s x (by omega) n w ht).mono (h3 w), fun w => (reforder_any s x (by omega) n w).mono (h3 w)⟩
set_option maxHeartbeats 1600000 in
theorem picks_near (p : Option Addr) (cap : Nat) (l : List Int) (hl : l.length ≤ 250) (h : Nat) (hh : h < 18446744073709551616) (s : Int) (x : ByteArray) (hx : x.size ≤ 500) (n : Int) (w : World) (ht : Tab w) (hv : Ints w (.slice p l.length cap) l) :
    Calls Tryd.prog 4 #[.slice p l.length cap, .int .u64 h, .int .i64 s, .string x, .int .i64 n] w fun e w' => e = .returned (.bool true) ∧ Below w.heap.size w w' := by
  have HT := Lib.hid ht
  have HV := Lib.hid hv
  obtain ⟨a, ha⟩ : ∃ a, pkI l h = a := ⟨_, rfl⟩
  obtain ⟨c, hc⟩ : ∃ c, pkE l = c := ⟨_, rfl⟩
  have H1 : Hid (Calls Tryd.prog 10 #[.slice p l.length cap, .int .u64 (h : Int)] w fun e w' => e = .returned (.tuple #[.int .i64 a, .int .i64 c]) ∧ Below w.heap.size w w') := Lib.hid (by rw [← ha, ← hc]; exact pick_any _ l (by omega) h hh w hv)
  have H2 : Hid (∀ w, Ints w (.slice p l.length cap) l → Calls Tryd.prog 14 #[.slice p l.length cap, .int .u64 (h : Int)] w fun e w' => e = .returned (.tuple #[.int .i64 a, .int .i64 c]) ∧ w = w') := Lib.hid (fun w hv => by rw [← ha, ← hc]; exact refpick_any _ l (by omega) h hh w hv)
  obtain ⟨m, f, L, hL, hm, o1, o2⟩ := ord_named s x hx n
  have O1 := Lib.hid o1
  have O2 := Lib.hid o2
  have h1 : ¬ (500 : Int) < (x.size : Int) := by omega
  have h2 : ¬ (250 : Int) < (l.length : Int) := by omega
  clear ht hv ha hc o1 o2
  go_enter Tryd.func4, Tryd.ntmps4
  go_wp2_with fail
  refine H1.out.mono ?_
  rintro e w1 ⟨rfl, hb⟩
  have B1 := Lib.hid hb
  clear hb
  go_wp2_with fail
  refine (H2.out _ (HV.out.later B1.out)).mono ?_
  rintro e w2 ⟨rfl, rfl⟩
  go_wp2_with fail
  refine (O1.out _ (HT.out.later B1.out)).mono ?_
  rintro e w2 ⟨q1, cap1, rfl, hb, hi1⟩
  have B2 := Lib.hid (B1.out.trans (hb.mono B1.out.size))
  have I1 := Lib.hid hi1
  clear hb B1 hi1
  go_wp2_with fail
  refine (O2.out _).mono ?_
  rintro e w3 ⟨q2, cap2, rfl, hb, hi2⟩
  have B3 := Lib.hid (B2.out.trans (hb.mono B2.out.size))
  have I2 := Lib.hid (I1.out.later hb)
  have I3 := Lib.hid hi2
  clear hb B2 hi2 I1
  go_wp2_with fail
  go_loopw [19] (fun i wx => ∃ (j q : Nat), i = .int .i64 j ∧ j ≤ m ∧ wx = w3.drewN q) (fun i _ => m - (intOf i).toNat)
  case atStart => exact ⟨0, 0, rfl, Nat.zero_le _, rfl⟩
  case round =>
    obtain ⟨j, q, rfl, hj, rfl⟩ := hrel
    by_cases hlt : j < m
    · obtain ⟨b1, off1, c1, hp1, e1, l1⟩ := I2.out.at (k := j) (by rw [hL]; exact hlt)
      obtain ⟨b2, off2, c2, hp2, e2, l2⟩ := I3.out.at (k := j) (by rw [hL]; exact hlt)
      obtain rfl : q1 = some ⟨b1, off1, none⟩ := by cases hp1; rfl
      obtain rfl : q2 = some ⟨b2, off2, none⟩ := by cases hp2; rfl
      have j1 : (j : Int) < (m : Int) := by omega
      obtain ⟨y, hy⟩ : ∃ y, L[j]'(by rw [hL]; exact hlt) = y := ⟨_, rfl⟩
      rw [hy] at e1 e2
      clear hy hp1 hp2
      go_wp2_with fail
      go_quiet (fail)
      go_wp2_with fail
      go_roundw
      case rel => exact ⟨j + 1, _, by go_num, by omega, rfl⟩
      case measure => simp [intOf]; omega
    · obtain rfl : j = m := by omega
      go_wp2_with fail
      go_ret
      exact ⟨rfl, below_drewN B3.out q⟩
theorem picks_walk (p : Option Addr) (cap : Nat) (l : List Int) (hmax : l.length ≤ 9223372036854775807) (h : Int) (h0 : 0 ≤ h ∧ h ≤ 18446744073709551615) (s : Int) (x : ByteArray) (n : Int) (w : World) (ht : Tab w) (hv : Ints w (.slice p l.length cap) l) :
    Calls Tryd.prog 4 #[.slice p l.length cap, .int .u64 h, .int .i64 s, .string x, .int .i64 n] w fun e w' => e = .returned (.bool true) ∧ Below w.heap.size w w' := by
  by_cases hx : 500 < x.size
  · exact picks_far p cap l hmax h s x n (.inl hx) w
  by_cases hl : 250 < l.length
  · exact picks_far p cap l hmax h s x n (.inr ⟨by omega, hl⟩) w
  obtain ⟨m, rfl⟩ : ∃ m : Nat, h = (m : Int) := ⟨h.toNat, by omega⟩
  exact picks_near p cap l (by omega) m (by omega) s x (by omega) n w ht hv
end Go.Proofs.YtglnajjbbhokpaaDoor
