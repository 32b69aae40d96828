/-
  The walk of SeedSame.
-/
import Derived.Test.YtglnajjbbhokpaaDoorSeedAlive
namespace Go.Proofs.YtglnajjbbhokpaaDoor
open Go.RowKit
open SM
set_option linter.unusedVariables false
set_option linter.unusedSimpArgs false

theorem same_few (v : Value) (l : List Int) (hmax : l.length ≤ 9223372036854775807) (h : Nat) (hh : h < 18446744073709551616) (s : Int) (x : ByteArray) (hc : wOk l = false ∨ 500 < x.size) (w : World) (ht : Tab w) (hv : Ints w v l) :
    Calls Tryd.prog 8 #[v, .int .u64 h, .int .i64 s, .string x] w fun e w' => e = .returned (.bool true) ∧ Below w.heap.size w w' := by
  have HA := Lib.hid (alive_any w ht)
  obtain ⟨n, hn, hn2⟩ : ∃ n, sumN l = n ∧ (n < 1 ∨ (500 < x.size ∧ 1 ≤ n)) := by
    refine ⟨_, rfl, ?_⟩
    rcases hc with h | h
    · left; rw [sumN_not h]; omega
    · rcases Int.lt_or_le (sumN l) 1 with h1 | h1
      · exact .inl h1
      · exact .inr ⟨h, h1⟩
  have HS : Hid (Calls Tryd.prog 16 #[v] w fun e w' => e = .returned (.int .i64 n) ∧ w = w') := Lib.hid (by rw [← hn]; exact refsum_any v l hmax w hv)
  clear ht hn hv hc
  rcases hn2 with h1 | ⟨h1, h2⟩
  · go_enter Tryd.func8, Tryd.ntmps8
    go_wp2_with (go_at_call 16; refine (HS.out).mono ?_; rintro e w2 ⟨rfl, rfl⟩)
    refine HA.out.mono ?_
    rintro e w1 ⟨rfl, hb⟩
    have HB := Lib.hid hb
    clear hb
    go_wp2_with fail
    go_ret
    exact ⟨rfl, HB.out⟩
  · have h3 : (500 : Int) < (x.size : Int) := by omega
    have h4 : ¬ n < 1 := by omega
    go_enter Tryd.func8, Tryd.ntmps8
    go_wp2_with (go_at_call 16; refine (HS.out).mono ?_; rintro e w2 ⟨rfl, rfl⟩)
    refine HA.out.mono ?_
    rintro e w1 ⟨rfl, hb⟩
    have HB := Lib.hid hb
    clear hb
    go_wp2_with fail
    go_ret
    exact ⟨rfl, HB.out⟩
theorem same_rest (h n : Nat) : (h + n) % n = h % n := by simp
set_option maxHeartbeats 1600000 in
theorem same_some (p : Option Addr) (cap : Nat) (l : List Int) (hw : wOk l = true) (h : Nat) (hh : h < 18446744073709551616) (s : Int) (x : ByteArray) (hx : x.size ≤ 500) (w : World) (ht : Tab w) (hv : Ints w (.slice p l.length cap) l) :
    Calls Tryd.prog 8 #[.slice p l.length cap, .int .u64 h, .int .i64 s, .string x] w fun e w' => e = .returned (.bool true) ∧ Below w.heap.size w w' := by
  have hk := wOk_iff.1 hw
  have hmax : l.length ≤ 9223372036854775807 := by omega
  have HA := Lib.hid (fun w ht => alive_any w ht)
  have HT := Lib.hid ht
  have HV := Lib.hid hv
  obtain ⟨n, hn⟩ : ∃ n : Nat, (sumI l).toNat = n := ⟨_, rfl⟩
  have hn1 : (n : Int) = sumI l := by omega
  have n1 : 1 ≤ n := by omega
  have n2 : n ≤ 1000000000 := by omega
  have HS : Hid (∀ w, Ints w (.slice p l.length cap) l → Calls Tryd.prog 16 #[.slice p l.length cap] w fun e w' => e = .returned (.int .i64 n) ∧ w = w') := Lib.hid (fun w hv => by
    have := refsum_any _ l hmax w hv
    rwa [sumN_eq hw, ← hn1] at this)
  obtain ⟨k, hkk⟩ : ∃ k, pickN l ((h / 2 % n : Nat) : Int) = k := ⟨_, rfl⟩
  have hr := rest_lt hw (h / 2)
  rw [hn, hkk] at hr
  have hy := pickN_pos (l := l) (r := ((h / 2 % n : Nat) : Int)) (by omega) hr.1 (by rw [hkk]; exact hr.2)
  have hkl := hr.2
  have HP1 : Hid (∀ w, Ints w (.slice p l.length cap) l → Calls Tryd.prog 10 #[.slice p l.length cap, .int .u64 ((h / 2 : Nat) : Int)] w fun e w' => e = .returned (.tuple #[.int .i64 k, .int .i64 0]) ∧ Below w.heap.size w w') := Lib.hid (fun w hv => by
    have := pick_any _ l hmax (h / 2) (by omega) w hv
    rwa [(pk_yes hw (h / 2)).1, (pk_yes hw (h / 2)).2, hn, hkk] at this)
  have HP2 : Hid (∀ w, Ints w (.slice p l.length cap) l → Calls Tryd.prog 10 #[.slice p l.length cap, .int .u64 ((h / 2 + n : Nat) : Int)] w fun e w' => e = .returned (.tuple #[.int .i64 k, .int .i64 0]) ∧ Below w.heap.size w w') := Lib.hid (fun w hv => by
    have := pick_any _ l hmax (h / 2 + n) (by omega) w hv
    rwa [(pk_yes hw (h / 2 + n)).1, (pk_yes hw 0).2, hn, same_rest, hkk] at this)
  obtain ⟨u, hu⟩ : ∃ u, ofN s (lA x) = u := ⟨_, rfl⟩
  have hul : u < 18446744073709551616 := by rw [← hu]; exact ofN_lt _ _
  have HF : Hid (∀ w, Calls Tryd.prog 17 #[.int .i64 s, .string x] w fun e w' => e = .returned (.int .u64 u) ∧ w = w') := Lib.hid (fun w => by rw [← hu]; exact of_any s x (by omega) w)
  obtain ⟨c, hc⟩ : ∃ c, pkI l u = c := ⟨_, rfl⟩
  have HC : Hid (∀ w, Ints w (.slice p l.length cap) l → Calls Tryd.prog 11 #[.int .i64 s, .string x, .slice p l.length cap] w fun e w' => e = .returned (.tuple #[.int .i64 c, .int .i64 0]) ∧ Below w.heap.size w w') := Lib.hid (fun w hv => by
    have := choose_any s x (by omega) _ l hmax w hv
    rwa [hu, hc, (pk_yes hw 0).2] at this)
  have HP3 : Hid (∀ w, Ints w (.slice p l.length cap) l → Calls Tryd.prog 10 #[.slice p l.length cap, .int .u64 (u : Int)] w fun e w' => e = .returned (.tuple #[.int .i64 c, .int .i64 0]) ∧ Below w.heap.size w w') := Lib.hid (fun w hv => by
    have := pick_any _ l hmax u hul w hv
    rwa [hc, (pk_yes hw 0).2] at this)
  obtain ⟨b, off, cap', hp, e0, l0⟩ := hv.at hkl
  obtain rfl : p = some ⟨b, off, none⟩ := by cases hp; rfl
  have hpos : 0 < l[k] := by simpa only [hkk] using hy
  obtain ⟨y, hyy⟩ : ∃ y, l[k] = y := ⟨_, rfl⟩
  rw [hyy] at e0 hpos
  have HE : Hid (∀ W, Below w.heap.size w W → W.cell? ⟨b, off + k, none⟩ = some (.int .i64 y) ∧ b < W.heap.size) := Lib.hid (fun W hb => ⟨(hb.cell (p := ⟨b, off + k, none⟩) l0).trans e0, Nat.lt_of_lt_of_le l0 hb.size⟩)
  have h1 : ¬ (500 : Int) < (x.size : Int) := by omega
  have h2 : ¬ (n : Int) < 1 := by omega
  have hq : (h : Int) / 2 = ((h / 2 : Nat) : Int) := by omega
  have hsum : IntKind.u64.wrap (((h / 2 : Nat) : Int) + (n : Int)) = ((h / 2 + n : Nat) : Int) := by rw [IntKind.wrap_u64]; omega
  obtain ⟨g, hg⟩ : ∃ g, h / 2 = g := ⟨_, rfl⟩
  rw [hg] at HP1 HP2 hq hsum
  clear hk hw hv ht hn hn1 hr hy hkk hp hyy hu hul hc e0 l0 hg
  go_enter Tryd.func8, Tryd.ntmps8
  go_wp2_with (go_at_call 16; refine (HS.out _ HV.out).mono ?_; rintro e w2 ⟨rfl, rfl⟩)
  refine (HP1.out _ HV.out).mono ?_
  rintro e w1 ⟨rfl, hb⟩
  have B1 := Lib.hid hb
  clear hb
  go_wp2_with fail
  refine (HP2.out _ (HV.out.later B1.out)).mono ?_
  rintro e w2 ⟨rfl, hb⟩
  have B2 := Lib.hid (B1.out.trans (hb.mono B1.out.size))
  clear hb B1
  go_wp2_with fail
  refine (HC.out _ (HV.out.later B2.out)).mono ?_
  rintro e w3 ⟨rfl, hb⟩
  have B3 := Lib.hid (B2.out.trans (hb.mono B2.out.size))
  clear hb B2
  go_wp2_with (go_at_call 17; refine (HF.out _).mono ?_; rintro e w2 ⟨rfl, rfl⟩)
  refine (HP3.out _ (HV.out.later B3.out)).mono ?_
  rintro e w4 ⟨rfl, hb⟩
  have B4 := Lib.hid (B3.out.trans (hb.mono B3.out.size))
  clear hb B3
  obtain ⟨q1, q2⟩ := HE.out w4 B4.out
  have k1 : (k : Int) < (l.length : Int) := by omega
  go_wp2_with fail
  refine (HA.out _ (HT.out.later (B4.out.mono (Nat.le_refl _)))).mono ?_
  rintro e w5 ⟨rfl, hb⟩
  have B5 := Lib.hid (B4.out.trans (hb.mono B4.out.size))
  clear hb B4
  go_wp2_with fail
  go_ret
  exact ⟨rfl, B5.out⟩
theorem same_walk (p : Option Addr) (cap : Nat) (l : List Int) (hmax : l.length ≤ 9223372036854775807) (h : Int) (h0 : 0 ≤ h ∧ h ≤ 18446744073709551615) (s : Int) (x : ByteArray) (w : World) (ht : Tab w) (hv : Ints w (.slice p l.length cap) l) :
    Calls Tryd.prog 8 #[.slice p l.length cap, .int .u64 h, .int .i64 s, .string x] w fun e w' => e = .returned (.bool true) ∧ Below w.heap.size w w' := by
  obtain ⟨m, rfl⟩ : ∃ m : Nat, h = (m : Int) := ⟨h.toNat, by omega⟩
  by_cases hx : 500 < x.size
  · exact same_few _ l hmax m (by omega) s x (.inr hx) w ht hv
  cases hw : wOk l with
  | false => exact same_few _ l hmax m (by omega) s x (.inl hw) w ht hv
  | true => exact same_some p cap l hw m (by omega) s x (by omega) w ht hv
end Go.Proofs.YtglnajjbbhokpaaDoor
