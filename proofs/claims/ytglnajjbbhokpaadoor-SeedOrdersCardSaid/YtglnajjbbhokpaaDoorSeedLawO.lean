/-
  The walk of SeedOrders.
-/
import Derived.Test.YtglnajjbbhokpaaDoorSeedAlive
namespace Go.Proofs.YtglnajjbbhokpaaDoor
open Go.RowKit
open SM
set_option linter.unusedVariables false
set_option linter.unusedSimpArgs false

/-- A row of truths of the call's own. -/
structure RowB (w : World) (b : Nat) (l : List Bool) : Prop where
  row : ∃ cs : Array Value, w.heap[b]? = some (.cells cs 4 (0, 0)) ∧ l.length ≤ cs.size ∧ ∀ i, (h : i < l.length) → cs[i]? = some (.bool l[i])
theorem RowB.lt {w : World} {b : Nat} {l : List Bool} (h : RowB w b l) : b < w.heap.size := let ⟨_, h1, _⟩ := h.row; lt_of_block h1
theorem RowB.cell {w : World} {b : Nat} {l : List Bool} (h : RowB w b l) {i : Nat} (hi : i < l.length) : w.cell? ⟨b, i, none⟩ = some (.bool l[i]) := by
  obtain ⟨cs, h1, h2, h3⟩ := h.row
  simp only [World.cell?, h1]; simpa using h3 i hi
theorem RowB.free {w : World} {b : Nat} {l : List Bool} (h : RowB w b l) (i : Nat) : w.frozen? ⟨b, i, none⟩ = false := by
  obtain ⟨cs, h1, h2, h3⟩ := h.row
  simp [World.frozen?, h1]
theorem RowB.of_block {w w1 : World} {b : Nat} {l : List Bool} (h : RowB w b l) (he : w1.heap[b]? = w.heap[b]?) : RowB w1 b l := by
  obtain ⟨cs, h1, h2, h3⟩ := h.row
  exact ⟨cs, he.trans h1, h2, h3⟩
theorem RowB.set {w : World} {b : Nat} {l : List Bool} (h : RowB w b l) {i : Nat} (hi : i < l.length) (x : Bool) : RowB (w.setCell ⟨b, i, none⟩ (.bool x)) b (l.set i x) := by
  obtain ⟨cs, h1, h2, h3⟩ := h.row
  refine ⟨cs.setIfInBounds i (.bool x), ?_, by simpa using h2, fun j hj => ?_⟩
  · simp only [World.setCell, Array.getElem?_modify, if_true, h1]; rfl
  · rw [List.length_set] at hj
    rw [Array.getElem?_setIfInBounds, List.getElem_set]
    by_cases hij : i = j
    · subst hij; simp; omega
    · rw [if_neg hij, if_neg hij]; exact h3 j hj
def noB (n : Nat) : Array Value := madeCells #[.bool false] n
theorem noB_at {n i : Nat} (h : i < n) : (noB n)[i]? = some (.bool false) := by
  unfold noB madeCells
  rw [Array.getElem?_map, Array.getElem?_range, if_pos h]
  simp [Nat.mod_one]
theorem madeB_run (n : Nat) (hn : n ≤ 1000) (w : World) : (Instr.makeSlice 42 (.int .i64 (n : Int)) (.int .i64 (n : Int))).run Tryd.prog w = .ok (.slice (some ⟨w.heap.size, 0, none⟩) n n) (w.alloc (.cells (noB n) 4)) := by
  have := run_make (P := Tryd.prog) w 42 4 Tryd.t4 (.bool false) Tryd.underlying42 (by kernel_rfl) (by kernel_rfl) .i64 .i64 n n (by omega) (Int.le_refl _) (by show ((1 : Nat) : Int) * (n : Int) ≤ _; omega) (by omega)
  rw [this]; simp only [noB, Value.cells, Int.toNat_natCast, show (Tryd.t4).size = 1 from rfl, Nat.mul_one]
theorem madeB_row (n : Nat) (w : World) : RowB (w.alloc (.cells (noB n) 4)) w.heap.size (List.replicate n false) := by
  refine ⟨noB n, heap_alloc_new _ _, by simp [noB, size_madeCells], fun i hi => ?_⟩
  rw [List.length_replicate] at hi
  rw [noB_at hi, List.getElem_replicate]

theorem orders_long (s : Int) (x : ByteArray) (n : Int) (hx : 500 < x.size) (w : World) (ht : Tab w) :
    Calls Tryd.prog 7 #[.int .i64 s, .string x, .int .i64 n] w fun e w' => e = .returned (.bool true) ∧ Below w.heap.size w w' := by
  have HA := Lib.hid (alive_any w ht)
  have h1 : (500 : Int) < (x.size : Int) := by omega
  clear ht
  go_enter Tryd.func7, Tryd.ntmps7
  go_wp2_with fail
  refine HA.out.mono ?_
  rintro e w1 ⟨rfl, hb⟩
  have HB := Lib.hid hb
  clear hb
  go_wp2_with fail
  go_ret
  exact ⟨rfl, HB.out⟩
/-- Where no order is. -/
theorem orders_none (s : Int) (x : ByteArray) (n : Int) (hx : x.size ≤ 500) (hn : oOk n = false) (w : World) (ht : Tab w) :
    Calls Tryd.prog 7 #[.int .i64 s, .string x, .int .i64 n] w fun e w' => e = .returned (.bool true) ∧ Below w.heap.size w w' := by
  have HA := Lib.hid (fun w ht => alive_any w ht)
  have HT := Lib.hid ht
  have HO : Hid (Calls Tryd.prog 12 #[.int .i64 s, .string x, .int .i64 n] w fun e w' => e = .returned (.tuple #[.slice none 0 0, .int .i64 2]) ∧ Below w.heap.size w w') := Lib.hid (by
    refine (order_any s x (by omega) n w ht).mono ?_
    rintro e w' (⟨_, he, hb⟩ | ⟨h, _⟩)
    · exact ⟨he, hb⟩
    · rw [hn] at h; exact absurd h (by simp))
  have h1 : ¬ (500 : Int) < (x.size : Int) := by omega
  cases hd : drOk n with
  | false =>
    have HD : Hid (∀ w, Calls Tryd.prog 9 #[.int .i64 s, .string x, .int .i64 n] w fun e w' => e = .returned (.tuple #[.int .i64 0, .int .i64 2]) ∧ w = w') := Lib.hid (fun w => by
      have := draw_any s x (by omega) n w
      rwa [(dr_no hd _).1, (dr_no hd 0).2] at this)
    clear ht
    by_cases h2 : n < 1
    · have h3 : n < 0 := by
        have h4 : ¬ (0 ≤ n ∧ n ≤ 200) := by simpa [oOk] using hn
        omega
      clear hn hd
      go_enter Tryd.func7, Tryd.ntmps7
      go_wp2_with fail
      refine HO.out.mono ?_
      rintro e w1 ⟨rfl, hb⟩
      have HB := Lib.hid hb
      have HT1 := Lib.hid (HT.out.later hb)
      clear hb
      go_wp2_with (go_at_call 9; refine (HD.out _).mono ?_; rintro e w2 ⟨rfl, rfl⟩)
      refine (HA.out _ HT1.out).mono ?_
      rintro e w2 ⟨rfl, hb⟩
      have HB2 := Lib.hid (HB.out.trans (hb.mono HB.out.size))
      clear hb
      go_wp2_with fail
      go_ret
      exact ⟨by first | rfl | exact ret_bool (by simp; omega), HB2.out⟩
    · have h3 : 1000000000 < n := by
        have h4 : ¬ (1 ≤ n ∧ n ≤ 1000000000) := by simpa [drOk] using hd
        omega
      clear hn hd
      go_enter Tryd.func7, Tryd.ntmps7
      go_wp2_with fail
      refine HO.out.mono ?_
      rintro e w1 ⟨rfl, hb⟩
      have HB := Lib.hid hb
      have HT1 := Lib.hid (HT.out.later hb)
      clear hb
      go_wp2_with (go_at_call 9; refine (HD.out _).mono ?_; rintro e w2 ⟨rfl, rfl⟩)
      refine (HA.out _ HT1.out).mono ?_
      rintro e w2 ⟨rfl, hb⟩
      have HB2 := Lib.hid (HB.out.trans (hb.mono HB.out.size))
      clear hb
      go_wp2_with fail
      go_ret
      exact ⟨by first | rfl | exact ret_bool (by simp; omega), HB2.out⟩
  | true =>
    obtain ⟨d, hd0⟩ : ∃ d, drI (ofN s (lA x)) n = d := ⟨_, rfl⟩
    have hd2 := drI_lt hd (ofN s (lA x))
    have HD : Hid (∀ w, Calls Tryd.prog 9 #[.int .i64 s, .string x, .int .i64 n] w fun e w' => e = .returned (.tuple #[.int .i64 d, .int .i64 0]) ∧ w = w') := Lib.hid (fun w => by
      have := draw_any s x (by omega) n w
      rwa [hd0, (dr_yes hd 0).2] at this)
    rw [hd0] at hd2
    have h2 := drOk_iff.1 hd
    have h3 : 200 < n := by
      have h4 : ¬ (0 ≤ n ∧ n ≤ 200) := by simpa [oOk] using hn
      omega
    clear ht hn hd hd0
    go_enter Tryd.func7, Tryd.ntmps7
    go_wp2_with fail
    refine HO.out.mono ?_
    rintro e w1 ⟨rfl, hb⟩
    have HB := Lib.hid hb
    have HT1 := Lib.hid (HT.out.later hb)
    clear hb
    go_wp2_with (go_at_call 9; refine (HD.out _).mono ?_; rintro e w2 ⟨rfl, rfl⟩)
    refine (HA.out _ HT1.out).mono ?_
    rintro e w2 ⟨rfl, hb⟩
    have HB2 := Lib.hid (HB.out.trans (hb.mono HB.out.size))
    clear hb
    go_wp2_with fail
    go_ret
    exact ⟨rfl, HB2.out⟩
/-- Where the look over an order stands. -/
structure LookAt (w : World) (q : Option Addr) (cap n g : Nat) (L : List Nat) (k : Nat) (wr : World) : Prop where
  hi : k ≤ n
  below : Below w.heap.size w wr
  ints : Ints wr (.slice q n cap) (castL L)
  seen : RowB wr g (seenL L k)
  own : w.heap.size ≤ g
  apart : ∀ b off, q = some ⟨b, off, none⟩ → 0 < n → b ≠ g
theorem Ints.other {w : World} {v : Value} {l : List Int} (h : Ints w v l) {g i : Nat} (hg : ∀ b off cap, v = .slice (Option.some ⟨b, off, Option.none⟩) l.length cap → 0 < l.length → b ≠ g) (x : Value) :
    Ints (w.setCell ⟨g, i, Option.none⟩ x) v l := by
  cases h with
  | none p cap => exact .none p cap
  | some b off cap _ hpos hlt hx =>
    have hb := hg b off cap rfl hpos
    refine .some b off cap l hpos (by simpa [World.setCell] using hlt) fun j hj => ?_
    rw [← hx j hj]
    exact World.cell?_of_block (w := w) (Below.heap_setCell _ _ _ _ hb)
set_option maxHeartbeats 1600000 in
theorem orders_some (s : Int) (x : ByteArray) (n : Nat) (hx : x.size ≤ 500) (hn : n ≤ 200) (w : World) (ht : Tab w) (d de : Int) (hdd : (n = 0 ∧ d = 0 ∧ de = 2) ∨ (0 < n ∧ 0 ≤ d ∧ d < n ∧ de = 0))
    (hdr : ∀ w, Calls Tryd.prog 9 #[.int .i64 s, .string x, .int .i64 (n : Int)] w fun e w' => e = .returned (.tuple #[.int .i64 d, .int .i64 de]) ∧ w = w') :
    Calls Tryd.prog 7 #[.int .i64 s, .string x, .int .i64 (n : Int)] w fun e w' => e = .returned (.bool true) ∧ Below w.heap.size w w' := by
  have HA := Lib.hid (fun w ht => alive_any w ht)
  have HT := Lib.hid ht
  have HD := Lib.hid hdr
  obtain ⟨L, hL⟩ : ∃ L, ordN (ordF s (lA x)) n = L := ⟨_, rfl⟩
  have HO : Hid (Calls Tryd.prog 12 #[.int .i64 s, .string x, .int .i64 (n : Int)] w fun e w' => ∃ q cap, e = .returned (.tuple #[.slice q n cap, .int .i64 0]) ∧ Below w.heap.size w w' ∧ Ints w' (.slice q n cap) (castL L)) := Lib.hid (by
    refine (order_yes s x (by omega) n hn w ht).mono ?_
    rintro e w' (⟨h, _⟩ | ⟨_, q, cap, he, hb, hi⟩)
    · exfalso; simp [oOk] at h; omega
    · rw [Int.toNat_natCast] at he hi
      rw [hL] at hi
      exact ⟨q, cap, he, hb, hi⟩)
  have hmk := fun w => madeB_run n (by omega) w
  have h1 : ¬ (500 : Int) < (x.size : Int) := by omega
  clear ht hdr
  have hL1 : L.length = n := by rw [← hL]; exact ordN_length _ _
  have HL2 : Hid (∀ i, (h : i < L.length) → L[i] < n) := Lib.hid (by rw [← hL]; intro i h; exact ordN_get_lt h)
  have HL3 : Hid (∀ i j, (h : i < L.length) → (hj : j < i) → L[j] ≠ L[i]) := Lib.hid (by rw [← hL]; intro i j h hj; exact ordN_get_ne h hj)
  have hcond : ∃ t : Bool, t = decide (1 ≤ (n : Int)) := ⟨_, rfl⟩
  have run : ∀ (wr : World) (q : Option Addr) (cap : Nat), True := fun _ _ _ => trivial
  clear run hcond hL
  rcases hdd with ⟨rfl, rfl, rfl⟩ | ⟨hpos, d0, d1, rfl⟩
  · have hmk0 : ∀ w, (Instr.makeSlice 42 (.int .i64 0) (.int .i64 0)).run Tryd.prog w = .ok (.slice (some ⟨w.heap.size, 0, none⟩) 0 0) (w.alloc (.cells (noB 0) 4)) := fun w => madeB_run 0 (by omega) w
    go_enter Tryd.func7, Tryd.ntmps7
    go_wp2_with fail
    refine HO.out.mono ?_
    rintro e w1 ⟨q, cap, rfl, hb, hi⟩
    have HB := Lib.hid hb
    have HT1 := Lib.hid (HT.out.later hb)
    clear hb hi HO
    go_wp2_with (go_at_call 9; refine (HD.out _).mono ?_; rintro e w2 ⟨rfl, rfl⟩)
    go_loopw [14] (fun i wr => i = .int .i64 0 ∧ Below w.heap.size w wr ∧ Tab wr) (fun _ _ => 0)
    case atStart => exact ⟨rfl, HB.out.alloc HB.out.size _, HT1.out.later ((Below.refl _ _).alloc (Nat.le_refl _) _)⟩
    case round =>
      obtain ⟨rfl, hb, ht⟩ := hrel
      have HB2 := Lib.hid hb
      have HT2 := Lib.hid ht
      clear hb ht
      go_wp2_with fail
      refine (HA.out _ HT2.out).mono ?_
      rintro e w2 ⟨rfl, hb⟩
      have HB3 := Lib.hid (HB2.out.trans (hb.mono HB2.out.size))
      clear hb
      go_wp2_with fail
      go_ret
      exact ⟨rfl, HB3.out⟩
  · have hpos2 : (1 : Int) ≤ (n : Int) := by omega
    have hpos3 : (n : Int) ≤ 1000000000 := by omega
    go_enter Tryd.func7, Tryd.ntmps7
    go_wp2_with fail
    refine HO.out.mono ?_
    rintro e w1 ⟨q, cap, rfl, hb, hi⟩
    have HB := Lib.hid hb
    have HT1 := Lib.hid (HT.out.later hb)
    have HI := Lib.hid hi
    clear hb hi HO
    go_wp2_with (go_at_call 9; refine (HD.out _).mono ?_; rintro e w2 ⟨rfl, rfl⟩)
    have S0 : Hid (LookAt w q cap n w1.heap.size L 0 (w1.alloc (.cells (noB n) 4))) := Lib.hid (by
      refine ⟨Nat.zero_le _, HB.out.alloc HB.out.size _, HI.out.later ((Below.refl _ _).alloc (Nat.le_refl _) _), by rw [seenL_zero, hL1]; exact madeB_row n w1, HB.out.size, ?_⟩
      intro b off hq hp
      obtain ⟨b', off', cap', hv, _, hlt⟩ := HI.out.at (k := 0) (by rw [castL_length, hL1]; exact hp)
      rw [hq] at hv
      cases hv
      omega)
    go_loopw [14] (fun i wr => ∃ k : Nat, i = .int .i64 k ∧ LookAt w q cap n w1.heap.size L k wr) (fun i _ => n - (intOf i).toNat)
    case atStart => exact ⟨0, rfl, S0.out⟩
    case round =>
      obtain ⟨k, rfl, hS⟩ := hrel
      have HS := Lib.hid hS
      have n1 := hS.hi
      have l1 := hS.seen.lt
      clear hS
      by_cases hlt : k < n
      · have hkL : k < L.length := by omega
        obtain ⟨b, off, cap', hp, e1, l2⟩ := HS.out.ints.at (k := k) (by rw [castL_length]; exact hkL)
        rw [castL_length, hL1] at hp
        obtain rfl : q = some ⟨b, off, none⟩ := by cases hp; rfl
        rw [castL_get hkL] at e1
        have hy := HL2.out k hkL
        have q2 := HS.out.seen.cell (i := L[k]) (by rw [seenL_length]; omega)
        have f2 := HS.out.seen.free L[k]
        have hno : (seenL L k)[L[k]]'(by rw [seenL_length]; omega) = false := by
          rw [seenL_get (by omega)]
          rw [← Bool.not_eq_true]
          intro h
          rw [List.contains_eq_mem, decide_eq_true_eq, List.mem_take_iff_getElem] at h
          obtain ⟨j, hj, e⟩ := h
          exact HL3.out k j hkL (by omega) e
        rw [hno] at q2
        have HG : Hid (LookAt w (some ⟨b, off, none⟩) cap n w1.heap.size L (k + 1) (wr.setCell ⟨w1.heap.size, L[k], none⟩ (.bool true))) := Lib.hid
          ⟨hlt, HS.out.below.setCell HS.out.own _, HS.out.ints.other (fun b' off' cap' hv hp => HS.out.apart b' off' (by cases hv; rfl) hpos) _,
            by rw [seenL_succ hkL]; exact HS.out.seen.set (by rw [seenL_length]; omega) _, HS.out.own, HS.out.apart⟩
        clear hno hp
        generalize L[k] = y at e1 hy q2 f2 HG
        go_wp2_with fail
        go_roundw
        case rel => exact ⟨k + 1, by go_num, HG.out⟩
        case measure => simp [intOf]; omega
      · obtain rfl : n = k := by omega
        have HT2 := Lib.hid (HT.out.later (HS.out.below.mono (Nat.le_refl _)))
        go_wp2_with fail
        refine (HA.out _ HT2.out).mono ?_
        rintro e w2 ⟨rfl, hb⟩
        have HB3 := Lib.hid (HS.out.below.trans (hb.mono HS.out.below.size))
        clear hb
        go_wp2_with fail
        go_ret
        exact ⟨rfl, HB3.out⟩
theorem orders_walk (s : Int) (x : ByteArray) (n : Int) (w : World) (ht : Tab w) :
    Calls Tryd.prog 7 #[.int .i64 s, .string x, .int .i64 n] w fun e w' => e = .returned (.bool true) ∧ Below w.heap.size w w' := by
  by_cases hx : 500 < x.size
  · exact orders_long s x n hx w ht
  cases hn : oOk n with
  | false => exact orders_none s x n (by omega) hn w ht
  | true =>
    have h : 0 ≤ n ∧ n ≤ 200 := by simpa [oOk] using hn
    obtain ⟨m, rfl⟩ : ∃ m : Nat, n = (m : Int) := ⟨n.toNat, by omega⟩
    refine orders_some s x m (by omega) (by omega) w ht _ _ ?_ (fun w => draw_any s x (by omega) (m : Int) w)
    rcases Nat.eq_zero_or_pos m with h0 | h0
    · subst h0
      exact .inl ⟨rfl, (dr_no (n := ((0 : Nat) : Int)) rfl _).1, rfl⟩
    · have hd : drOk (m : Int) = true := drOk_iff.2 (by omega)
      have := drI_lt hd (ofN s (lA x))
      exact .inr ⟨h0, this.1, this.2, (dr_yes hd 0).2⟩
end Go.Proofs.YtglnajjbbhokpaaDoor
