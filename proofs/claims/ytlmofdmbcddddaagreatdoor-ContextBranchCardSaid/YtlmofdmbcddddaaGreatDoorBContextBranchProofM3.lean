/-
  Texts of the proof, merged: BWordPrB, BWordClM, BWordPrC, BWordTwin, BWordPrE.
-/
import Derived.Test.YtlmofdmbcddddaaGreatDoorBContextBranchProofM2
import Derived.Laws.OwnMore
import Derived.Deep.RegionLaw
import Derived.Laws.EntriesVeiled
import Derived.Laws.CopyOwn
import Derived.Lib.LazyBuf
namespace Go.Proofs.YtlmofdmbcddddaaGreatDoor
open Go.RowKit
open WM
set_option linter.unusedVariables false
set_option linter.unusedSimpArgs false

set_option maxHeartbeats 1600000 in
theorem valid_any (m : Md) (v : Value) (hm : m.a.length ≤ 9223372036854775807) (w : World) (hv : Ints w v m.a) : Calls Tryz.prog 45 #[.agg #[.int .u8 m.c.toNat, v]] w fun e w' => e = .returned (.bool (fineB m)) ∧ Below w.heap.size w w' := by
  obtain ⟨p, cap, rfl⟩ := hv.slice
  obtain ⟨W0, hW0⟩ : ∃ W, W = w.alloc (.cells #[.int .u8 m.c.toNat, .slice p m.a.length cap] 27) := ⟨_, rfl⟩
  have N0 : W0.heap[w.heap.size]? = some (.cells #[.int .u8 m.c.toNat, .slice p m.a.length cap] 27 (0, 0)) := by rw [hW0]; exact heap_alloc_new _ _
  have B0 : Below w.heap.size w W0 := by rw [hW0]; exact (Below.refl _ _).alloc (Nat.le_refl _) _
  have S0 : W0.heap.size = w.heap.size + 1 := by rw [hW0]; simp
  have HS0 := Lib.hid S0
  have HN := Lib.hid N0
  have HB := Lib.hid B0
  have HV0 := Lib.hid (hv.later B0)
  have q0 := cell_two0 N0
  have q1 := cell_two1 N0
  have l1 := lt_of_block N0
  clear N0 B0 hv S0
  have HBr := Lib.hid (fun w => bracket_any m.c p m.a.length cap w)
  cases hl : letB m.c with
  | false =>
    have HF := Lib.hid (fine_let0 hl)
    have HC : Hid (∀ w, Calls Tryz.prog 60 #[.int .u8 m.c.toNat] w fun e w' => e = .returned (.bool false) ∧ w = w') := Lib.hid (fun w => by have := proper_any m.c w; rwa [hl] at this)
    clear hl
    go_enter Tryz.func45, Tryz.ntmps45
    go_wp2_with fail
    rw [← hW0]
    clear hW0
    go_wp2_with (go_at_call 60; refine (HC.out _).mono ?_; rintro e w2 ⟨rfl, rfl⟩)
    go_ret
    exact ⟨ret_bool HF.out.symm, HB.out⟩
  | true =>
    have HC : Hid (∀ w, Calls Tryz.prog 60 #[.int .u8 m.c.toNat] w fun e w' => e = .returned (.bool true) ∧ w = w') := Lib.hid (fun w => by have := proper_any m.c w; rwa [hl] at this)
    by_cases h4 : 4 < m.a.length
    · have HF := Lib.hid (fine_len h4)
      have h4' : (4 : Int) < (m.a.length : Int) := by omega
      clear hl
      go_enter Tryz.func45, Tryz.ntmps45
      go_wp2_with fail
      rw [← hW0]
      clear hW0
      go_wp2_with (go_at_call 60; refine (HC.out _).mono ?_; rintro e w2 ⟨rfl, rfl⟩)
      go_ret
      exact ⟨ret_bool HF.out.symm, HB.out⟩
    · have h4' : ¬ (4 : Int) < (m.a.length : Int) := by omega
      have HL := Lib.hid hl
      obtain ⟨t, ht⟩ : ∃ t, braB m.c = t := ⟨_, rfl⟩
      rw [ht] at HBr
      have HT := Lib.hid ht
      clear hl ht
      cases t with
      | true =>
        by_cases hz : 0 < m.a.length
        · have HF := Lib.hid (fine_bra HT.out hz)
          have hz2 : (0 : Int) < (m.a.length : Int) := by omega
          go_enter Tryz.func45, Tryz.ntmps45
          go_wp2_with fail
          rw [← hW0]
          clear hW0
          go_wp2_with (go_at_call 60; refine (HC.out _).mono ?_; rintro e w2 ⟨rfl, rfl⟩)
          refine (HBr.out _).mono ?_
          rintro e w2 ⟨rfl, hb⟩
          have HB2 := Lib.hid (HB.out.trans (hb.mono HB.out.size))
          have q1 := (hb.cell (p := ⟨w.heap.size, 1, none⟩) l1).trans q1
          clear hb
          go_wp2_with fail
          go_ret
          exact ⟨ret_bool HF.out.symm, HB2.out⟩
        · have HF := Lib.hid (fine_all HL.out (by omega) (.inr (by omega)) fun j h => by omega)
          have hl0 : m.a.length = 0 := by omega
          have hz2 : ¬ (0 : Int) < (m.a.length : Int) := by omega
          clear hl0
          go_enter Tryz.func45, Tryz.ntmps45
          go_wp2_with fail
          rw [← hW0]
          clear hW0
          go_wp2_with (go_at_call 60; refine (HC.out _).mono ?_; rintro e w2 ⟨rfl, rfl⟩)
          refine (HBr.out _).mono ?_
          rintro e w2 ⟨rfl, hb⟩
          have HB2 := Lib.hid (HB.out.trans (hb.mono HB.out.size))
          have q1 := (hb.cell (p := ⟨w.heap.size, 1, none⟩) l1).trans q1
          have l1 := Nat.lt_of_lt_of_le l1 hb.size
          clear hb
          go_wp2_with fail
          go_loop [28] (fun i => i = .int .i64 0) (fun _ => 0)
          case atStart => rfl
          case round =>
            subst hrel
            go_wp2_with fail
            go_ret
            exact ⟨ret_bool HF.out.symm, HB2.out⟩
      | false =>
        go_enter Tryz.func45, Tryz.ntmps45
        go_wp2_with fail
        rw [← hW0]
        clear hW0
        go_wp2_with (go_at_call 60; refine (HC.out _).mono ?_; rintro e w2 ⟨rfl, rfl⟩)
        refine (HBr.out _).mono ?_
        rintro e w2 ⟨rfl, hb⟩
        have HB2 := Lib.hid (HB.out.trans (hb.mono HB.out.size))
        have HV2 := Lib.hid (HV0.out.later (hb.mono (Nat.le_refl _)))
        have q1 := (hb.cell (p := ⟨w.heap.size, 1, none⟩) l1).trans q1
        have l1 := Nat.lt_of_lt_of_le l1 hb.size
        clear hb
        go_wp2_with fail
        go_loop [28] (fun i => ∃ k : Nat, k ≤ m.a.length ∧ i = .int .i64 k ∧ ∀ j, (h : j < m.a.length) → j < k → -1000000000 ≤ m.a[j] ∧ m.a[j] ≤ 1000000000) (fun i => m.a.length - (intOf i).toNat)
        case atStart => exact ⟨0, Nat.zero_le _, rfl, fun j _ h => by omega⟩
        case round =>
          obtain ⟨k, hk, rfl, hok⟩ := hrel
          have HK := Lib.hid hok
          clear hok
          by_cases hlt : k < m.a.length
          · obtain ⟨b, off, cap', hp, e1', lb⟩ := HV2.out.at hlt
            obtain rfl : p = some ⟨b, off, none⟩ := by cases hp; rfl
            obtain ⟨y, hy⟩ : ∃ y, m.a[k] = y := ⟨_, rfl⟩
            have HY : Hid (m.a[k] = y) := Lib.hid hy
            rw [hy] at e1'
            clear hp hy
            have k1 : (k : Int) < (m.a.length : Int) := by omega
            by_cases y1 : y < -1000000000
            · have HF := Lib.hid (fine_rng hlt (.inl (by rw [HY.out]; exact y1)))
              go_wp2_with fail
              go_ret
              exact ⟨ret_bool HF.out.symm, HB2.out⟩
            · by_cases y2 : 1000000000 < y
              · have HF := Lib.hid (fine_rng hlt (.inr (by rw [HY.out]; exact y2)))
                go_wp2_with fail
                go_ret
                exact ⟨ret_bool HF.out.symm, HB2.out⟩
              · have HG : Hid (∀ j, (h : j < m.a.length) → j < k + 1 → -1000000000 ≤ m.a[j] ∧ m.a[j] ≤ 1000000000) := Lib.hid (fun j h hj => by
                  rcases Nat.lt_or_eq_of_le (Nat.le_of_lt_succ hj) with h1 | h1
                  · exact HK.out j h h1
                  · subst h1; rw [HY.out]; omega)
                go_wp2_with fail
                go_round
                case rel => exact ⟨k + 1, by omega, by go_num, HG.out⟩
                case measure => simp [intOf]; omega
          · obtain rfl : k = m.a.length := by omega
            have HF := Lib.hid (fine_all HL.out (by omega) (.inl HT.out) fun j h => HK.out j h h)
            go_wp2_with fail
            go_ret
            exact ⟨ret_bool HF.out.symm, HB2.out⟩
end Go.Proofs.YtlmofdmbcddddaaGreatDoor
namespace Go.Proofs.YtlmofdmbcddddaaGreatDoor
open Go.RowKit
open WM
set_option linter.unusedVariables false
set_option linter.unusedSimpArgs false

theorem ret_two {a b c d : Int} (h1 : a = b) (h2 : c = d) : Ending.returned (.tuple #[.int .i64 a, .int .i64 c]) = .returned (.tuple #[.int .i64 b, .int .i64 d]) := by rw [h1, h2]
theorem opn_rng {l : List Md} (h : okB l l.length = true) {k : Nat} (hk : k < l.length) : 0 ≤ dep (l.take (k + 1)) ∧ dep (l.take (k + 1)) ≤ l.length := by
  have h1 := okB_iff.1 h k hk
  have h2 := dep_hi l (k + 1) (by omega)
  omega
theorem dmax_le {l : List Md} (h : okB l l.length = true) : ∀ k, k ≤ l.length → dmax l k ≤ l.length := by
  intro k
  induction k with
  | zero => intro _; rw [dmax_zero]; omega
  | succ k ih =>
    intro hk
    have := opn_rng h (k := k) (by omega)
    have := ih (by omega)
    rw [dmax_succ]; omega
/-- Open of a valid word. -/
theorem open_valid (v : Value) (l : List Md) (hc : chk l = 0) (w : World) (hv : Mods w v l) :
    Calls Tryz.prog 23 #[v] w fun e w' => ∃ p cap, e = .returned (.tuple #[.slice p l.length cap, .bool true]) ∧ Below w.heap.size w w' ∧ Ints w' (.slice p l.length cap) (opnL l l.length) := by
  have hh := chk_zero.1 hc
  refine (open_any v l (by omega) w hv).mono ?_
  rintro e w' ⟨hb, ⟨hno, _⟩ | ⟨_, v1, rfl, hi⟩⟩
  · rw [hh.2.2.1] at hno; exact absurd hno (by simp)
  · obtain ⟨p, cap, rfl⟩ := hi.slice
    rw [opnL_length] at hi ⊢
    exact ⟨p, cap, rfl, hb, hi⟩
def dpI (l : List Md) : Int := if chk l = 0 then dmax l l.length else 0
/-- k is the bracket that belongs to the one at i. -/
def IsCl (l : List Md) (i k : Nat) : Prop :=
  ∃ (hi : i < l.length) (hk : k < l.length),
  (l[i].c = 91 ∧ i < k ∧ dep (l.take (k + 1)) < dep (l.take (i + 1)) ∧ ∀ j, i < j → j < k → dep (l.take (i + 1)) ≤ dep (l.take (j + 1))) ∨
  (l[i].c = 93 ∧ k < i ∧ l[k].c = 91 ∧ dep (l.take (k + 1)) = dep (l.take (i + 1)) + 1 ∧ ∀ j, (hj : j < l.length) → k < j → j < i → ¬ (l[j].c = 91 ∧ dep (l.take (j + 1)) = dep (l.take (i + 1)) + 1))
theorem isCl_one {l : List Md} {i k k' : Nat} (h : IsCl l i k) (h' : IsCl l i k') : k = k' := by
  obtain ⟨hi, hk, h⟩ := h
  obtain ⟨_, hk', h'⟩ := h'
  rcases h with ⟨a1, a2, a3, a4⟩ | ⟨a1, a2, a3, a4, a5⟩
  · rcases h' with ⟨_, b2, b3, b4⟩ | ⟨b1, _⟩
    · rcases Nat.lt_trichotomy k k' with h | h | h
      · have := b4 k a2 h; omega
      · exact h
      · have := a4 k' b2 h; omega
    · rw [a1] at b1; exact absurd b1 (by decide)
  · rcases h' with ⟨b1, _⟩ | ⟨_, b2, b3, b4, b5⟩
    · rw [a1] at b1; exact absurd b1 (by decide)
    · rcases Nat.lt_trichotomy k k' with h | h | h
      · exact absurd ⟨b3, b4⟩ (a5 k' hk' h b2)
      · exact h
      · exact absurd ⟨a3, a4⟩ (b5 k hk h a2)
/-- Has a module at i, which is a bracket? -/
def atB (l : List Md) (i : Int) : Bool := decide (0 ≤ i) && decide (i < l.length) && braB (l.getD i.toNat ⟨0, []⟩).c
theorem atB_iff {l : List Md} {i : Int} : atB l i = true ↔ ∃ k : Nat, i = (k : Int) ∧ ∃ h : k < l.length, braB l[k].c = true := by
  unfold atB
  simp only [Bool.and_eq_true, decide_eq_true_eq]
  constructor
  · rintro ⟨⟨h1, h2⟩, h3⟩
    have hk : i.toNat < l.length := by omega
    exact ⟨i.toNat, by omega, hk, by simpa [List.getD, hk] using h3⟩
  · rintro ⟨k, rfl, h, h3⟩
    exact ⟨⟨by omega, by omega⟩, by simpa [List.getD, h] using h3⟩
theorem bra_cases {c : UInt8} (h : braB c = true) : c = 91 ∨ c = 93 := by
  unfold braB at h; simpa using h
/-- How Close ends. -/
def ClEnd (l : List Md) (i : Int) (w : World) (e : Ending) (w' : World) : Prop :=
  Below w.heap.size w w' ∧ ((chk l ≠ 0 ∧ e = .returned (.tuple #[.int .i64 0, .int .i64 (chk l)])) ∨ (chk l = 0 ∧ atB l i = false ∧ e = .returned (.tuple #[.int .i64 0, .int .i64 2])) ∨
    (chk l = 0 ∧ ∃ j k : Nat, i = (j : Int) ∧ IsCl l j k ∧ e = .returned (.tuple #[.int .i64 (k : Int), .int .i64 0])))
end Go.Proofs.YtlmofdmbcddddaaGreatDoor
namespace Go.Proofs.YtlmofdmbcddddaaGreatDoor
open Go.RowKit
open WM
set_option linter.unusedVariables false
set_option linter.unusedSimpArgs false

/-- The brackets that are open at each module, a pair's own counted at both of its brackets. -/
def lvlA (l : List Md) (i : Nat) : Int := dep (l.take (i + 1)) + (if (l.getD i ⟨0, []⟩).c = 93 then 1 else 0)
theorem lvlA_eq {l : List Md} {i : Nat} (h : i < l.length) : lvlA l i = dep (l.take (i + 1)) + (if l[i].c = 93 then 1 else 0) := by
  unfold lvlA; simp [List.getD, h]
def lvlL (l : List Md) (k : Nat) : List Int := (List.range l.length).map fun i => if i < k then lvlA l i else 0
theorem lvlL_length (l : List Md) (k : Nat) : (lvlL l k).length = l.length := by simp [lvlL]
theorem lvlL_zero (l : List Md) : lvlL l 0 = List.replicate l.length 0 := by
  apply List.ext_getElem (by simp [lvlL])
  intro i h1 h2; simp [lvlL]
theorem lvlL_get {l : List Md} {k i : Nat} (h : i < l.length) : (lvlL l k)[i]'(by rw [lvlL_length]; exact h) = if i < k then lvlA l i else 0 := by simp [lvlL]
theorem lvlL_set {l : List Md} {k : Nat} (h : k < l.length) : (lvlL l k).set k (lvlA l k) = lvlL l (k + 1) := by
  apply List.ext_getElem (by simp [lvlL])
  intro i h1 h2
  rw [List.getElem_set]
  rw [lvlL_length] at h2
  rw [lvlL_get (k := k + 1) h2]
  by_cases e : k = i
  · subst e; rw [if_pos rfl, if_pos (by omega)]
  · rw [if_neg e, lvlL_get h2]
    by_cases e2 : i < k
    · rw [if_pos e2, if_pos (by omega)]
    · rw [if_neg e2, if_neg (by omega)]
/-- How levels ends. -/
def LvEnd (l : List Md) (w : World) (e : Ending) (w' : World) : Prop :=
  Below w.heap.size w w' ∧ ((okB l l.length = false ∧ e = .returned (.tuple #[.slice none 0 0, .bool false])) ∨ (okB l l.length = true ∧ ∃ g, e = .returned (.tuple #[.slice (some ⟨g, 0, none⟩) l.length l.length, .bool (decide (dep l = 0))]) ∧ RowI w' g (lvlL l l.length)))
/-- Where levels stands. -/
structure LvAt (w : World) (l : List Md) (k : Nat) (wr : World) : Prop where
  hi : k ≤ l.length
  ok : okB l k = true
  row : RowI wr w.heap.size (lvlL l k)
  below : Below w.heap.size w wr
theorem LvAt.rng {w wr : World} {l : List Md} {k : Nat} (h : LvAt w l k wr) : 0 ≤ dep (l.take k) ∧ dep (l.take k) ≤ k := by
  refine ⟨?_, dep_hi l k h.hi⟩
  rcases Nat.eq_zero_or_pos k with h0 | h0
  · subst h0; simp [dep_nil]
  · have := okB_iff.1 h.ok (k - 1) (by omega)
    rwa [show k - 1 + 1 = k by omega] at this
theorem lvAt_start (w : World) (l : List Md) : LvAt w l 0 (w.alloc (.cells (zeros l.length) 3)) :=
  ⟨Nat.zero_le _, okB_zero l, by rw [lvlL_zero]; exact made_row _ _, (Below.refl _ _).alloc (Nat.le_refl _) _⟩
theorem lvAt_step {w wr : World} {l : List Md} {k : Nat} (h : LvAt w l k wr) (hk : k < l.length) (hd : 0 ≤ dep (l.take (k + 1))) (x : Int) (hx : x = lvlA l k) : LvAt w l (k + 1) (wr.setCell ⟨w.heap.size, k, none⟩ (.int .i64 x)) := by
  subst hx
  refine ⟨hk, by rw [okB_succ, h.ok]; simpa using hd, ?_, h.below.setCell (Nat.le_refl _) _⟩
  have := h.row.set (i := k) (by rw [lvlL_length]; exact hk) (lvlA l k)
  rwa [lvlL_set hk] at this
set_option maxRecDepth 100000 in
set_option maxHeartbeats 1600000 in
theorem levels_any (v : Value) (l : List Md) (hmax : l.length ≤ 50000) (w : World) (hv : Mods w v l) :
    Calls Tryz.prog 46 #[v] w (LvEnd l w) := by
  obtain ⟨p, cap, rfl⟩ := hv.slice
  have HV := Lib.hid hv
  have hmk : ∀ w : World, (Instr.makeSlice 25 (.int .i64 (l.length : Int)) (.int .i64 (l.length : Int))).run Tryz.prog w = .ok (.slice (some ⟨w.heap.size, 0, none⟩) l.length l.length) (w.alloc (.cells (zeros l.length) 3)) := fun w => by
    have := run_make (P := Tryz.prog) w 25 3 Tryz.t3 (.int .i64 0) Tryz.underlying25 (by kernel_rfl) (by kernel_rfl) .i64 .i64 l.length l.length (by omega) (Int.le_refl _) (by show ((8 : Nat) : Int) * (l.length : Int) ≤ _; omega) (by omega)
    rw [this]; simp only [zeros, Value.cells, Int.toNat_natCast, show (Tryz.t3).size = 1 from rfl, Nat.mul_one]
  have S0 := Lib.hid (lvAt_start w l)
  clear hv
  go_enter Tryz.func46, Tryz.ntmps46
  go_wp2_with fail
  go_loopw [2, 4, 11] (fun v n i wr => ∃ k : Nat, v = .slice (some ⟨w.heap.size, 0, none⟩) l.length l.length ∧ i = .int .i64 k ∧ n = .int .i64 (dep (l.take k)) ∧ LvAt w l k wr) (fun _ _ i _ => l.length - (intOf i).toNat)
  case atStart => exact ⟨0, rfl, rfl, by simp [dep_nil], S0.out⟩
  case round =>
    obtain ⟨k, rfl, rfl, rfl, hO⟩ := hrel
    have HO := Lib.hid hO
    have n1 := hO.hi
    have n2 := hO.rng
    have hsz := hO.below.size
    have l2 := hO.row.lt
    have HR := Lib.hid hO.row.free
    clear hO
    by_cases hlt : k < l.length
    · obtain ⟨b, off, cap', q, c, hp, e1, _, _, lb⟩ := (HV.out.later (HO.out.below.mono (Nat.le_refl _))).at hlt
      obtain rfl : p = some ⟨b, off, none⟩ := by cases hp; rfl
      have hs := dep_snoc hlt
      have hA := lvlA_eq hlt
      have f1 := HR.out k
      have q3 := HO.out.row.cell (i := k) (by rw [lvlL_length]; exact hlt)
      generalize (lvlL l k)[k]'(by rw [lvlL_length]; exact hlt) = z at q3
      have hne : b < w.heap.size ∨ w.heap.size ≤ b := Nat.lt_or_ge _ _
      have hbw : b < w.heap.size := by
        obtain ⟨b', off', cap'', q', c', hp', _, _, _, lb'⟩ := HV.out.at hlt
        cases hp'; exact lb'
      have HD : Hid (dep (l.take (k + 1)) = dep (l.take k) + dlt l[k]) := Lib.hid hs
      have HA := Lib.hid hA
      clear hp hs hA hne
      by_cases c1 : l[k].c = 91
      · have t1 : ((l[k].c.toNat : Int) == 91) = true := by rw [c1]; rfl
        have t2 : ((l[k].c.toNat : Int) == 93) = false := by rw [c1]; rfl
        have HX : Hid (dep (l.take (k + 1)) = dep (l.take k) + 1) := Lib.hid (by rw [HD.out]; unfold dlt; rw [if_pos c1])
        have T1 := Lib.hid (lvAt_step HO.out hlt (by rw [HX.out]; omega) (dep (l.take k) + 1) (by rw [HA.out, HX.out, if_neg (by rw [c1]; decide)]; omega))
        clear c1
        generalize l[k].c.toNat = cn at e1 t1 t2
        obtain ⟨d, hd⟩ : ∃ d, dep (l.take k) = d := ⟨_, rfl⟩
        rw [hd] at HX n2 T1 ⊢
        clear hd
        go_wp2_with fail
        go_roundw
        case rel => exact ⟨k + 1, rfl, by go_num, by rw [HX.out], T1.out⟩
        case measure => simp [intOf]; omega
      · by_cases c2 : l[k].c = 93
        · have t1 : ((l[k].c.toNat : Int) == 91) = false := by rw [c2]; rfl
          have t2 : ((l[k].c.toNat : Int) == 93) = true := by rw [c2]; rfl
          have HX : Hid (dep (l.take (k + 1)) = dep (l.take k) - 1) := Lib.hid (by rw [HD.out]; unfold dlt; rw [if_neg c1, if_pos c2]; omega)
          have T1 := Lib.hid (fun h => lvAt_step HO.out hlt h (dep (l.take k)) (by rw [HA.out, HX.out, if_pos c2]; omega))
          clear c1 c2
          generalize l[k].c.toNat = cn at e1 t1 t2
          obtain ⟨d, hd⟩ : ∃ d, dep (l.take k) = d := ⟨_, rfl⟩
          rw [hd] at HX n2 T1 ⊢
          clear hd
          by_cases hneg : d - 1 < 0
          · have HF : Hid (okB l l.length = false) := Lib.hid (by
              cases h : okB l l.length
              · rfl
              · have := okB_iff.1 h k hlt
                rw [HX.out] at this; omega)
            go_wp2_with fail
            go_ret2
            exact ⟨HO.out.below.setCell (Nat.le_refl _) _, .inl ⟨HF.out, rfl⟩⟩
          · have T2 := Lib.hid (T1.out (by rw [HX.out]; omega))
            go_wp2_with fail
            go_roundw
            case rel => exact ⟨k + 1, rfl, by go_num, by rw [HX.out], T2.out⟩
            case measure => simp [intOf]; omega
        · have t1 : ((l[k].c.toNat : Int) == 91) = false := by
            rw [show (91 : Int) = ((91 : UInt8).toNat : Int) from rfl, u8_eq]; exact beq_eq_false_iff_ne.2 c1
          have t2 : ((l[k].c.toNat : Int) == 93) = false := by
            rw [show (93 : Int) = ((93 : UInt8).toNat : Int) from rfl, u8_eq]; exact beq_eq_false_iff_ne.2 c2
          have HX : Hid (dep (l.take (k + 1)) = dep (l.take k)) := Lib.hid (by rw [HD.out]; unfold dlt; rw [if_neg c1, if_neg c2]; omega)
          have T1 := Lib.hid (lvAt_step HO.out hlt (by rw [HX.out]; omega) (dep (l.take k)) (by rw [HA.out, HX.out, if_neg c2]; omega))
          clear c1 c2
          generalize l[k].c.toNat = cn at e1 t1 t2
          obtain ⟨d, hd⟩ : ∃ d, dep (l.take k) = d := ⟨_, rfl⟩
          rw [hd] at HX n2 T1 ⊢
          clear hd
          have hneg2 : 0 ≤ d := n2.1
          go_wp2_with fail
          go_roundw
          case rel => exact ⟨k + 1, rfl, by go_num, by rw [HX.out], T1.out⟩
          case measure => simp [intOf]; omega
    · obtain rfl : k = l.length := by omega
      have HI := Lib.hid HO.out.row
      rw [List.take_length] at n2 ⊢
      obtain ⟨d, hd⟩ : ∃ d, dep l = d := ⟨_, rfl⟩
      have HE : Hid (∀ b, b = decide (d = 0) → LvEnd l w (.returned (.tuple #[.slice (some ⟨w.heap.size, 0, none⟩) l.length l.length, .bool b])) wr) := Lib.hid (fun b hb => ⟨HO.out.below, .inr ⟨HO.out.ok, _, by rw [hb, ← hd], HI.out⟩⟩)
      rw [hd] at n2 ⊢
      clear hd
      by_cases h0 : d = 0
      · subst h0
        go_wp2_with fail
        go_ret2
        exact HE.out _ rfl
      · have t0 : (d == 0) = false := by simpa using h0
        have HE2 := Lib.hid (HE.out false (by simp [h0]))
        clear h0
        go_wp2_with fail
        go_ret2
        exact HE2.out
theorem bad_one {l : List Md} {k : Nat} (hk : k < l.length) (h : fineB l[k] = false) : l.all fineB = false := by
  rw [List.all_eq_false]; exact ⟨l[k], List.getElem_mem hk, by simp [h]⟩
set_option maxRecDepth 100000 in
set_option maxHeartbeats 1600000 in
theorem pcheck_any (v : Value) (l : List Md) (hmax : l.length ≤ 9223372036854775807) (hargs : ∀ m ∈ l, m.a.length ≤ 9223372036854775807) (w : World) (hv : Mods w v l) :
    Calls Tryz.prog 28 #[v] w fun e w' => e = .returned (.int .i64 (chk l)) ∧ Below w.heap.size w w' := by
  obtain ⟨p, cap, rfl⟩ := hv.slice
  have HV := Lib.hid hv
  have HA := Lib.hid hargs
  clear hv hargs
  by_cases hlen : 2000 < l.length
  · have HC := Lib.hid (chk_many hlen)
    have c1 : (2000 : Int) < (l.length : Int) := by omega
    go_enter Tryz.func28, Tryz.ntmps28
    go_wp2_with fail
    go_ret
    exact ⟨ret_int HC.out.symm, Below.refl _ _⟩
  · have c1 : ¬ (2000 : Int) < (l.length : Int) := by omega
    go_enter Tryz.func28, Tryz.ntmps28
    go_wp2_with fail
    go_loopw [11] (fun i wr => ∃ k : Nat, k ≤ l.length ∧ i = .int .i64 k ∧ Below w.heap.size w wr ∧ ∀ j, (h : j < l.length) → j < k → fineB l[j] = true) (fun i _ => l.length - (intOf i).toNat)
    case atStart => exact ⟨0, Nat.zero_le _, rfl, Below.refl _ _, fun j _ h => by omega⟩
    case round =>
      obtain ⟨k, hk, rfl, hb, hok⟩ := hrel
      have HK := Lib.hid hok
      have HB := Lib.hid hb
      clear hok hb
      by_cases hlt : k < l.length
      · obtain ⟨b, off, cap', q, c, hp, e1, e2, hin, lb⟩ := (HV.out.later (HB.out.mono (Nat.le_refl _))).at hlt
        obtain rfl : p = some ⟨b, off, none⟩ := by cases hp; rfl
        have HF := Lib.hid (valid_any l[k] _ (HA.out _ (List.getElem_mem hlt)) wr hin)
        obtain ⟨t, ht⟩ : ∃ t, fineB l[k] = t := ⟨_, rfl⟩
        have HT := Lib.hid ht
        rw [ht] at HF
        clear hp hin ht
        generalize l[k].c.toNat = cn at e1 HF
        generalize l[k].a.length = an at e2 HF
        cases t with
        | false =>
          have HC := Lib.hid (chk_bad hlen (bad_one hlt HT.out))
          go_wp2_with fail
          refine HF.out.mono ?_
          rintro e w1 ⟨rfl, hb⟩
          have HB1 := Lib.hid (HB.out.trans (hb.mono HB.out.size))
          clear hb
          go_wp2_with fail
          go_ret
          exact ⟨ret_int HC.out.symm, HB1.out⟩
        | true =>
          have HG : Hid (∀ j, (h : j < l.length) → j < k + 1 → fineB l[j] = true) := Lib.hid (fun j h hj => by
            rcases Nat.lt_or_eq_of_le (Nat.le_of_lt_succ hj) with h1 | h1
            · exact HK.out j h h1
            · subst h1; exact HT.out)
          go_wp2_with fail
          refine HF.out.mono ?_
          rintro e w1 ⟨rfl, hb⟩
          have HB1 := Lib.hid (HB.out.trans (hb.mono HB.out.size))
          clear hb
          go_wp2_with fail
          go_roundw
          case rel => exact ⟨k + 1, by omega, by go_num, HB1.out, HG.out⟩
          case measure => simp [intOf]; omega
      · obtain rfl : k = l.length := by omega
        have HGd := Lib.hid (good_all fun j h => HK.out j h h)
        have HO := Lib.hid (levels_any _ l (by omega) wr (HV.out.later (HB.out.mono (Nat.le_refl _))))
        go_wp2_with fail
        refine HO.out.mono ?_
        rintro e w1 ⟨hb, ⟨hno, rfl⟩ | ⟨hyes, g, rfl, hi⟩⟩
        · have HB1 := Lib.hid (HB.out.trans (hb.mono HB.out.size))
          have HC := Lib.hid (chk_open hlen HGd.out (by rw [hno]; rfl))
          clear hb hno
          go_wp2_with fail
          go_ret
          exact ⟨ret_int HC.out.symm, HB1.out⟩
        · have HB1 := Lib.hid (HB.out.trans (hb.mono HB.out.size))
          have HY := Lib.hid hyes
          obtain ⟨t, ht⟩ : ∃ t, decide (dep l = 0) = t := ⟨_, rfl⟩
          have HT := Lib.hid ht
          rw [ht]
          clear hb hyes hi ht
          cases t with
          | true =>
            have HC : Hid (chk l = 0) := Lib.hid (chk_zero.2 ⟨by omega, HGd.out, HY.out, of_decide_eq_true HT.out⟩)
            go_wp2_with fail
            go_ret
            exact ⟨ret_int HC.out.symm, HB1.out⟩
          | false =>
            have HC := Lib.hid (chk_open hlen HGd.out (by rw [HT.out]; simp))
            go_wp2_with fail
            go_ret
            exact ⟨ret_int HC.out.symm, HB1.out⟩
/-- levels of a valid word. -/
theorem levels_valid (v : Value) (l : List Md) (hc : chk l = 0) (w : World) (hv : Mods w v l) :
    Calls Tryz.prog 46 #[v] w fun e w' => ∃ g, e = .returned (.tuple #[.slice (some ⟨g, 0, none⟩) l.length l.length, .bool true]) ∧ Below w.heap.size w w' ∧ RowI w' g (lvlL l l.length) := by
  have hh := chk_zero.1 hc
  refine (levels_any v l (by omega) w hv).mono ?_
  rintro e w' ⟨hb, ⟨hno, _⟩ | ⟨_, g, rfl, hi⟩⟩
  · rw [hh.2.2.1] at hno; exact absurd hno (by simp)
  · exact ⟨g, by rw [decide_eq_true hh.2.2.2], hb, hi⟩
end Go.Proofs.YtlmofdmbcddddaaGreatDoor
namespace Go.Proofs.YtlmofdmbcddddaaGreatDoor
open Go.RowKit
open WM
set_option linter.unusedVariables false
set_option linter.unusedSimpArgs false

/-- An append to a row of the call's own, as a step of a region that draws its order. -/
theorem step_append_own {P : Program} (w : World) {ops : Array Oper} {o : Oper} {a : Act} {K : Act → World → Prop} {Q : Exit → Act → World → Prop} {E : Prop}
    (hg : o.guard = none) (s x : Operand) (t : TypeId) (hop : o.op = Op.call { callee := Callee.builtin Builtin.append, args := #[s, x], argTypes := #[t, t] })
    (base : Nat) (e : TypeId) (i : TypeInfo) (z : Value) (size bytes : Nat) (h1 : P.underlying t = some (.slice e)) (h2 : P.info? e = some i) (h3 : i.zero = some z) (h4 : i.size = size) (h5 : i.bytes = bytes) (h6 : z.cells.size = size) (h7 : 0 < size)
    (v : Value) (k : Nat) (xs : List Value) (hs : a.eval s = v) (hown : w.ownsRow base e size v k xs) (ad : Addr) (m c : Nat) (news : List Value) (hx : a.eval x = .slice (some ad) m c) (hn : news.length = m * size)
    (hc : ∀ j u, news[j]? = some u → w.cell? (ad.add j) = some u) (h1c : ∀ u ∈ news, u.oneCell' = true) (b1 : k + m ≤ maxLen) (b2 : (k + m) * bytes ≤ 140737488355328) (b3 : base ≤ w.heap.size)
    (hK : ∀ v' w', w'.ownsRow base e size v' (k + m) (xs ++ news) → w.grownBy w' v.ownBlock → (v' = .slice none 0 0 ↔ v = .slice none 0 0 ∧ m = 0) → (v'.ownBlock = v.ownBlock ∨ v'.ownBlock = some w.heap.size) → K (a.put o.dst v') w') :
    if Region.wanted o (yielded ops a.tmps) = true then Oper.wp P o a w K Q else E := by
  have hw : Region.wanted o (yielded ops a.tmps) = true := by simp [Region.wanted, hg]
  rw [if_pos hw]
  obtain ⟨v', w', hrun, r1, r2, r3, r4⟩ := run_append_own_at (P := P) w base t o.type e i z size bytes h1 h2 h3 h4 h5 h6 h7 v k xs hown ad m c news hn hc h1c b1 b2 b3
  unfold Oper.wp
  simp [execOp, hop, resolve, invoke, builtin, hs, hx, hrun, Result.andThen]
  exact hK _ _ r1 r2 r3 r4
/-- The same where nothing comes, out of a slice that is nil. -/
theorem step_append_nil {P : Program} (w : World) {ops : Array Oper} {o : Oper} {a : Act} {K : Act → World → Prop} {Q : Exit → Act → World → Prop} {E : Prop}
    (hg : o.guard = none) (s x : Operand) (t : TypeId) (hop : o.op = Op.call { callee := Callee.builtin Builtin.append, args := #[s, x], argTypes := #[t, t] })
    (base : Nat) (e : TypeId) (i : TypeInfo) (size : Nat) (h1 : P.underlying t = some (.slice e)) (h2 : P.info? e = some i)
    (v : Value) (k : Nat) (xs : List Value) (hs : a.eval s = v) (hown : w.ownsRow base e size v k xs) (hx : a.eval x = .slice none 0 0)
    (hK : K (a.put o.dst v) w) :
    if Region.wanted o (yielded ops a.tmps) = true then Oper.wp P o a w K Q else E := by
  have hw : Region.wanted o (yielded ops a.tmps) = true := by simp [Region.wanted, hg]
  rw [if_pos hw]
  have hrun := run_append_owned_none (P := P) (w := w) base t o.type e i size h1 h2 v k xs hown
  unfold Oper.wp
  simp [execOp, hop, resolve, invoke, builtin, hs, hx, hrun, Result.andThen]
  exact hK
theorem info_mod : (Tryz.prog.info? 27).map (fun i => (i.zero, i.size, i.bytes)) = some (some (.agg #[.int .u8 0, .slice none 0 0]), 2, 32) := by kernel_rfl
/-- The cells of modules whose args are given. -/
def modC : List Md → List Value → List Value
  | m :: l, v :: vs => .int .u8 m.c.toNat :: v :: modC l vs
  | _, _ => []
theorem modC_length : ∀ (l : List Md) (vs : List Value), l.length = vs.length → (modC l vs).length = l.length * 2
  | [], [], _ => rfl
  | m :: l, v :: vs, h => by
    have := modC_length l vs (by simpa using h)
    simp [modC, this]; omega
  | [], _ :: _, h => by simp at h
  | _ :: _, [], h => by simp at h
theorem modC_snoc : ∀ (l : List Md) (vs : List Value) (m : Md) (v : Value), l.length = vs.length → modC (l ++ [m]) (vs ++ [v]) = modC l vs ++ [.int .u8 m.c.toNat, v]
  | [], [], m, v, _ => rfl
  | a :: l, b :: vs, m, v, h => by
    have := modC_snoc l vs m v (by simpa using h)
    simp [modC, this]
  | [], _ :: _, _, _, h => by simp at h
  | _ :: _, [], _, _, h => by simp at h
theorem modC_get : ∀ (l : List Md) (vs : List Value) (k : Nat) (h1 : k < l.length) (h2 : k < vs.length), (modC l vs)[k * 2]? = some (.int .u8 l[k].c.toNat) ∧ (modC l vs)[k * 2 + 1]? = some vs[k]
  | m :: l, v :: vs, 0, _, _ => ⟨rfl, rfl⟩
  | m :: l, v :: vs, k + 1, h1, h2 => by
    have := modC_get l vs k (by simpa using h1) (by simpa using h2)
    have e : (k + 1) * 2 = k * 2 + 1 + 1 := by omega
    simp only [modC, e, List.getElem?_cons_succ, List.getElem_cons_succ]
    exact this
/-- Args in memory of the call's own. -/
structure ArgOwn (w : World) (base : Nat) (rb : Option Nat) (v : Value) (a : List Int) : Prop where
  own : w.ownsRow base 3 1 v a.length (valsL a)
  some : ∃ b cap, v = .slice (Option.some ⟨b, 0, Option.none⟩) a.length cap ∧ base ≤ b ∧ b < w.heap.size
  apart : v.ownBlock ≠ rb
/-- A word in memory of the call's own. -/
structure ModOwn (w : World) (base : Nat) (v : Value) (l : List Md) (vs : List Value) : Prop where
  len : vs.length = l.length
  row : w.ownsRow base 27 2 v l.length (modC l vs)
  args : ∀ k, (h : k < l.length) → (h2 : k < vs.length) → ArgOwn w base v.ownBlock vs[k] l[k].a
theorem ArgOwn.ints {w : World} {base : Nat} {rb : Option Nat} {v : Value} {a : List Int} (h : ArgOwn w base rb v a) : Ints w v a := ints_of_owned h.own
theorem ModOwn.mods {w : World} {base : Nat} {v : Value} {l : List Md} {vs : List Value} (h : ModOwn w base v l vs) : Mods w v l := by
  rcases Nat.eq_zero_or_pos l.length with h0 | h0
  · have e : l = [] := List.length_eq_zero_iff.1 h0
    subst e
    rcases h.row.2 with ⟨hv, _⟩ | ⟨g, cap, cur, hv, _⟩
    · rw [hv]; exact .none _ _
    · rw [hv]; exact .none _ _
  · rcases h.row.2 with ⟨_, h1⟩ | ⟨g, cap, cur, hv, hb, hg, hc1, hc2, hsz, htake⟩
    · omega
    · rw [hv]
      have hcell : ∀ j, j < l.length * 2 → w.cell? ⟨g, j, none⟩ = (modC l vs)[j]? := by
        intro j hj
        rw [← htake, List.getElem?_take_of_lt hj, Array.getElem?_toList]
        simp [World.cell?, hg]
      refine .some g 0 cap l h0 (lt_of_block hg) fun i hi => ?_
      have hv2 : i < vs.length := by rw [h.len]; exact hi
      obtain ⟨g1, g2⟩ := modC_get l vs i hi hv2
      have ha := h.args i hi hv2
      obtain ⟨b, c, hb2, _⟩ := ha.some
      refine ⟨by rw [Nat.zero_add, hcell _ (by omega), g1], vs[i], by rw [Nat.zero_add, hcell _ (by omega), g2], ha.ints, .inr ⟨_, _, _, hb2⟩⟩
/-- Args are as they were in a world that has grown otherwise. -/
theorem ArgOwn.kept {w w' : World} {base : Nat} {rb rb' row : Option Nat} {v : Value} {a : List Int} (h : ArgOwn w base rb v a) (hg : w.grownBy w' row) (hne : v.ownBlock ≠ row) (hr : v.ownBlock ≠ rb') : ArgOwn w' base rb' v a := by
  obtain ⟨b, c, hb, h1, h2⟩ := h.some
  exact ⟨h.own.kept hg (.inr hne), ⟨b, c, hb, h1, Nat.lt_of_lt_of_le h2 hg.size⟩, hr⟩
/-- Where Twin stands. -/
structure TwAt (w : World) (l : List Md) (k : Nat) (v : Value) (wr : World) : Prop where
  hi : k ≤ l.length
  below : Below w.heap.size w wr
  own : ∃ vs, ModOwn wr w.heap.size v (l.take k) vs
theorem twAt_start (w : World) (l : List Md) : TwAt w l 0 (.slice none 0 0) w :=
  ⟨Nat.zero_le _, Below.refl _ _, [], by simp, by simpa [modC] using World.ownsRow_nil w w.heap.size 27 2, fun k h _ => by simp at h⟩
theorem owns_mono {w : World} {b b' n size : Nat} {e : TypeId} {v : Value} {xs : List Value} (h : w.ownsRow b e size v n xs) (hb : b' ≤ b) : w.ownsRow b' e size v n xs := by
  refine ⟨h.1, ?_⟩
  rcases h.2 with h2 | ⟨g, cap, cur, h1, h2, h3⟩
  · exact .inl h2
  · exact .inr ⟨g, cap, cur, h1, by omega, h3⟩
theorem owns_lt {w : World} {b n size : Nat} {e : TypeId} {v : Value} {xs : List Value} (h : w.ownsRow b e size v n xs) : ∀ g, v.ownBlock = some g → b ≤ g ∧ g < w.heap.size := by
  intro g hg
  rcases h.2 with ⟨h2, _⟩ | ⟨g', cap, cur, h1, h2, h3, _⟩
  · rw [h2] at hg; simp [Value.ownBlock] at hg
  · rw [h1] at hg; simp [Value.ownBlock] at hg; subst hg; exact ⟨h2, lt_of_block h3⟩
theorem grown_of_below {X Y : World} (h : Below X.heap.size X Y) (row : Option Nat) : X.grownBy Y row := ⟨h.os, h.tape, h.output, h.size, fun k hk _ => h.block k hk⟩
theorem twAt_step {w wr X1 X2 X3 X4 : World} {l : List Md} {k : Nat} {v v1 v2 : Value} {vs : List Value} (hk : k < l.length) (hB : Below w.heap.size w wr) (hO : ModOwn wr w.heap.size v (l.take k) vs)
    (e1 : Below wr.heap.size wr X1) (s1 : X1.heap.size = wr.heap.size + 1)
    (o1 : X2.ownsRow wr.heap.size 3 1 v1 l[k].a.length (valsL l[k].a)) (g1 : X1.grownBy X2 (some wr.heap.size)) (hv1 : ∃ b cap, v1 = .slice (some ⟨b, 0, none⟩) l[k].a.length cap) (b1 : v1.ownBlock = some wr.heap.size ∨ v1.ownBlock = some X1.heap.size)
    (e3 : Below X2.heap.size X2 X3) (s3 : X2.heap.size < X3.heap.size)
    (o4 : X4.ownsRow w.heap.size 27 2 v2 (k + 1) (modC (l.take k) vs ++ [.int .u8 l[k].c.toNat, v1])) (g4 : X3.grownBy X4 v.ownBlock) (b4 : v2.ownBlock = v.ownBlock ∨ v2.ownBlock = some X3.heap.size) :
    TwAt w l (k + 1) v2 X4 := by
  have hlen : (l.take k).length = k := by rw [List.length_take]; omega
  have hvl := owns_lt hO.row
  have z1 := hB.size
  have z2 := g1.size
  have z3 := e3.size
  have z4 := g4.size
  have b12 : Below w.heap.size w X2 := (hB.trans (e1.mono z1)).grown g1 (by omega) (fun j e => by cases e; exact z1)
  have b13 : Below w.heap.size w X3 := b12.trans (e3.mono b12.size)
  have b14 : Below w.heap.size w X4 := b13.grown g4 b13.size (fun j e => (hvl j e).1)
  have hg0 : v.ownBlock ≠ some wr.heap.size := fun e => by have := (hvl _ e).2; omega
  -- the new args
  have a1 : ArgOwn X2 w.heap.size v.ownBlock v1 l[k].a := by
    obtain ⟨b, cap, hb⟩ := hv1
    have hb2 := owns_lt o1 b (by rw [hb]; rfl)
    refine ⟨owns_mono o1 z1, ⟨b, cap, hb, by omega, hb2.2⟩, fun e => ?_⟩
    have h3 : v.ownBlock = some b := by rw [← e, hb]; rfl
    have := (hvl b h3).2
    omega
  have n1 : v1.ownBlock ≠ v2.ownBlock := by
    obtain ⟨b, cap, hb⟩ := hv1
    have hb2 := owns_lt o1 b (by rw [hb]; rfl)
    intro e
    have e5 : v1.ownBlock = some b := by rw [hb]; rfl
    rcases b4 with h | h
    · have := (hvl b (by rw [← h, ← e, e5])).2; omega
    · rw [e5, h] at e
      have := Option.some.inj e; omega
  have a1' : ArgOwn X4 w.heap.size v2.ownBlock v1 l[k].a :=
    (a1.kept (rb' := v.ownBlock) (grown_of_below e3 none) (by obtain ⟨b, cap, hb⟩ := hv1; rw [hb]; simp [Value.ownBlock]) a1.apart).kept g4 a1.apart n1
  refine ⟨hk, b14, vs ++ [v1], ?_⟩
  have ht : l.take (k + 1) = l.take k ++ [l[k]] := by rw [List.take_add_one, List.getElem?_eq_getElem hk]; rfl
  have hl2 : (l.take (k + 1)).length = k + 1 := by rw [List.length_take]; omega
  refine ⟨by rw [List.length_append, hO.len, hlen, hl2]; rfl, ?_, ?_⟩
  · rw [hl2, ht, modC_snoc _ _ _ _ (by rw [hO.len])]; exact o4
  · intro j hj hj2
    rw [hl2] at hj
    rcases Nat.lt_or_eq_of_le (Nat.le_of_lt_succ hj) with h | h
    · have hj3 : j < (l.take k).length := by rw [hlen]; exact h
      have hj4 : j < vs.length := by rw [hO.len]; exact hj3
      have e5 : (l.take (k + 1))[j] = (l.take k)[j] := by simp
      have e6 : (vs ++ [v1])[j] = vs[j] := List.getElem_append_left hj4
      rw [e5, e6]
      have A := hO.args j hj3 hj4
      obtain ⟨b, cap, hb, q1, q2⟩ := A.some
      have ob : vs[j].ownBlock = some b := by rw [hb]; rfl
      have m1 : vs[j].ownBlock ≠ v2.ownBlock := by
        intro e
        rcases b4 with h | h
        · exact A.apart (e.trans h)
        · rw [ob, h] at e
          have := Option.some.inj e; omega
      refine (((A.kept (rb' := v.ownBlock) (grown_of_below e1 none) (by rw [ob]; simp) A.apart).kept (rb' := v.ownBlock) g1 (by rw [ob]; intro e; have := Option.some.inj e; omega) A.apart).kept (rb' := v.ownBlock) (grown_of_below e3 none) (by rw [ob]; simp) A.apart).kept g4 A.apart m1
    · subst h
      have e5 : (l.take (j + 1))[j] = l[j] := by simp
      have e6 : (vs ++ [v1])[j]'hj2 = v1 := by
        rw [List.getElem_append_right (by rw [hO.len, hlen]; omega)]
        simp
      rw [e5, e6]; exact a1'
theorem two_new (w : World) (x y : Value) (t : TypeId) : ∀ j u, [x, y][j]? = some u → (w.alloc (.cells #[x, y] t)).cell? ((⟨w.heap.size, 0, none⟩ : Addr).add j) = some u := by
  intro j u h
  have e := heap_alloc_new w (.cells #[x, y] t)
  match j, h with
  | 0, h => simp at h; subst h; exact cell_two0 e
  | 1, h => simp at h; subst h; exact cell_two1 e
  | j + 2, h => simp at h
theorem owned_shape {w : World} {base n size : Nat} {e : TypeId} {v : Value} {xs : List Value} (h : w.ownsRow base e size v n xs) (hn : v ≠ .slice none 0 0) : ∃ b cap, v = .slice (some ⟨b, 0, none⟩) n cap := by
  rcases h.2 with ⟨h2, _⟩ | ⟨g, cap, cur, h1, _⟩
  · exact absurd h2 hn
  · exact ⟨g, cap, h1⟩
theorem vals_one (l : List Int) : ∀ u ∈ valsL l, u.oneCell' = true := by
  intro u hu
  simp [valsL] at hu
  obtain ⟨x, _, rfl⟩ := hu
  rfl
theorem ints_cells {w : World} {ad : Addr} {n c : Nat} {a : List Int} (h : Ints w (.slice (some ad) n c) a) : ∀ W, Below w.heap.size w W → ∀ j u, (valsL a)[j]? = some u → W.cell? (ad.add j) = some u := by
  intro W hb j u hu
  have hj : j < a.length := by
    have := (List.getElem?_eq_some_iff.1 hu).1
    simpa [valsL] using this
  obtain ⟨b, off, cap, hv, hc, _⟩ := (h.later hb).at hj
  cases hv
  have e : (valsL a)[j]? = some (.int .i64 a[j]) := by simp [valsL, hj]
  rw [e] at hu
  rw [show (⟨b, off, none⟩ : Addr).add j = ⟨b, off + j, none⟩ by simp [Addr.add], hc]; exact hu
theorem far_cell {X Y : World} {row : Option Nat} (hg : X.grownBy Y row) (a : Addr) (hlt : a.block < X.heap.size) (hne : some a.block ≠ row) : Y.cell? a = X.cell? a := by
  simp only [World.cell?, hg.block a.block hlt hne]
end Go.Proofs.YtlmofdmbcddddaaGreatDoor
namespace Go.Proofs.YtlmofdmbcddddaaGreatDoor
open Go.RowKit
open WM
set_option linter.unusedVariables false
set_option linter.unusedSimpArgs false

theorem run_copy_many {P : Program} (w : World) (dT sT ty elem : TypeId) (sz g n c1 c2 : Nat) (a : Addr) (cur : Array Value) (t : TypeId) (cs : List Value)
    (hu : P.underlying dT = some (.slice elem)) (hs : (P.info? elem).map (·.size) = some sz)
    (hg : w.heap[g]? = some (.cells cur t (0, 0))) (hn : cs.length = n * sz)
    (hsrc : ∀ j v, cs[j]? = some v → w.cell? (a.add j) = some v) (hfit : cs.length ≤ cur.size) (h1 : ∀ v ∈ cs, v.oneCell' = true) :
    (Builtin.copy_ #[dT, sT] ty #[.slice (some ⟨g, 0, none⟩) n c1, .slice (some a) n c2]).run P w =
      .ok (goInt n) (w.setRow g (cs ++ cur.toList.drop cs.length).toArray) := by
  have hl := run_loadCells_list (P := P) w a cs hsrc
  have hst := run_storeCells_at P g 0 t cs 0 cur w hg (by simpa using hfit) h1
  rw [hn] at hl
  cases hq : P.info? elem with
  | none => simp [hq] at hs
  | some i =>
    have hi : i.size = sz := by simpa [hq] using hs
    simp [Builtin.copy_, run_underlying hu, Builtin.lenOf, Builtin.firstCells, sizeOf, typeInfo, hq, hi, hl, hst]
theorem copy_run {P : Program} (w0 : World) (T0 : Array Value) (tt : TypeId) (dT ty elem : TypeId) (sz n c2 : Nat) (a : Addr) (cs : List Value)
    (hu : P.underlying dT = some (.slice elem)) (hs : (P.info? elem).map (·.size) = some sz) (hn : cs.length = n * sz)
    (hsrc : ∀ j v, cs[j]? = some v → (w0.alloc (.cells T0 tt)).cell? (a.add j) = some v) (hfit : T0.size = n * sz) (h1 : ∀ v ∈ cs, v.oneCell' = true) :
    ∃ W, (Builtin.copy_ #[dT, dT] ty #[.slice (some ⟨w0.heap.size, 0, none⟩) n n, .slice (some a) n c2]).run P (w0.alloc (.cells T0 tt)) = .ok (.int .i64 (n : Int)) W ∧ W.heap[w0.heap.size]? = some (.cells cs.toArray tt (0, 0)) ∧ Below w0.heap.size w0 W := by
  have hg := heap_alloc_new w0 (.cells T0 tt)
  have hrun := run_copy_many (P := P) (w0.alloc (.cells T0 tt)) dT dT ty elem sz w0.heap.size n n c2 a T0 tt cs hu hs hg hn hsrc (by omega) h1
  have e : T0.toList.drop cs.length = [] := List.drop_eq_nil_of_le (by rw [Array.length_toList]; omega)
  rw [e, List.append_nil] at hrun
  exact ⟨_, hrun, setRow_heap _ _ _ _ tt _ hg, below_setRow ((Below.refl _ _).alloc (Nat.le_refl _) _) (Nat.le_refl _) _⟩
theorem valsL_length (l : List Int) : (valsL l).length = l.length := by simp [valsL]
/-- A row that has been filled is owned. -/
theorem filled_own {w w' : World} {g n size : Nat} {cs : List Value} {e : TypeId} {base : Nat} (h : w'.heap[g]? = some (.cells cs.toArray e (0, 0))) (hb : base ≤ g) (hn : cs.length = n * size) (hm : n ≤ maxLen) :
    w'.ownsRow base e size (.slice (some ⟨g, 0, none⟩) n n) n cs :=
  ⟨hn, .inr ⟨g, n, cs.toArray, rfl, hb, h, Nat.le_refl _, hm, by simpa using hn, by rw [List.toList_toArray, ← hn, List.take_length]⟩⟩
theorem nili_no (ad : Addr) (n c : Nat) (w : World) : (binOp .eql 25 (.slice (some ad) n c) (.slice none 0 0)).run Tryz.prog w = .ok (.bool false) w := run_eql_slice_nil w _ _ (some ad) n c Tryz.underlying25
theorem nili_yes (w : World) : (binOp .eql 25 (.slice none 0 0) (.slice none 0 0)).run Tryz.prog w = .ok (.bool true) w := run_eql_slice_nil w _ _ none 0 0 Tryz.underlying25
theorem nilm_no (ad : Addr) (n c : Nat) (w : World) : (binOp .eql 22 (.slice (some ad) n c) (.slice none 0 0)).run Tryz.prog w = .ok (.bool false) w := run_eql_slice_nil w _ _ (some ad) n c Tryz.underlying22
theorem nilm_yes (w : World) : (binOp .eql 22 (.slice none 0 0) (.slice none 0 0)).run Tryz.prog w = .ok (.bool true) w := run_eql_slice_nil w _ _ none 0 0 Tryz.underlying22
set_option maxRecDepth 100000 in
set_option maxHeartbeats 800000 in
theorem copiedi_any (v : Value) (a : List Int) (hmax : a.length ≤ 1000000) (w : World) (hv : Ints w v a) (hnil : NilOr v) :
    Calls Tryz.prog 53 #[v] w fun e w' => ∃ v', e = .returned v' ∧ Below w.heap.size w w' ∧ w'.ownsRow w.heap.size 3 1 v' a.length (valsL a) := by
  rcases hnil with rfl | ⟨ad, n, c, rfl⟩
  · obtain ⟨p, cap, hp⟩ := hv.slice
    simp only [Value.slice.injEq] at hp
    have ha : a = [] := List.length_eq_zero_iff.1 hp.2.1.symm
    subst ha
    clear hp hv
    have hny := nili_yes
    go_enter Tryz.func53, Tryz.ntmps53
    go_wp2_with fail
    go_ret
    exact ⟨_, rfl, Below.refl _ _, World.ownsRow_nil _ _ _ _⟩
  · obtain ⟨p, cap, hp⟩ := hv.slice
    simp only [Value.slice.injEq] at hp
    obtain ⟨hpa, hn, hcc⟩ := hp
    clear hpa hcc
    subst hn
    have HC := Lib.hid (ints_cells hv)
    have hmk : ∀ w : World, (Instr.makeSlice 25 (.int .i64 (a.length : Int)) (.int .i64 (a.length : Int))).run Tryz.prog w = .ok (.slice (some ⟨w.heap.size, 0, none⟩) a.length a.length) (w.alloc (.cells (zeros a.length) 3)) := fun w => by
      have := run_make (P := Tryz.prog) w 25 3 Tryz.t3 (.int .i64 0) Tryz.underlying25 (by kernel_rfl) (by kernel_rfl) .i64 .i64 a.length a.length (by omega) (Int.le_refl _) (by show ((8 : Nat) : Int) * (a.length : Int) ≤ _; omega) (by omega)
      rw [this]; simp only [zeros, Value.cells, Int.toNat_natCast, show (Tryz.t3).size = 1 from rfl, Nat.mul_one]
    have HL := Lib.hid (valsL_length a)
    have HE : Hid (∀ w' : World, w'.heap[w.heap.size]? = some (.cells (valsL a).toArray 3 (0, 0)) → w'.ownsRow w.heap.size 3 1 (.slice (some ⟨w.heap.size, 0, none⟩) a.length a.length) a.length (valsL a)) := Lib.hid (fun w' h => filled_own (w := w) h (Nat.le_refl _) (by rw [valsL_length]; omega) (by rw [show maxLen = 9223372036854775807 from rfl]; omega))
    have HZ := Lib.hid (zeros_size a.length)
    obtain ⟨cs, hcs⟩ : ∃ cs, valsL a = cs := ⟨_, rfl⟩
    have HO : Hid (∀ u ∈ cs, u.oneCell' = true) := Lib.hid (by rw [← hcs]; exact vals_one a)
    rw [hcs] at HC HL HE ⊢
    clear hv hcs
    have hnn := nili_no ad
    generalize a.length = n at *
    obtain ⟨W1, hrun, hw1, hb1⟩ := copy_run (P := Tryz.prog) w (zeros n) 3 25 3 3 1 n c ad cs Tryz.underlying25 (by kernel_rfl) (by rw [HL.out, Nat.mul_one]) (HC.out _ ((Below.refl _ _).alloc (Nat.le_refl _) _)) (by rw [HZ.out, Nat.mul_one]) HO.out
    have HW := Lib.hid hb1
    have HW1 := Lib.hid (HE.out _ hw1)
    clear hb1 hw1
    go_enter Tryz.func53, Tryz.ntmps53
    go_wp2_with fail
    go_ret
    exact ⟨_, rfl, HW.out, HW1.out⟩
/-- A list's modules lie somewhere: their cells. -/
theorem mods_vals {w : World} {ad : Addr} {n c : Nat} {l : List Md} (h : Mods w (.slice (some ad) n c) l) :
    ∃ vs, vs.length = l.length ∧ (∀ W, Below w.heap.size w W → ∀ j u, (modC l vs)[j]? = some u → W.cell? (ad.add j) = some u) ∧ (∀ k, (h : k < l.length) → (h2 : k < vs.length) → Ints w vs[k] l[k].a ∧ NilOr vs[k]) ∧ ∀ u ∈ modC l vs, u.oneCell' = true := by
  cases h with
  | none p cap => exact ⟨[], rfl, fun W _ j u hu => by simp [modC] at hu, fun k h => by simp at h, fun u hu => by simp [modC] at hu⟩
  | some b off cap _ hpos hlt hx =>
    have hch : ∀ i : Fin l.length, ∃ v, w.cell? ⟨b, off + i.1 * 2 + 1, none⟩ = some v ∧ Ints w v l[i.1].a ∧ NilOr v := fun i => (hx i.1 i.2).2
    obtain ⟨f, hf⟩ : ∃ f : Fin l.length → Value, ∀ i, w.cell? ⟨b, off + i.1 * 2 + 1, none⟩ = some (f i) ∧ Ints w (f i) l[i.1].a ∧ NilOr (f i) := ⟨fun i => Classical.choose (hch i), fun i => Classical.choose_spec (hch i)⟩
    have hlen : (List.ofFn f).length = l.length := List.length_ofFn
    refine ⟨List.ofFn f, hlen, ?_, ?_, ?_⟩
    · intro W hb j u hu
      have hj : j < l.length * 2 := by
        have := (List.getElem?_eq_some_iff.1 hu).1
        rwa [modC_length _ _ hlen.symm] at this
      have hk : j / 2 < l.length := by omega
      have g := modC_get l (List.ofFn f) (j / 2) hk (by rw [hlen]; exact hk)
      rw [show (⟨b, off, none⟩ : Addr).add j = ⟨b, off + j, none⟩ by simp [Addr.add], hb.cell (p := ⟨b, off + j, none⟩) hlt]
      rcases Nat.mod_two_eq_zero_or_one j with h0 | h0
      · have e : j = j / 2 * 2 := by omega
        have h1 := (hx (j / 2) hk).1
        rw [← e] at g h1
        rw [g.1] at hu
        rw [h1]; exact hu
      · have e : j = j / 2 * 2 + 1 := by omega
        have h1 := (hf ⟨j / 2, hk⟩).1
        simp only [Nat.add_assoc] at h1
        rw [← e] at g h1
        rw [g.2] at hu
        rw [h1, ← hu]; simp
    · intro k h1 h2
      have := (hf ⟨k, h1⟩).2
      simpa using this
    · intro u hu
      obtain ⟨j, hj, rfl⟩ := List.mem_iff_getElem.1 hu
      rw [modC_length _ _ hlen.symm] at hj
      have hk : j / 2 < l.length := by omega
      have g := modC_get l (List.ofFn f) (j / 2) hk (by rw [hlen]; exact hk)
      rcases Nat.mod_two_eq_zero_or_one j with h0 | h0
      · have e : j = j / 2 * 2 := by omega
        rw [← e] at g
        have := g.1
        rw [List.getElem?_eq_getElem (by rw [modC_length _ _ hlen.symm]; exact hj)] at this
        rw [Option.some.inj this]; rfl
      · have e : j = j / 2 * 2 + 1 := by omega
        rw [← e] at g
        have := g.2
        rw [List.getElem?_eq_getElem (by rw [modC_length _ _ hlen.symm]; exact hj)] at this
        rw [Option.some.inj this]
        obtain ⟨p, c, hp⟩ := (hf ⟨j / 2, hk⟩).2.1.slice
        simp [hp]; rfl
theorem made_mods (n : Nat) (hn : n ≤ 50000) (w : World) : (Instr.makeSlice 22 (.int .i64 (n : Int)) (.int .i64 (n : Int))).run Tryz.prog w = .ok (.slice (some ⟨w.heap.size, 0, none⟩) n n) (w.alloc (.cells (madeCells #[.int .u8 0, .slice none 0 0] (n * 2)) 27)) := by
  have := run_make (P := Tryz.prog) w 22 27 Tryz.t27 (.agg #[.int .u8 0, .slice none 0 0]) Tryz.underlying22 (by kernel_rfl) (by kernel_rfl) .i64 .i64 n n (by omega) (Int.le_refl _) (by show ((32 : Nat) : Int) * (n : Int) ≤ _; omega) (by omega)
  rw [this]; simp only [Value.cells, Int.toNat_natCast, show (Tryz.t27).size = 2 from rfl]
/-- How a list of modules is copied: its row, not its args. -/
def CpEnd (l : List Md) (w : World) (e : Ending) (w' : World) : Prop :=
  ∃ v' vs, e = .returned v' ∧ Below w.heap.size w w' ∧ vs.length = l.length ∧ w'.ownsRow w.heap.size 27 2 v' l.length (modC l vs) ∧ (∀ k, (h : k < l.length) → (h2 : k < vs.length) → Ints w vs[k] l[k].a ∧ NilOr vs[k])
set_option maxRecDepth 100000 in
set_option maxHeartbeats 800000 in
theorem copiedm_any (v : Value) (l : List Md) (hmax : l.length ≤ 50000) (w : World) (hv : Mods w v l) (hnil : NilOr v) :
    Calls Tryz.prog 52 #[v] w (CpEnd l w) := by
  rcases hnil with rfl | ⟨ad, n, c, rfl⟩
  · obtain ⟨p, cap, hp⟩ := hv.slice
    simp only [Value.slice.injEq] at hp
    have ha : l = [] := List.length_eq_zero_iff.1 hp.2.1.symm
    subst ha
    clear hp hv
    have hny := nilm_yes
    go_enter Tryz.func52, Tryz.ntmps52
    go_wp2_with fail
    go_ret
    exact ⟨_, [], rfl, Below.refl _ _, rfl, World.ownsRow_nil _ _ _ _, fun k h => by simp at h⟩
  · obtain ⟨p, cap, hp⟩ := hv.slice
    simp only [Value.slice.injEq] at hp
    obtain ⟨hpa, hn, hcc⟩ := hp
    clear hpa hcc
    subst hn
    obtain ⟨vs, hvl, hC, hI, hO⟩ := mods_vals hv
    have HC := Lib.hid hC
    have hmk := fun w => made_mods l.length hmax w
    have HL : Hid ((modC l vs).length = l.length * 2) := Lib.hid (modC_length _ _ hvl.symm)
    have HE : Hid (∀ w' : World, Below w.heap.size w w' → w'.heap[w.heap.size]? = some (.cells (modC l vs).toArray 27 (0, 0)) → CpEnd l w (.returned (.slice (some ⟨w.heap.size, 0, none⟩) l.length l.length)) w') := Lib.hid (fun w' hb h => ⟨_, vs, rfl, hb, hvl, filled_own (w := w) h (Nat.le_refl _) (modC_length _ _ hvl.symm) (by rw [show maxLen = 9223372036854775807 from rfl]; omega), hI⟩)
    have HZ : Hid ((madeCells #[.int .u8 0, .slice none 0 0] (l.length * 2)).size = l.length * 2) := Lib.hid (size_madeCells _ _)
    have HO := Lib.hid hO
    obtain ⟨cs, hcs⟩ : ∃ cs, modC l vs = cs := ⟨_, rfl⟩
    rw [hcs] at HC HL HE HO
    clear hv hcs hvl hC hI hO
    have hnn := nilm_no ad
    generalize l.length = n at *
    obtain ⟨W1, hrun, hw1, hb1⟩ := copy_run (P := Tryz.prog) w (madeCells #[.int .u8 0, .slice none 0 0] (n * 2)) 27 22 3 27 2 n c ad cs Tryz.underlying22 (by kernel_rfl) HL.out (HC.out _ ((Below.refl _ _).alloc (Nat.le_refl _) _)) HZ.out HO.out
    have HW := Lib.hid (HE.out _ hb1 hw1)
    clear hb1 hw1
    go_enter Tryz.func52, Tryz.ntmps52
    go_wp2_with fail
    go_ret
    exact HW.out
end Go.Proofs.YtlmofdmbcddddaaGreatDoor
