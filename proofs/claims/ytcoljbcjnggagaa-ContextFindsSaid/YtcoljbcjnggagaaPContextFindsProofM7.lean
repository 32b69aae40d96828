/-
  Texts of the proof, merged: PWordPrA, PWordPrB, PWordClM, PWordPrC, PRewPrB, PConPrA.
-/
import Derived.Test.YtcoljbcjnggagaaPContextFindsProofM3
import Derived.Test.YtcoljbcjnggagaaShelfI
import Derived.Lib.IndexLaws
import Derived.Test.YtcoljbcjnggagaaPContextFindsProofM6
import Derived.Test.YtcoljbcjnggagaaPContextFindsProofM4
import Derived.Lib.QuietBelow
namespace Go.Proofs.Ytcoljbcjnggagaa
open Go.RowKit
open WM
set_option linter.unusedVariables false
set_option linter.unusedSimpArgs false

theorem idx_nm (c : UInt8) : (0 ≤ Lib.indexByte nmS.data.toList c) ↔ (c == 43 || c == 45 || c == 38 || c == 94 || c == 124 || c == 33 || c == 91 || c == 93) = true := by
  have all : ∀ n : Fin 256, (0 ≤ Lib.indexByte nmS.data.toList (UInt8.ofNat n.1)) ↔ ((UInt8.ofNat n.1) == 43 || (UInt8.ofNat n.1) == 45 || (UInt8.ofNat n.1) == 38 || (UInt8.ofNat n.1) == 94 || (UInt8.ofNat n.1) == 124 || (UInt8.ofNat n.1) == 33 || (UInt8.ofNat n.1) == 91 || (UInt8.ofNat n.1) == 93) = true := by decide +kernel
  have e : UInt8.ofNat c.toNat = c := UInt8.toNat_inj.1 (by rw [UInt8.toNat_ofNat']; have := c.toNat_lt; omega)
  have := all ⟨c.toNat, c.toNat_lt⟩
  rw [e] at this
  exact this
theorem u8_int (c : UInt8) : ((c.toNat : Int)).toNat.toUInt8 = c := by
  rw [Int.toNat_natCast]; exact UInt8.toNat_inj.1 (by rw [Nat.toUInt8, UInt8.toNat_ofNat']; have := c.toNat_lt; omega)
set_option maxHeartbeats 800000 in
theorem proper_any (c : UInt8) (w : World) : Calls Try.prog 74 #[.int .u8 c.toNat] w fun e w' => e = .returned (.bool (letB c)) ∧ w = w' := by
  have hc := c.toNat_lt
  have KI := Lib.hid (fun w => Try.strings_IndexByte nmS (c.toNat : Int) w)
  rw [u8_int] at KI
  have HX := Lib.hid (idx_nm c)
  obtain ⟨x, hx⟩ : ∃ x, Lib.indexByte nmS.data.toList c = x := ⟨_, rfl⟩
  rw [hx] at KI HX
  clear hx
  have HL : Hid (letB c = ((c == 43 || c == 45 || c == 38 || c == 94 || c == 124 || c == 33 || c == 91 || c == 93) || (decide (65 ≤ c.toNat) && decide (c.toNat ≤ 90)) || (decide (97 ≤ c.toNat) && decide (c.toNat ≤ 122)))) := Lib.hid rfl
  obtain ⟨s, hs⟩ : ∃ s : ByteArray, (⟨#[43, 45, 38, 94, 124, 33, 91, 93]⟩ : ByteArray) = s := ⟨_, rfl⟩
  have hss : nmS = s := hs
  rw [hss] at KI
  clear hss
  have HL2 := HL.out
  have HX2 := HX.out
  have fin : ∀ b : Bool, (b = true ↔ ((65 ≤ c.toNat ∧ c.toNat ≤ 90) ∨ (97 ≤ c.toNat ∧ c.toNat ≤ 122))) → (b || decide (0 ≤ x)) = letB c := by
    intro b hb
    rw [HL2]
    generalize (c == 43 || c == 45 || c == 38 || c == 94 || c == 124 || c == 33 || c == 91 || c == 93) = g at HX2
    have e1 : b = ((decide (65 ≤ c.toNat) && decide (c.toNat ≤ 90)) || (decide (97 ≤ c.toNat) && decide (c.toNat ≤ 122))) := by
      rw [Bool.eq_iff_iff, hb]; simp
    have e2 : decide (0 ≤ x) = g := by rw [Bool.eq_iff_iff, decide_eq_true_iff, HX2]
    rw [e1, e2, Bool.or_comm, Bool.or_assoc]
  clear HL2 HX2
  have HF := Lib.hid fin
  clear fin HL HX
  by_cases c1 : (65 : Int) ≤ c.toNat
  · by_cases c2 : (c.toNat : Int) ≤ 90
    · go_enter Try.func74, Try.ntmps74
      go_wp2_with fail
      go_ret
      exact ⟨ret_bool (by rw [← HF.out true (by simp; omega)]; rfl), rfl⟩
    · by_cases c3 : (97 : Int) ≤ c.toNat
      · by_cases c4 : (c.toNat : Int) ≤ 122
        · go_enter Try.func74, Try.ntmps74
          go_wp2_with fail
          go_ret
          exact ⟨ret_bool (by rw [← HF.out true (by simp; omega)]; rfl), rfl⟩
        · go_enter Try.func74, Try.ntmps74
          go_wp2_with fail
          refine (KI.out _).mono ?_
          rintro e w2 ⟨rfl, rfl⟩
          go_wp2_with fail
          go_ret
          exact ⟨ret_bool (by rw [← HF.out false (by simp; omega)]; simp), rfl⟩
      · go_enter Try.func74, Try.ntmps74
        go_wp2_with fail
        refine (KI.out _).mono ?_
        rintro e w2 ⟨rfl, rfl⟩
        go_wp2_with fail
        go_ret
        exact ⟨ret_bool (by rw [← HF.out false (by simp; omega)]; simp), rfl⟩
  · have c3 : ¬ (97 : Int) ≤ c.toNat := by omega
    go_enter Try.func74, Try.ntmps74
    go_wp2_with fail
    refine (KI.out _).mono ?_
    rintro e w2 ⟨rfl, rfl⟩
    go_wp2_with fail
    go_ret
    exact ⟨ret_bool (by rw [← HF.out false (by simp; omega)]; simp), rfl⟩

set_option maxHeartbeats 800000 in
theorem bracket_any (c : UInt8) (p : Option Addr) (n cap : Nat) (w : World) : Calls Try.prog 75 #[.agg #[.int .u8 c.toNat, .slice p n cap]] w fun e w' => e = .returned (.bool (braB c)) ∧ Below w.heap.size w w' := by
  obtain ⟨W0, hW0⟩ : ∃ W, W = w.alloc (.cells #[.int .u8 c.toNat, .slice p n cap] 55) := ⟨_, rfl⟩
  have N0 : W0.heap[w.heap.size]? = some (.cells #[.int .u8 c.toNat, .slice p n cap] 55 (0, 0)) := by rw [hW0]; exact heap_alloc_new _ _
  have B0 : Below w.heap.size w W0 := by rw [hW0]; exact (Below.refl _ _).alloc (Nat.le_refl _) _
  have HB := Lib.hid B0
  have q0 := cell_two0 N0
  have l1 := lt_of_block N0
  clear N0 B0
  have walk : ∀ (t1 t2 : Bool), ((c.toNat : Int) == 91) = t1 → ((c.toNat : Int) == 93) = t2 → braB c = (t1 || t2) →
      Calls Try.prog 75 #[.agg #[.int .u8 c.toNat, .slice p n cap]] w fun e w' => e = .returned (.bool (braB c)) ∧ Below w.heap.size w w' := by
    intro t1 t2 e1 e2 hb
    have HBr := Lib.hid hb
    clear hb
    cases t1 with
    | true =>
      go_enter Try.func75, Try.ntmps75
      go_wp2_with fail
      rw [← hW0]
      clear hW0
      go_wp2_with fail
      go_ret
      exact ⟨ret_bool HBr.out.symm, HB.out⟩
    | false =>
      go_enter Try.func75, Try.ntmps75
      go_wp2_with fail
      rw [← hW0]
      clear hW0
      go_wp2_with fail
      go_ret
      exact ⟨ret_bool (by rw [HBr.out]; simp), HB.out⟩
  exact walk _ _ rfl rfl (by
    rw [show (91 : Int) = ((91 : UInt8).toNat : Int) from rfl, show (93 : Int) = ((93 : UInt8).toNat : Int) from rfl, u8_eq, u8_eq]; rfl)
end Go.Proofs.Ytcoljbcjnggagaa
namespace Go.Proofs.Ytcoljbcjnggagaa
open Go.RowKit
open WM
set_option linter.unusedVariables false
set_option linter.unusedSimpArgs false

set_option maxHeartbeats 1600000 in
theorem valid_any (m : Md) (v : Value) (hm : m.a.length ≤ 9223372036854775807) (w : World) (hv : Ints w v m.a) : Calls Try.prog 65 #[.agg #[.int .u8 m.c.toNat, v]] w fun e w' => e = .returned (.bool (fineB m)) ∧ Below w.heap.size w w' := by
  obtain ⟨p, cap, rfl⟩ := hv.slice
  obtain ⟨W0, hW0⟩ : ∃ W, W = w.alloc (.cells #[.int .u8 m.c.toNat, .slice p m.a.length cap] 55) := ⟨_, rfl⟩
  have N0 : W0.heap[w.heap.size]? = some (.cells #[.int .u8 m.c.toNat, .slice p m.a.length cap] 55 (0, 0)) := by rw [hW0]; exact heap_alloc_new _ _
  have B0 : Below w.heap.size w W0 := by rw [hW0]; exact (Below.refl _ _).alloc (Nat.le_refl _) _
  have S0 : W0.heap.size = w.heap.size + 1 := by rw [hW0]; simp
  have HS0 := Lib.hid S0
  have HN := Lib.hid N0
  have HB := Lib.hid B0
  have HV0 := Lib.hid (hv.later B0)
  have q0 := cell_two0 N0
  have q1 := cell_two1 N0
  have l1 := lt_of_block N0
  clear N0 B0 hv S0
  have HBr := Lib.hid (fun w => bracket_any m.c p m.a.length cap w)
  cases hl : letB m.c with
  | false =>
    have HF := Lib.hid (fine_let0 hl)
    have HC : Hid (∀ w, Calls Try.prog 74 #[.int .u8 m.c.toNat] w fun e w' => e = .returned (.bool false) ∧ w = w') := Lib.hid (fun w => by have := proper_any m.c w; rwa [hl] at this)
    clear hl
    go_enter Try.func65, Try.ntmps65
    go_wp2_with fail
    rw [← hW0]
    clear hW0
    go_wp2_with (go_at_call 74; refine (HC.out _).mono ?_; rintro e w2 ⟨rfl, rfl⟩)
    go_ret
    exact ⟨ret_bool HF.out.symm, HB.out⟩
  | true =>
    have HC : Hid (∀ w, Calls Try.prog 74 #[.int .u8 m.c.toNat] w fun e w' => e = .returned (.bool true) ∧ w = w') := Lib.hid (fun w => by have := proper_any m.c w; rwa [hl] at this)
    by_cases h4 : 4 < m.a.length
    · have HF := Lib.hid (fine_len h4)
      have h4' : (4 : Int) < (m.a.length : Int) := by omega
      clear hl
      go_enter Try.func65, Try.ntmps65
      go_wp2_with fail
      rw [← hW0]
      clear hW0
      go_wp2_with (go_at_call 74; refine (HC.out _).mono ?_; rintro e w2 ⟨rfl, rfl⟩)
      go_ret
      exact ⟨ret_bool HF.out.symm, HB.out⟩
    · have h4' : ¬ (4 : Int) < (m.a.length : Int) := by omega
      have HL := Lib.hid hl
      obtain ⟨t, ht⟩ : ∃ t, braB m.c = t := ⟨_, rfl⟩
      rw [ht] at HBr
      have HT := Lib.hid ht
      clear hl ht
      cases t with
      | true =>
        by_cases hz : 0 < m.a.length
        · have HF := Lib.hid (fine_bra HT.out hz)
          have hz2 : (0 : Int) < (m.a.length : Int) := by omega
          go_enter Try.func65, Try.ntmps65
          go_wp2_with fail
          rw [← hW0]
          clear hW0
          go_wp2_with (go_at_call 74; refine (HC.out _).mono ?_; rintro e w2 ⟨rfl, rfl⟩)
          refine (HBr.out _).mono ?_
          rintro e w2 ⟨rfl, hb⟩
          have HB2 := Lib.hid (HB.out.trans (hb.mono HB.out.size))
          have q1 := (hb.cell (p := ⟨w.heap.size, 1, none⟩) l1).trans q1
          clear hb
          go_wp2_with fail
          go_ret
          exact ⟨ret_bool HF.out.symm, HB2.out⟩
        · have HF := Lib.hid (fine_all HL.out (by omega) (.inr (by omega)) fun j h => by omega)
          have hl0 : m.a.length = 0 := by omega
          have hz2 : ¬ (0 : Int) < (m.a.length : Int) := by omega
          clear hl0
          go_enter Try.func65, Try.ntmps65
          go_wp2_with fail
          rw [← hW0]
          clear hW0
          go_wp2_with (go_at_call 74; refine (HC.out _).mono ?_; rintro e w2 ⟨rfl, rfl⟩)
          refine (HBr.out _).mono ?_
          rintro e w2 ⟨rfl, hb⟩
          have HB2 := Lib.hid (HB.out.trans (hb.mono HB.out.size))
          have q1 := (hb.cell (p := ⟨w.heap.size, 1, none⟩) l1).trans q1
          have l1 := Nat.lt_of_lt_of_le l1 hb.size
          clear hb
          go_wp2_with fail
          go_loop [28] (fun i => i = .int .i64 0) (fun _ => 0)
          case atStart => rfl
          case round =>
            subst hrel
            go_wp2_with fail
            go_ret
            exact ⟨ret_bool HF.out.symm, HB2.out⟩
      | false =>
        go_enter Try.func65, Try.ntmps65
        go_wp2_with fail
        rw [← hW0]
        clear hW0
        go_wp2_with (go_at_call 74; refine (HC.out _).mono ?_; rintro e w2 ⟨rfl, rfl⟩)
        refine (HBr.out _).mono ?_
        rintro e w2 ⟨rfl, hb⟩
        have HB2 := Lib.hid (HB.out.trans (hb.mono HB.out.size))
        have HV2 := Lib.hid (HV0.out.later (hb.mono (Nat.le_refl _)))
        have q1 := (hb.cell (p := ⟨w.heap.size, 1, none⟩) l1).trans q1
        have l1 := Nat.lt_of_lt_of_le l1 hb.size
        clear hb
        go_wp2_with fail
        go_loop [28] (fun i => ∃ k : Nat, k ≤ m.a.length ∧ i = .int .i64 k ∧ ∀ j, (h : j < m.a.length) → j < k → -1000000000 ≤ m.a[j] ∧ m.a[j] ≤ 1000000000) (fun i => m.a.length - (intOf i).toNat)
        case atStart => exact ⟨0, Nat.zero_le _, rfl, fun j _ h => by omega⟩
        case round =>
          obtain ⟨k, hk, rfl, hok⟩ := hrel
          have HK := Lib.hid hok
          clear hok
          by_cases hlt : k < m.a.length
          · obtain ⟨b, off, cap', hp, e1', lb⟩ := HV2.out.at hlt
            obtain rfl : p = some ⟨b, off, none⟩ := by cases hp; rfl
            obtain ⟨y, hy⟩ : ∃ y, m.a[k] = y := ⟨_, rfl⟩
            have HY : Hid (m.a[k] = y) := Lib.hid hy
            rw [hy] at e1'
            clear hp hy
            have k1 : (k : Int) < (m.a.length : Int) := by omega
            by_cases y1 : y < -1000000000
            · have HF := Lib.hid (fine_rng hlt (.inl (by rw [HY.out]; exact y1)))
              go_wp2_with fail
              go_ret
              exact ⟨ret_bool HF.out.symm, HB2.out⟩
            · by_cases y2 : 1000000000 < y
              · have HF := Lib.hid (fine_rng hlt (.inr (by rw [HY.out]; exact y2)))
                go_wp2_with fail
                go_ret
                exact ⟨ret_bool HF.out.symm, HB2.out⟩
              · have HG : Hid (∀ j, (h : j < m.a.length) → j < k + 1 → -1000000000 ≤ m.a[j] ∧ m.a[j] ≤ 1000000000) := Lib.hid (fun j h hj => by
                  rcases Nat.lt_or_eq_of_le (Nat.le_of_lt_succ hj) with h1 | h1
                  · exact HK.out j h h1
                  · subst h1; rw [HY.out]; omega)
                go_wp2_with fail
                go_round
                case rel => exact ⟨k + 1, by omega, by go_num, HG.out⟩
                case measure => simp [intOf]; omega
          · obtain rfl : k = m.a.length := by omega
            have HF := Lib.hid (fine_all HL.out (by omega) (.inl HT.out) fun j h => HK.out j h h)
            go_wp2_with fail
            go_ret
            exact ⟨ret_bool HF.out.symm, HB2.out⟩
end Go.Proofs.Ytcoljbcjnggagaa
namespace Go.Proofs.Ytcoljbcjnggagaa
open Go.RowKit
open WM
set_option linter.unusedVariables false
set_option linter.unusedSimpArgs false

theorem ret_two {a b c d : Int} (h1 : a = b) (h2 : c = d) : Ending.returned (.tuple #[.int .i64 a, .int .i64 c]) = .returned (.tuple #[.int .i64 b, .int .i64 d]) := by rw [h1, h2]
theorem opn_rng {l : List Md} (h : okB l l.length = true) {k : Nat} (hk : k < l.length) : 0 ≤ dep (l.take (k + 1)) ∧ dep (l.take (k + 1)) ≤ l.length := by
  have h1 := okB_iff.1 h k hk
  have h2 := dep_hi l (k + 1) (by omega)
  omega
theorem dmax_le {l : List Md} (h : okB l l.length = true) : ∀ k, k ≤ l.length → dmax l k ≤ l.length := by
  intro k
  induction k with
  | zero => intro _; rw [dmax_zero]; omega
  | succ k ih =>
    intro hk
    have := opn_rng h (k := k) (by omega)
    have := ih (by omega)
    rw [dmax_succ]; omega
/-- Open of a valid word. -/
theorem open_valid (v : Value) (l : List Md) (hc : chk l = 0) (w : World) (hv : Mods w v l) :
    Calls Try.prog 67 #[v] w fun e w' => ∃ p cap, e = .returned (.tuple #[.slice p l.length cap, .bool true]) ∧ Below w.heap.size w w' ∧ Ints w' (.slice p l.length cap) (opnL l l.length) := by
  have hh := chk_zero.1 hc
  refine (open_any v l (by omega) w hv).mono ?_
  rintro e w' ⟨hb, ⟨hno, _⟩ | ⟨_, v1, rfl, hi⟩⟩
  · rw [hh.2.2.1] at hno; exact absurd hno (by simp)
  · obtain ⟨p, cap, rfl⟩ := hi.slice
    rw [opnL_length] at hi ⊢
    exact ⟨p, cap, rfl, hb, hi⟩
def dpI (l : List Md) : Int := if chk l = 0 then dmax l l.length else 0
/-- k is the bracket that belongs to the one at i. -/
def IsCl (l : List Md) (i k : Nat) : Prop :=
  ∃ (hi : i < l.length) (hk : k < l.length),
  (l[i].c = 91 ∧ i < k ∧ dep (l.take (k + 1)) < dep (l.take (i + 1)) ∧ ∀ j, i < j → j < k → dep (l.take (i + 1)) ≤ dep (l.take (j + 1))) ∨
  (l[i].c = 93 ∧ k < i ∧ l[k].c = 91 ∧ dep (l.take (k + 1)) = dep (l.take (i + 1)) + 1 ∧ ∀ j, (hj : j < l.length) → k < j → j < i → ¬ (l[j].c = 91 ∧ dep (l.take (j + 1)) = dep (l.take (i + 1)) + 1))
theorem isCl_one {l : List Md} {i k k' : Nat} (h : IsCl l i k) (h' : IsCl l i k') : k = k' := by
  obtain ⟨hi, hk, h⟩ := h
  obtain ⟨_, hk', h'⟩ := h'
  rcases h with ⟨a1, a2, a3, a4⟩ | ⟨a1, a2, a3, a4, a5⟩
  · rcases h' with ⟨_, b2, b3, b4⟩ | ⟨b1, _⟩
    · rcases Nat.lt_trichotomy k k' with h | h | h
      · have := b4 k a2 h; omega
      · exact h
      · have := a4 k' b2 h; omega
    · rw [a1] at b1; exact absurd b1 (by decide)
  · rcases h' with ⟨b1, _⟩ | ⟨_, b2, b3, b4, b5⟩
    · rw [a1] at b1; exact absurd b1 (by decide)
    · rcases Nat.lt_trichotomy k k' with h | h | h
      · exact absurd ⟨b3, b4⟩ (a5 k' hk' h b2)
      · exact h
      · exact absurd ⟨a3, a4⟩ (b5 k hk h a2)
/-- Has a module at i, which is a bracket? -/
def atB (l : List Md) (i : Int) : Bool := decide (0 ≤ i) && decide (i < l.length) && braB (l.getD i.toNat ⟨0, []⟩).c
theorem atB_iff {l : List Md} {i : Int} : atB l i = true ↔ ∃ k : Nat, i = (k : Int) ∧ ∃ h : k < l.length, braB l[k].c = true := by
  unfold atB
  simp only [Bool.and_eq_true, decide_eq_true_eq]
  constructor
  · rintro ⟨⟨h1, h2⟩, h3⟩
    have hk : i.toNat < l.length := by omega
    exact ⟨i.toNat, by omega, hk, by simpa [List.getD, hk] using h3⟩
  · rintro ⟨k, rfl, h, h3⟩
    exact ⟨⟨by omega, by omega⟩, by simpa [List.getD, h] using h3⟩
theorem bra_cases {c : UInt8} (h : braB c = true) : c = 91 ∨ c = 93 := by
  unfold braB at h; simpa using h
/-- How Close ends. -/
def ClEnd (l : List Md) (i : Int) (w : World) (e : Ending) (w' : World) : Prop :=
  Below w.heap.size w w' ∧ ((chk l ≠ 0 ∧ e = .returned (.tuple #[.int .i64 0, .int .i64 (chk l)])) ∨ (chk l = 0 ∧ atB l i = false ∧ e = .returned (.tuple #[.int .i64 0, .int .i64 2])) ∨
    (chk l = 0 ∧ ∃ j k : Nat, i = (j : Int) ∧ IsCl l j k ∧ e = .returned (.tuple #[.int .i64 (k : Int), .int .i64 0])))
end Go.Proofs.Ytcoljbcjnggagaa
namespace Go.Proofs.Ytcoljbcjnggagaa
open Go.RowKit
open WM
set_option linter.unusedVariables false
set_option linter.unusedSimpArgs false

/-- The brackets that are open at each module, a pair's own counted at both of its brackets. -/
def lvlA (l : List Md) (i : Nat) : Int := dep (l.take (i + 1)) + (if (l.getD i ⟨0, []⟩).c = 93 then 1 else 0)
theorem lvlA_eq {l : List Md} {i : Nat} (h : i < l.length) : lvlA l i = dep (l.take (i + 1)) + (if l[i].c = 93 then 1 else 0) := by
  unfold lvlA; simp [List.getD, h]
def lvlL (l : List Md) (k : Nat) : List Int := (List.range l.length).map fun i => if i < k then lvlA l i else 0
theorem lvlL_length (l : List Md) (k : Nat) : (lvlL l k).length = l.length := by simp [lvlL]
theorem lvlL_zero (l : List Md) : lvlL l 0 = List.replicate l.length 0 := by
  apply List.ext_getElem (by simp [lvlL])
  intro i h1 h2; simp [lvlL]
theorem lvlL_get {l : List Md} {k i : Nat} (h : i < l.length) : (lvlL l k)[i]'(by rw [lvlL_length]; exact h) = if i < k then lvlA l i else 0 := by simp [lvlL]
theorem lvlL_set {l : List Md} {k : Nat} (h : k < l.length) : (lvlL l k).set k (lvlA l k) = lvlL l (k + 1) := by
  apply List.ext_getElem (by simp [lvlL])
  intro i h1 h2
  rw [List.getElem_set]
  rw [lvlL_length] at h2
  rw [lvlL_get (k := k + 1) h2]
  by_cases e : k = i
  · subst e; rw [if_pos rfl, if_pos (by omega)]
  · rw [if_neg e, lvlL_get h2]
    by_cases e2 : i < k
    · rw [if_pos e2, if_pos (by omega)]
    · rw [if_neg e2, if_neg (by omega)]
/-- How levels ends. -/
def LvEnd (l : List Md) (w : World) (e : Ending) (w' : World) : Prop :=
  Below w.heap.size w w' ∧ ((okB l l.length = false ∧ e = .returned (.tuple #[.slice none 0 0, .bool false])) ∨ (okB l l.length = true ∧ ∃ g, e = .returned (.tuple #[.slice (some ⟨g, 0, none⟩) l.length l.length, .bool (decide (dep l = 0))]) ∧ RowI w' g (lvlL l l.length)))
/-- Where levels stands. -/
structure LvAt (w : World) (l : List Md) (k : Nat) (wr : World) : Prop where
  hi : k ≤ l.length
  ok : okB l k = true
  row : RowI wr w.heap.size (lvlL l k)
  below : Below w.heap.size w wr
theorem LvAt.rng {w wr : World} {l : List Md} {k : Nat} (h : LvAt w l k wr) : 0 ≤ dep (l.take k) ∧ dep (l.take k) ≤ k := by
  refine ⟨?_, dep_hi l k h.hi⟩
  rcases Nat.eq_zero_or_pos k with h0 | h0
  · subst h0; simp [dep_nil]
  · have := okB_iff.1 h.ok (k - 1) (by omega)
    rwa [show k - 1 + 1 = k by omega] at this
theorem lvAt_start (w : World) (l : List Md) : LvAt w l 0 (w.alloc (.cells (zeros l.length) 3)) :=
  ⟨Nat.zero_le _, okB_zero l, by rw [lvlL_zero]; exact made_row _ _, (Below.refl _ _).alloc (Nat.le_refl _) _⟩
theorem lvAt_step {w wr : World} {l : List Md} {k : Nat} (h : LvAt w l k wr) (hk : k < l.length) (hd : 0 ≤ dep (l.take (k + 1))) (x : Int) (hx : x = lvlA l k) : LvAt w l (k + 1) (wr.setCell ⟨w.heap.size, k, none⟩ (.int .i64 x)) := by
  subst hx
  refine ⟨hk, by rw [okB_succ, h.ok]; simpa using hd, ?_, h.below.setCell (Nat.le_refl _) _⟩
  have := h.row.set (i := k) (by rw [lvlL_length]; exact hk) (lvlA l k)
  rwa [lvlL_set hk] at this
set_option maxRecDepth 100000 in
set_option maxHeartbeats 1600000 in
theorem levels_any (v : Value) (l : List Md) (hmax : l.length ≤ 50000) (w : World) (hv : Mods w v l) :
    Calls Try.prog 66 #[v] w (LvEnd l w) := by
  obtain ⟨p, cap, rfl⟩ := hv.slice
  have HV := Lib.hid hv
  have hmk : ∀ w : World, (Instr.makeSlice 49 (.int .i64 (l.length : Int)) (.int .i64 (l.length : Int))).run Try.prog w = .ok (.slice (some ⟨w.heap.size, 0, none⟩) l.length l.length) (w.alloc (.cells (zeros l.length) 3)) := fun w => by
    have := run_make (P := Try.prog) w 49 3 Try.t3 (.int .i64 0) Try.underlying49 (by kernel_rfl) (by kernel_rfl) .i64 .i64 l.length l.length (by omega) (Int.le_refl _) (by show ((8 : Nat) : Int) * (l.length : Int) ≤ _; omega) (by omega)
    rw [this]; simp only [zeros, Value.cells, Int.toNat_natCast, show (Try.t3).size = 1 from rfl, Nat.mul_one]
  have S0 := Lib.hid (lvAt_start w l)
  clear hv
  go_enter Try.func66, Try.ntmps66
  go_wp2_with fail
  go_loopw [2, 4, 11] (fun v n i wr => ∃ k : Nat, v = .slice (some ⟨w.heap.size, 0, none⟩) l.length l.length ∧ i = .int .i64 k ∧ n = .int .i64 (dep (l.take k)) ∧ LvAt w l k wr) (fun _ _ i _ => l.length - (intOf i).toNat)
  case atStart => exact ⟨0, rfl, rfl, by simp [dep_nil], S0.out⟩
  case round =>
    obtain ⟨k, rfl, rfl, rfl, hO⟩ := hrel
    have HO := Lib.hid hO
    have n1 := hO.hi
    have n2 := hO.rng
    have hsz := hO.below.size
    have l2 := hO.row.lt
    have HR := Lib.hid hO.row.free
    clear hO
    by_cases hlt : k < l.length
    · obtain ⟨b, off, cap', q, c, hp, e1, _, _, lb⟩ := (HV.out.later (HO.out.below.mono (Nat.le_refl _))).at hlt
      obtain rfl : p = some ⟨b, off, none⟩ := by cases hp; rfl
      have hs := dep_snoc hlt
      have hA := lvlA_eq hlt
      have f1 := HR.out k
      have q3 := HO.out.row.cell (i := k) (by rw [lvlL_length]; exact hlt)
      generalize (lvlL l k)[k]'(by rw [lvlL_length]; exact hlt) = z at q3
      have hne : b < w.heap.size ∨ w.heap.size ≤ b := Nat.lt_or_ge _ _
      have hbw : b < w.heap.size := by
        obtain ⟨b', off', cap'', q', c', hp', _, _, _, lb'⟩ := HV.out.at hlt
        cases hp'; exact lb'
      have HD : Hid (dep (l.take (k + 1)) = dep (l.take k) + dlt l[k]) := Lib.hid hs
      have HA := Lib.hid hA
      clear hp hs hA hne
      by_cases c1 : l[k].c = 91
      · have t1 : ((l[k].c.toNat : Int) == 91) = true := by rw [c1]; rfl
        have t2 : ((l[k].c.toNat : Int) == 93) = false := by rw [c1]; rfl
        have HX : Hid (dep (l.take (k + 1)) = dep (l.take k) + 1) := Lib.hid (by rw [HD.out]; unfold dlt; rw [if_pos c1])
        have T1 := Lib.hid (lvAt_step HO.out hlt (by rw [HX.out]; omega) (dep (l.take k) + 1) (by rw [HA.out, HX.out, if_neg (by rw [c1]; decide)]; omega))
        clear c1
        generalize l[k].c.toNat = cn at e1 t1 t2
        obtain ⟨d, hd⟩ : ∃ d, dep (l.take k) = d := ⟨_, rfl⟩
        rw [hd] at HX n2 T1 ⊢
        clear hd
        go_wp2_with fail
        go_roundw
        case rel => exact ⟨k + 1, rfl, by go_num, by rw [HX.out], T1.out⟩
        case measure => simp [intOf]; omega
      · by_cases c2 : l[k].c = 93
        · have t1 : ((l[k].c.toNat : Int) == 91) = false := by rw [c2]; rfl
          have t2 : ((l[k].c.toNat : Int) == 93) = true := by rw [c2]; rfl
          have HX : Hid (dep (l.take (k + 1)) = dep (l.take k) - 1) := Lib.hid (by rw [HD.out]; unfold dlt; rw [if_neg c1, if_pos c2]; omega)
          have T1 := Lib.hid (fun h => lvAt_step HO.out hlt h (dep (l.take k)) (by rw [HA.out, HX.out, if_pos c2]; omega))
          clear c1 c2
          generalize l[k].c.toNat = cn at e1 t1 t2
          obtain ⟨d, hd⟩ : ∃ d, dep (l.take k) = d := ⟨_, rfl⟩
          rw [hd] at HX n2 T1 ⊢
          clear hd
          by_cases hneg : d - 1 < 0
          · have HF : Hid (okB l l.length = false) := Lib.hid (by
              cases h : okB l l.length
              · rfl
              · have := okB_iff.1 h k hlt
                rw [HX.out] at this; omega)
            go_wp2_with fail
            go_ret2
            exact ⟨HO.out.below.setCell (Nat.le_refl _) _, .inl ⟨HF.out, rfl⟩⟩
          · have T2 := Lib.hid (T1.out (by rw [HX.out]; omega))
            go_wp2_with fail
            go_roundw
            case rel => exact ⟨k + 1, rfl, by go_num, by rw [HX.out], T2.out⟩
            case measure => simp [intOf]; omega
        · have t1 : ((l[k].c.toNat : Int) == 91) = false := by
            rw [show (91 : Int) = ((91 : UInt8).toNat : Int) from rfl, u8_eq]; exact beq_eq_false_iff_ne.2 c1
          have t2 : ((l[k].c.toNat : Int) == 93) = false := by
            rw [show (93 : Int) = ((93 : UInt8).toNat : Int) from rfl, u8_eq]; exact beq_eq_false_iff_ne.2 c2
          have HX : Hid (dep (l.take (k + 1)) = dep (l.take k)) := Lib.hid (by rw [HD.out]; unfold dlt; rw [if_neg c1, if_neg c2]; omega)
          have T1 := Lib.hid (lvAt_step HO.out hlt (by rw [HX.out]; omega) (dep (l.take k)) (by rw [HA.out, HX.out, if_neg c2]; omega))
          clear c1 c2
          generalize l[k].c.toNat = cn at e1 t1 t2
          obtain ⟨d, hd⟩ : ∃ d, dep (l.take k) = d := ⟨_, rfl⟩
          rw [hd] at HX n2 T1 ⊢
          clear hd
          have hneg2 : 0 ≤ d := n2.1
          go_wp2_with fail
          go_roundw
          case rel => exact ⟨k + 1, rfl, by go_num, by rw [HX.out], T1.out⟩
          case measure => simp [intOf]; omega
    · obtain rfl : k = l.length := by omega
      have HI := Lib.hid HO.out.row
      rw [List.take_length] at n2 ⊢
      obtain ⟨d, hd⟩ : ∃ d, dep l = d := ⟨_, rfl⟩
      have HE : Hid (∀ b, b = decide (d = 0) → LvEnd l w (.returned (.tuple #[.slice (some ⟨w.heap.size, 0, none⟩) l.length l.length, .bool b])) wr) := Lib.hid (fun b hb => ⟨HO.out.below, .inr ⟨HO.out.ok, _, by rw [hb, ← hd], HI.out⟩⟩)
      rw [hd] at n2 ⊢
      clear hd
      by_cases h0 : d = 0
      · subst h0
        go_wp2_with fail
        go_ret2
        exact HE.out _ rfl
      · have t0 : (d == 0) = false := by simpa using h0
        have HE2 := Lib.hid (HE.out false (by simp [h0]))
        clear h0
        go_wp2_with fail
        go_ret2
        exact HE2.out
theorem bad_one {l : List Md} {k : Nat} (hk : k < l.length) (h : fineB l[k] = false) : l.all fineB = false := by
  rw [List.all_eq_false]; exact ⟨l[k], List.getElem_mem hk, by simp [h]⟩
set_option maxRecDepth 100000 in
set_option maxHeartbeats 1600000 in
theorem pcheck_any (v : Value) (l : List Md) (hmax : l.length ≤ 9223372036854775807) (hargs : ∀ m ∈ l, m.a.length ≤ 9223372036854775807) (w : World) (hv : Mods w v l) :
    Calls Try.prog 45 #[v] w fun e w' => e = .returned (.int .i64 (chk l)) ∧ Below w.heap.size w w' := by
  obtain ⟨p, cap, rfl⟩ := hv.slice
  have HV := Lib.hid hv
  have HA := Lib.hid hargs
  clear hv hargs
  by_cases hlen : 2000 < l.length
  · have HC := Lib.hid (chk_many hlen)
    have c1 : (2000 : Int) < (l.length : Int) := by omega
    go_enter Try.func45, Try.ntmps45
    go_wp2_with fail
    go_ret
    exact ⟨ret_int HC.out.symm, Below.refl _ _⟩
  · have c1 : ¬ (2000 : Int) < (l.length : Int) := by omega
    go_enter Try.func45, Try.ntmps45
    go_wp2_with fail
    go_loopw [11] (fun i wr => ∃ k : Nat, k ≤ l.length ∧ i = .int .i64 k ∧ Below w.heap.size w wr ∧ ∀ j, (h : j < l.length) → j < k → fineB l[j] = true) (fun i _ => l.length - (intOf i).toNat)
    case atStart => exact ⟨0, Nat.zero_le _, rfl, Below.refl _ _, fun j _ h => by omega⟩
    case round =>
      obtain ⟨k, hk, rfl, hb, hok⟩ := hrel
      have HK := Lib.hid hok
      have HB := Lib.hid hb
      clear hok hb
      by_cases hlt : k < l.length
      · obtain ⟨b, off, cap', q, c, hp, e1, e2, hin, lb⟩ := (HV.out.later (HB.out.mono (Nat.le_refl _))).at hlt
        obtain rfl : p = some ⟨b, off, none⟩ := by cases hp; rfl
        have HF := Lib.hid (valid_any l[k] _ (HA.out _ (List.getElem_mem hlt)) wr hin)
        obtain ⟨t, ht⟩ : ∃ t, fineB l[k] = t := ⟨_, rfl⟩
        have HT := Lib.hid ht
        rw [ht] at HF
        clear hp hin ht
        generalize l[k].c.toNat = cn at e1 HF
        generalize l[k].a.length = an at e2 HF
        cases t with
        | false =>
          have HC := Lib.hid (chk_bad hlen (bad_one hlt HT.out))
          go_wp2_with fail
          refine HF.out.mono ?_
          rintro e w1 ⟨rfl, hb⟩
          have HB1 := Lib.hid (HB.out.trans (hb.mono HB.out.size))
          clear hb
          go_wp2_with fail
          go_ret
          exact ⟨ret_int HC.out.symm, HB1.out⟩
        | true =>
          have HG : Hid (∀ j, (h : j < l.length) → j < k + 1 → fineB l[j] = true) := Lib.hid (fun j h hj => by
            rcases Nat.lt_or_eq_of_le (Nat.le_of_lt_succ hj) with h1 | h1
            · exact HK.out j h h1
            · subst h1; exact HT.out)
          go_wp2_with fail
          refine HF.out.mono ?_
          rintro e w1 ⟨rfl, hb⟩
          have HB1 := Lib.hid (HB.out.trans (hb.mono HB.out.size))
          clear hb
          go_wp2_with fail
          go_roundw
          case rel => exact ⟨k + 1, by omega, by go_num, HB1.out, HG.out⟩
          case measure => simp [intOf]; omega
      · obtain rfl : k = l.length := by omega
        have HGd := Lib.hid (good_all fun j h => HK.out j h h)
        have HO := Lib.hid (levels_any _ l (by omega) wr (HV.out.later (HB.out.mono (Nat.le_refl _))))
        go_wp2_with fail
        refine HO.out.mono ?_
        rintro e w1 ⟨hb, ⟨hno, rfl⟩ | ⟨hyes, g, rfl, hi⟩⟩
        · have HB1 := Lib.hid (HB.out.trans (hb.mono HB.out.size))
          have HC := Lib.hid (chk_open hlen HGd.out (by rw [hno]; rfl))
          clear hb hno
          go_wp2_with fail
          go_ret
          exact ⟨ret_int HC.out.symm, HB1.out⟩
        · have HB1 := Lib.hid (HB.out.trans (hb.mono HB.out.size))
          have HY := Lib.hid hyes
          obtain ⟨t, ht⟩ : ∃ t, decide (dep l = 0) = t := ⟨_, rfl⟩
          have HT := Lib.hid ht
          rw [ht]
          clear hb hyes hi ht
          cases t with
          | true =>
            have HC : Hid (chk l = 0) := Lib.hid (chk_zero.2 ⟨by omega, HGd.out, HY.out, of_decide_eq_true HT.out⟩)
            go_wp2_with fail
            go_ret
            exact ⟨ret_int HC.out.symm, HB1.out⟩
          | false =>
            have HC := Lib.hid (chk_open hlen HGd.out (by rw [HT.out]; simp))
            go_wp2_with fail
            go_ret
            exact ⟨ret_int HC.out.symm, HB1.out⟩
/-- levels of a valid word. -/
theorem levels_valid (v : Value) (l : List Md) (hc : chk l = 0) (w : World) (hv : Mods w v l) :
    Calls Try.prog 66 #[v] w fun e w' => ∃ g, e = .returned (.tuple #[.slice (some ⟨g, 0, none⟩) l.length l.length, .bool true]) ∧ Below w.heap.size w w' ∧ RowI w' g (lvlL l l.length) := by
  have hh := chk_zero.1 hc
  refine (levels_any v l (by omega) w hv).mono ?_
  rintro e w' ⟨hb, ⟨hno, _⟩ | ⟨_, g, rfl, hi⟩⟩
  · rw [hh.2.2.1] at hno; exact absurd hno (by simp)
  · exact ⟨g, by rw [decide_eq_true hh.2.2.2], hb, hi⟩
end Go.Proofs.Ytcoljbcjnggagaa
namespace Go.Proofs.Ytcoljbcjnggagaa
open Go.RowKit
open WM RM
set_option linter.unusedVariables false
set_option linter.unusedSimpArgs false

/-- A word of one module in a new block. -/
theorem mods_new (w : World) (m : Md) (v : Value) (hv : Ints w v m.a) (hn : NilOr v) : Mods (w.alloc (.cells #[.int .u8 m.c.toNat, v] 55)) (.slice (some ⟨w.heap.size, 0, none⟩) 1 1) [m] := by
  have N0 := heap_alloc_new w (.cells #[.int .u8 m.c.toNat, v] 55)
  refine .some w.heap.size 0 1 [m] (by simp) (lt_of_block N0) fun i hi => ?_
  have h0 : i = 0 := by simpa using hi
  subst h0
  exact ⟨cell_two0 N0, v, cell_two1 N0, hv.later ((Below.refl _ _).alloc (Nat.le_refl _) _), hn⟩
set_option maxHeartbeats 800000 in
theorem pletter_any (c : UInt8) (w : World) : Calls Try.prog 69 #[.int .u8 c.toNat] w fun e w' => e = .returned (.bool (letB c && !(braB c))) ∧ Below w.heap.size w w' := by
  obtain ⟨W0, hW0⟩ : ∃ W, W = w.alloc (.cells #[.int .u8 c.toNat, .slice none 0 0] 55) := ⟨_, rfl⟩
  have B0 : Below w.heap.size w W0 := by rw [hW0]; exact (Below.refl _ _).alloc (Nat.le_refl _) _
  have HB := Lib.hid B0
  have hm : Mods W0 (.slice (some ⟨w.heap.size, 0, none⟩) 1 1) [⟨c, []⟩] := by rw [hW0]; exact mods_new w ⟨c, []⟩ (.slice none 0 0) (.none _ _) (.inl rfl)
  have K := Lib.hid (pcheck_any (.slice (some ⟨w.heap.size, 0, none⟩) 1 1) [⟨c, []⟩] (by simp) (by simp) W0 hm)
  have hc := chk_let c
  obtain ⟨x, hx⟩ : ∃ x, chk [⟨c, []⟩] = x := ⟨_, rfl⟩
  rw [hx] at K hc
  have HR : Hid ((x == 0) = (letB c && !(braB c))) := Lib.hid (by rw [← hc, Bool.eq_iff_iff, beq_iff_eq, decide_eq_true_iff])
  clear hm hc hx B0
  obtain ⟨cn, hcn⟩ : ∃ cn : Nat, c.toNat = cn := ⟨_, rfl⟩
  rw [hcn] at hW0 ⊢
  clear hcn
  go_enter Try.func69, Try.ntmps69
  go_wp2_with fail
  rw [← hW0]
  clear hW0
  refine K.out.mono ?_
  rintro e w1 ⟨rfl, hb⟩
  have B1 := Lib.hid (HB.out.trans (hb.mono HB.out.size))
  clear hb
  go_wp2_with fail
  go_ret
  exact ⟨ret_bool HR.out, B1.out⟩
/-- Where blank stands. -/
structure BlAt (w : World) (out : List Sh) (k : Nat) (v : Value) (wr : World) : Prop where
  hi : k ≤ out.length
  below : Below w.heap.size w wr
  own : ∃ vs, ModFr wr w.heap.size v ((out.take k).map blM) vs
theorem blAt_start (w : World) (out : List Sh) : BlAt w out 0 (.slice none 0 0) w := ⟨Nat.zero_le _, Below.refl _ _, [], by simpa using modFr_nil w w.heap.size⟩
theorem blAt_step {w wo X X4 : World} {out : List Sh} {k n0 : Nat} {v v2 u : Value} {vs : List Value} (hlt : k < out.length) (hT : BlAt w out k v wo) (hO : ModFr wo w.heap.size v ((out.take k).map blM) vs) (e : Below wo.heap.size wo X)
    (hz : X.ownsRow wo.heap.size 3 1 u n0 (valsL (List.replicate n0 0))) (hb : blM out[k] = zerM out[k].c n0) (ho : X4.ownsRow w.heap.size 55 2 v2 (k + 1) (modC ((out.take k).map blM) vs ++ [.int .u8 out[k].c.toNat, u]))
    (hg : X.grownBy X4 v.ownBlock) (h4 : v2.ownBlock = v.ownBlock ∨ v2.ownBlock = some X.heap.size) : BlAt w out (k + 1) v2 X4 := by
  have hl : ((out.take k).map blM).length = k := by rw [List.length_map, List.length_take]; omega
  have hsz := hT.below.size
  have z := e.size
  refine ⟨hlt, (hT.below.trans (e.mono hsz)).grown hg (by omega) (fun j ej => (owns_lt hO.row j ej).1), vs ++ [u], ?_⟩
  have em : (out.take (k + 1)).map blM = (out.take k).map blM ++ [zerM out[k].c n0] := by
    rw [List.take_succ_eq_append_getElem hlt, List.map_append, List.map_cons, List.map_nil, hb]
  rw [em]
  exact modFr_snoc (m := zerM out[k].c n0) hO hsz e (by simpa [zerM] using hz) (by rw [hl]; exact ho) hg h4
theorem zer_own (w : World) (n base : Nat) (hn : n ≤ 1000) (hb : base ≤ w.heap.size) : (w.alloc (.cells (zeros n) 3)).ownsRow base 3 1 (.slice (some ⟨w.heap.size, 0, none⟩) n n) n (valsL (List.replicate n 0)) := by
  have h := World.ownsRow_lit (base := base) (e := 3) (size := 1) w (zeros n) n hb (by have : maxLen = 9223372036854775807 := rfl; omega) (by rw [zeros_size, Nat.mul_one])
  have e : (zeros n).toList = valsL (List.replicate n 0) := by
    apply List.ext_getElem
    · simp [zeros_size, valsL]
    · intro i h1 h2
      have h3 : i < n := by simpa [zeros_size] using h1
      have := zeros_at h3
      rw [Array.getElem?_eq_some_iff] at this
      obtain ⟨_, h4⟩ := this
      simp [valsL, h4]
  rw [e] at h; exact h
set_option maxRecDepth 100000 in
set_option maxHeartbeats 1600000 in
theorem blank_any (out : List Sh) (v : Value) (hm : out.length ≤ 2000) (ha : ∀ s ∈ out, s.a.length ≤ 9223372036854775807) (w : World) (hv : Shs w v out) :
    Calls Try.prog 71 #[v] w fun e w' => ∃ v' vs, e = .returned v' ∧ Below w.heap.size w w' ∧ ModFr w' w.heap.size v' (out.map blM) vs := by
  obtain ⟨p, cap, rfl⟩ := hv.slice
  have HV := Lib.hid hv
  have HA := Lib.hid ha
  obtain ⟨j0, hj, hy0, hy1, hy2⟩ := info_parts info_mod
  have HM : Hid (maxLen = 9223372036854775807) := Lib.hid rfl
  have S0 := Lib.hid (blAt_start w out)
  clear hv ha
  go_enter Try.func71, Try.ntmps71
  go_wp2_with fail
  go_loopw [3, 9] (fun v i wr => ∃ k : Nat, i = .int .i64 k ∧ BlAt w out k v wr) (fun _ i _ => out.length - (intOf i).toNat)
  case atStart => exact ⟨0, rfl, S0.out⟩
  case round =>
    rename World => wo
    obtain ⟨k, rfl, hT⟩ := hrel
    have HT := Lib.hid hT
    have n1 := hT.hi
    have hsz := hT.below.size
    obtain ⟨vs, hO⟩ := hT.own
    have HO := Lib.hid hO
    clear hT hO
    by_cases hlt : k < out.length
    · obtain ⟨b, off, cap', q, c, hp, e1, e2, hin, lb⟩ := (HV.out.later (HT.out.below.mono (Nat.le_refl _))).at hlt
      obtain rfl : p = some ⟨b, off, none⟩ := by cases hp; rfl
      have k1 : (k : Int) < (out.length : Int) := by omega
      have hlk : ((out.take k).map blM).length = k := by rw [List.length_map, List.length_take]; omega
      have hal := HA.out _ (List.getElem_mem hlt)
      have HB1 : Hid (blM out[k] = zerM out[k].c (min out[k].a.length 5)) := Lib.hid rfl
      obtain ⟨W1, hW1⟩ : ∃ W, W = wo.alloc (.cells #[.int .u8 out[k].c.toNat, .slice q out[k].a.length c] 53) := ⟨_, rfl⟩
      have N1 : W1.heap[wo.heap.size]? = some (.cells #[.int .u8 out[k].c.toNat, .slice q out[k].a.length c] 53 (0, 0)) := by rw [hW1]; exact heap_alloc_new _ _
      have b1 : Below wo.heap.size wo W1 := by rw [hW1]; exact (Below.refl _ _).alloc (Nat.le_refl _) _
      have B1 := Lib.hid b1
      have q0 := cell_two0 N1
      have q1 := cell_two1 N1
      have l1 := lt_of_block N1
      have hrow := HO.out.row
      rw [hlk] at hrow
      have HR := Lib.hid (l_own_later hrow b1)
      have hvl := owns_lt hrow
      have HVl := Lib.hid hvl
      obtain ⟨cn, hcn⟩ : ∃ cn : Nat, out[k].c.toNat = cn := ⟨_, rfl⟩
      have HCn := Lib.hid hcn
      obtain ⟨al, hal2⟩ : ∃ al, out[k].a.length = al := ⟨_, rfl⟩
      rw [hcn] at e1 q0 hW1
      rw [hal2] at e2 q1 hW1 HB1 hal
      obtain ⟨n0, hn0⟩ : ∃ n0, min al 5 = n0 := ⟨_, rfl⟩
      have hmin : min (al : Int) 5 = (n0 : Int) := by omega
      rw [hn0] at HB1
      have hn5 : n0 ≤ 5 := by omega
      have hmk := made_run n0 (by omega)
      clear hp hin N1 b1 hcn hal2 hrow hvl hn0
      go_wp2_with fail
      rw [← hW1]
      clear hW1
      go_wp2_with fail
      obtain ⟨M, hM⟩ : ∃ M : Obj, M = .cells #[.int .u8 cn, .slice (some ⟨W1.heap.size, 0, none⟩) n0 n0] 55 := ⟨_, rfl⟩
      have P1 : Hid (((W1.alloc (.cells (zeros n0) 3)).alloc M).drew.ownsRow w.heap.size 55 2 u3 k (modC ((out.take k).map blM) vs)) := Lib.hid ((HR.out.alloc _).alloc _)
      have P2 : Hid (((W1.alloc (.cells (zeros n0) 3)).alloc M).drew.ownsRow wo.heap.size 3 1 (.slice (some ⟨W1.heap.size, 0, none⟩) n0 n0) n0 (valsL (List.replicate n0 0))) := Lib.hid ((zer_own W1 n0 wo.heap.size (by omega) B1.out.size).alloc M)
      have P3 : Hid (Below wo.heap.size wo ((W1.alloc (.cells (zeros n0) 3)).alloc M).drew) := Lib.hid ((B1.out.alloc B1.out.size _).alloc (by have := B1.out.size; simp; omega) _).drew
      rw [hM] at P1 P2 P3
      have hz := B1.out.size
      clear hM
      go_region_law? (first
          | (refine step_append_own _ rfl (.tmp 17) (.tmp 23) 23 rfl w.heap.size 55 j0 (.agg #[.int .u8 0, .slice none 0 0]) 2 32 Try.underlying23 hj hy0 hy1 hy2 rfl (by decide) u3 k (modC ((out.take k).map blM) vs) rfl P1.out ⟨W1.heap.size + 1, 0, none⟩ 1 1 [.int .u8 cn, .slice (some ⟨W1.heap.size, 0, none⟩) n0 n0] rfl rfl (fun j u h => by have h9 := two_new (W1.alloc (.cells (zeros n0) 3)) _ _ 55 j u h; simpa using h9) (by simp [Value.oneCell']) (by rw [HM.out]; omega) (by omega) (by simp; omega) ?_
             intro v2 w2 ho2 hg2 hn2 hb2))
      all_goals
        have T1 := Lib.hid (blAt_step hlt HT.out HO.out P3.out P2.out HB1.out (by rw [HCn.out]; exact ho2) hg2 hb2)
        clear ho2 hg2 hn2 hb2
        go_wp2_with fail
        go_roundw
        case rel => exact ⟨k + 1, by go_num, T1.out⟩
        case measure => simp [intOf]; omega
    · have hk : k = out.length := by omega
      have HX := Lib.hid hk
      have hm : ¬ (k : Int) < (out.length : Int) := by omega
      clear hk hlt
      go_wp2_with fail
      go_ret
      exact ⟨_, rfl, HT.out.below, vs, by have h9 := HO.out; rw [HX.out, List.take_length] at h9; exact h9⟩
end Go.Proofs.Ytcoljbcjnggagaa
namespace Go.Proofs.Ytcoljbcjnggagaa
open Go.RowKit
open WM RM CM
set_option linter.unusedVariables false
set_option linter.unusedSimpArgs false

theorem idxB_ge : ∀ (l : List UInt8) (c : UInt8), -1 ≤ Lib.indexByte l c
  | [], _ => by simp [Lib.indexByte]
  | x :: l, c => by
    have := idxB_ge l c
    unfold Lib.indexByte
    repeat (first | omega | split)
theorem idx_has (l : Bs) (c : UInt8) : decide (0 ≤ Lib.indexByte l c) = hasB l c := by
  rw [Bool.eq_iff_iff, decide_eq_true_iff]
  have hge := idxB_ge l c
  constructor
  · intro h
    obtain ⟨o, ho⟩ : ∃ o : Nat, Lib.indexByte l c = (o : Int) := ⟨(Lib.indexByte l c).toNat, by omega⟩
    obtain ⟨h1, _⟩ := Lib.indexByte_some ho
    obtain ⟨h2, h3⟩ := List.getElem?_eq_some_iff.1 h1
    exact has_at h2 (by rw [h3]; simp)
  · intro h
    unfold hasB at h
    rw [List.any_eq_true] at h
    obtain ⟨x, hx, he⟩ := h
    obtain ⟨k, hk, rfl⟩ := List.mem_iff_getElem.1 hx
    by_cases hn : Lib.indexByte l c = -1
    · have := Lib.indexByte_none hn k
      rw [List.getElem?_eq_getElem hk, beq_iff_eq.1 he] at this
      exact absurd rfl this
    · omega
set_option maxHeartbeats 800000 in
theorem cletter_any (c : UInt8) (w : World) : Calls Try.prog 46 #[.int .u8 c.toNat] w fun e w' => e = .returned (.bool (plnB c)) ∧ Below w.heap.size w w' := by
  obtain ⟨W0, hW0⟩ : ∃ W, W = w.alloc (.cells #[.int .u8 c.toNat, .slice none 0 0] 55) := ⟨_, rfl⟩
  have B0 : Below w.heap.size w W0 := by rw [hW0]; exact (Below.refl _ _).alloc (Nat.le_refl _) _
  have HB := Lib.hid B0
  have hm : Mods W0 (.slice (some ⟨w.heap.size, 0, none⟩) 1 1) [⟨c, []⟩] := by rw [hW0]; exact mods_new w ⟨c, []⟩ (.slice none 0 0) (.none _ _) (.inl rfl)
  have K := Lib.hid (pcheck_any (.slice (some ⟨w.heap.size, 0, none⟩) 1 1) [⟨c, []⟩] (by simp) (by simp) W0 hm)
  have hc := chk_let c
  obtain ⟨x, hx⟩ : ∃ x, chk [⟨c, []⟩] = x := ⟨_, rfl⟩
  rw [hx] at K hc
  have HR : Hid ((x == 0) = plnB c) := Lib.hid (by show _ = (letB c && !(braB c)); rw [← hc, Bool.eq_iff_iff, beq_iff_eq, decide_eq_true_iff])
  clear hm hc hx B0
  obtain ⟨cn, hcn⟩ : ∃ cn : Nat, c.toNat = cn := ⟨_, rfl⟩
  rw [hcn] at hW0 ⊢
  clear hcn
  go_enter Try.func46, Try.ntmps46
  go_wp2_with fail
  rw [← hW0]
  clear hW0
  refine K.out.mono ?_
  rintro e w1 ⟨rfl, hb⟩
  have B1 := Lib.hid (HB.out.trans (hb.mono HB.out.size))
  clear hb
  go_wp2_with fail
  go_ret
  exact ⟨ret_bool HR.out, B1.out⟩
def askcB (c : UInt8) : Bool := c == 0 || plnB c
theorem askB_eq (r : Rw) : askB r = (askcB r.l && askcB r.r) := rfl
theorem u8_z {c : UInt8} : ((c.toNat : Int) == 0) = (c == 0) := by
  rw [show (0 : Int) = ((0 : UInt8).toNat : Int) from rfl, u8_eq]
set_option maxHeartbeats 800000 in
theorem caskable_any (c : UInt8) (w : World) : Calls Try.prog 35 #[.int .u8 c.toNat] w fun e w' => e = .returned (.bool (askcB c)) ∧ Below w.heap.size w w' := by
  have KL := Lib.hid (fun w => cletter_any c w)
  have HA : Hid (askcB c = (((c.toNat : Int) == 0) || plnB c)) := Lib.hid (by rw [u8_z]; rfl)
  generalize askcB c = t at HA ⊢
  generalize plnB c = pl at KL HA
  generalize c.toNat = cn at KL HA ⊢
  cases t0 : ((cn : Int) == 0) with
  | true =>
    rw [t0] at HA
    go_enter Try.func35, Try.ntmps35
    go_wp2_with fail
    go_ret
    exact ⟨ret_bool (by rw [HA.out]; rfl), Below.refl _ _⟩
  | false =>
    rw [t0, Bool.false_or] at HA
    go_enter Try.func35, Try.ntmps35
    go_wp2_with fail
    refine (KL.out _).mono ?_
    rintro e w1 ⟨rfl, hb⟩
    have B1 := Lib.hid hb
    clear hb
    go_wp2_with fail
    go_ret
    exact ⟨ret_bool HA.out.symm, B1.out⟩
set_option maxHeartbeats 800000 in
theorem cignored_any (s : ByteArray) (c : UInt8) (p : Option Addr) (n cap : Nat) (w : World) : Calls Try.prog 48 #[.agg #[.int .u8 c.toNat, .slice p n cap], .string s] w fun e w' => e = .returned (.bool (hasB (lA s) c)) ∧ Below w.heap.size w w' := by
  obtain ⟨W0, hW0⟩ : ∃ W, W = w.alloc (.cells #[.int .u8 c.toNat, .slice p n cap] 55) := ⟨_, rfl⟩
  have N0 : W0.heap[w.heap.size]? = some (.cells #[.int .u8 c.toNat, .slice p n cap] 55 (0, 0)) := by rw [hW0]; exact heap_alloc_new _ _
  have B0 : Below w.heap.size w W0 := by rw [hW0]; exact (Below.refl _ _).alloc (Nat.le_refl _) _
  have HB := Lib.hid B0
  have q0 := cell_two0 N0
  have l1 := lt_of_block N0
  have KI := Lib.hid (fun w => Try.strings_IndexByte s (c.toNat : Int) w)
  rw [u8_int] at KI
  have HX : Hid (decide (0 ≤ Lib.indexByte s.data.toList c) = hasB (lA s) c) := Lib.hid (idx_has _ c)
  generalize Lib.indexByte s.data.toList c = x at KI HX
  generalize hasB (lA s) c = t at HX ⊢
  have hcl := c.toNat_lt
  generalize c.toNat = cn at KI hW0 q0 hcl ⊢
  clear N0 B0
  go_enter Try.func48, Try.ntmps48
  go_wp2_with fail
  rw [← hW0]
  clear hW0
  go_wp2_with fail
  refine (KI.out _).mono ?_
  rintro e w1 ⟨rfl, rfl⟩
  go_wp2_with fail
  go_ret
  exact ⟨ret_bool HX.out, HB.out⟩
set_option maxRecDepth 100000 in
set_option maxHeartbeats 3200000 in
theorem cignorable_any (s : ByteArray) (hs : s.size ≤ 9223372036854775807) (w : World) : Calls Try.prog 36 #[.string s] w fun e w' => e = .returned (.bool (ignB (lA s))) ∧ Below w.heap.size w w' := by
  have HSz := Lib.hid (lA_len s)
  by_cases h20 : (20 : Int) < (s.size : Int)
  · have HF : Hid (ignB (lA s) = false) := Lib.hid (ign_len (by rw [HSz.out]; omega))
    go_enter Try.func36, Try.ntmps36
    go_wp2_with fail
    go_ret
    exact ⟨ret_bool HF.out.symm, Below.refl _ _⟩
  · have KL := Lib.hid cletter_any
    have KI := Lib.hid (fun (t : ByteArray) (c : UInt8) w => Try.strings_IndexByte t (c.toNat : Int) w)
    go_enter Try.func36, Try.ntmps36
    go_wp2_with fail
    go_loopw [9] (fun i wr => ∃ k : Nat, k ≤ s.size ∧ i = .int .i64 k ∧ Below w.heap.size w wr ∧ ignU (lA s) k = true) (fun i _ => s.size - (intOf i).toNat)
    case atStart => exact ⟨0, Nat.zero_le _, rfl, Below.refl _ _, ignU_zero _⟩
    case round =>
      obtain ⟨k, hk, rfl, hb0, hok⟩ := hrel
      have HK := Lib.hid hok
      have HB := Lib.hid hb0
      clear hok hb0
      by_cases hlt : k < s.size
      · have hl2 : k < (lA s).length := by rw [HSz.out]; exact hlt
        have HG := Lib.hid (lA_get s k hlt hl2)
        obtain ⟨b, hb⟩ : ∃ b, s[k]'hlt = b := ⟨_, rfl⟩
        rw [hb] at HG
        have KL1 : Hid (∀ (d' : Nat) (os : Array Obj), Calls Try.prog 46 #[.int .u8 (s[k]'hlt).toNat] («Sort».grow (redrawn wr d') os) fun e w' => e = .returned (.bool (plnB b)) ∧ Below («Sort».grow (redrawn wr d') os).heap.size («Sort».grow (redrawn wr d') os) w') := Lib.hid (fun d' os => by rw [hb]; exact KL.out b _)
        have KI1 : Hid (∀ (d' : Nat) (os : Array Obj), Calls Try.prog 57 #[.string (s.extract 0 k), .int .u8 (s[k]'hlt).toNat] («Sort».grow (redrawn wr d') os) fun e w' => e = .returned (.int .i64 (Lib.indexByte (s.extract 0 k).data.toList b)) ∧ Below («Sort».grow (redrawn wr d') os).heap.size («Sort».grow (redrawn wr d') os) w') := Lib.hid (fun d' os => by
          rw [hb]
          refine (KI.out _ b _).mono ?_
          rintro e w2 ⟨h1, h2⟩
          subst h2
          exact ⟨by rw [h1, u8_int], Below.refl _ _⟩)
        have HX : Hid (decide (0 ≤ Lib.indexByte (s.extract 0 k).data.toList b) = hasB ((lA s).take k) b) := Lib.hid (by rw [← lA_take]; exact idx_has _ b)
        generalize Lib.indexByte (s.extract 0 k).data.toList b = x at KI1 HX
        cases hp : plnB b with
        | false =>
          rw [hp] at KL1
          have HF : Hid (ignB (lA s) = false) := Lib.hid (ignU_bad hl2 (.inl (by rw [HG.out]; exact hp)))
          clear hp hb
          go_wp2_with fail
          (refine wp_region_quiet_below (by kernel_rfl) (by kernel_rfl) ?_; repeat (any_goals (first | go_big_quiet_step ((first | (go_at_call 46; exact Calls.regrown_of (KL1.out _ _)) | (go_at_call 57; exact Calls.regrown_of (KI1.out _ _)))) | quiet_step ((first | (go_at_call 46; exact Calls.regrown_of (KL1.out _ _)) | (go_at_call 57; exact Calls.regrown_of (KI1.out _ _)))))))
          (refine wpQuiet_nil ?_; intro _ hw'; obtain ⟨⟨dq, osq⟩, hw''⟩ := hw'; subst hw''; have HB2 : Hid (Below w.heap.size w («Sort».grow (redrawn wr dq) osq)) := Lib.hid (HB.out.trans ((below_regrown wr dq osq).mono HB.out.size)))
          go_wp2_with fail
          go_ret
          exact ⟨ret_bool HF.out.symm, HB2.out⟩
        | true =>
          rw [hp] at KL1
          cases hh : hasB ((lA s).take k) b with
          | true =>
            have h0 : (0 : Int) ≤ x := of_decide_eq_true (HX.out.trans hh)
            have HF : Hid (ignB (lA s) = false) := Lib.hid (ignU_bad hl2 (.inr (by rw [HG.out]; exact hh)))
            clear hp hb hh
            go_wp2_with fail
            (refine wp_region_quiet_below (by kernel_rfl) (by kernel_rfl) ?_; repeat (any_goals (first | go_big_quiet_step ((first | (go_at_call 46; exact Calls.regrown_of (KL1.out _ _)) | (go_at_call 57; exact Calls.regrown_of (KI1.out _ _)))) | quiet_step ((first | (go_at_call 46; exact Calls.regrown_of (KL1.out _ _)) | (go_at_call 57; exact Calls.regrown_of (KI1.out _ _)))))))
            (refine wpQuiet_nil ?_; intro _ hw'; obtain ⟨⟨dq, osq⟩, hw''⟩ := hw'; subst hw''; have HB2 : Hid (Below w.heap.size w («Sort».grow (redrawn wr dq) osq)) := Lib.hid (HB.out.trans ((below_regrown wr dq osq).mono HB.out.size)))
            go_wp2_with fail
            go_ret
            exact ⟨ret_bool HF.out.symm, HB2.out⟩
          | false =>
            have h0 : ¬ (0 : Int) ≤ x := of_decide_eq_false (HX.out.trans hh)
            have HF : Hid (ignU (lA s) (k + 1) = true) := Lib.hid (ignU_good hl2 HK.out (by rw [HG.out]; exact hp) (by rw [HG.out]; exact hh))
            clear hp hb hh
            go_wp2_with fail
            (refine wp_region_quiet_below (by kernel_rfl) (by kernel_rfl) ?_; repeat (any_goals (first | go_big_quiet_step ((first | (go_at_call 46; exact Calls.regrown_of (KL1.out _ _)) | (go_at_call 57; exact Calls.regrown_of (KI1.out _ _)))) | quiet_step ((first | (go_at_call 46; exact Calls.regrown_of (KL1.out _ _)) | (go_at_call 57; exact Calls.regrown_of (KI1.out _ _)))))))
            (refine wpQuiet_nil ?_; intro _ hw'; obtain ⟨⟨dq, osq⟩, hw''⟩ := hw'; subst hw''; have HB2 : Hid (Below w.heap.size w («Sort».grow (redrawn wr dq) osq)) := Lib.hid (HB.out.trans ((below_regrown wr dq osq).mono HB.out.size)))
            go_wp2_with fail
            go_roundw
            case rel => exact ⟨k + 1, by omega, by go_num, HB2.out, HF.out⟩
            case measure => first | (simp [intOf]; done) | (simp [intOf]; omega)
      · obtain rfl : k = s.size := by omega
        have k1 : ¬ (s.size : Int) < (s.size : Int) := by omega
        have HE : Hid (ignB (lA s) = true) := Lib.hid (by
          unfold ignB
          rw [HSz.out, HK.out, Bool.and_true, decide_eq_true_iff]
          omega)
        go_wp2_with fail
        go_ret
        exact ⟨ret_bool HE.out.symm, HB.out⟩
end Go.Proofs.Ytcoljbcjnggagaa
