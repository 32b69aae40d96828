/-
  Texts of the proof, merged: DWordPrA, DWordPrB, DWordClM, DWordPrC, DWordPrE, DWordPrF.
-/
import Derived.Test.YtepoaobjcpgilaaDoorDChanceCellsProofM3
import Derived.Test.YtepoaobjcpgilaaDoorShelfI
import Derived.Lib.IndexLaws
import Derived.Laws.EntriesVeiled
import Derived.Test.YtepoaobjcpgilaaDoorDChanceCellsProofM2
import Derived.Laws.CopyOwn
import Derived.Lib.LazyBuf
namespace Go.Proofs.YtepoaobjcpgilaaDoor
open Go.RowKit
open WM
set_option linter.unusedVariables false
set_option linter.unusedSimpArgs false

theorem idx_nm (c : UInt8) : (0 ≤ Lib.indexByte nmS.data.toList c) ↔ (c == 43 || c == 45 || c == 38 || c == 94 || c == 124 || c == 33 || c == 91 || c == 93) = true := by
  have all : ∀ n : Fin 256, (0 ≤ Lib.indexByte nmS.data.toList (UInt8.ofNat n.1)) ↔ ((UInt8.ofNat n.1) == 43 || (UInt8.ofNat n.1) == 45 || (UInt8.ofNat n.1) == 38 || (UInt8.ofNat n.1) == 94 || (UInt8.ofNat n.1) == 124 || (UInt8.ofNat n.1) == 33 || (UInt8.ofNat n.1) == 91 || (UInt8.ofNat n.1) == 93) = true := by decide +kernel
  have e : UInt8.ofNat c.toNat = c := UInt8.toNat_inj.1 (by rw [UInt8.toNat_ofNat']; have := c.toNat_lt; omega)
  have := all ⟨c.toNat, c.toNat_lt⟩
  rw [e] at this
  exact this
theorem u8_int (c : UInt8) : ((c.toNat : Int)).toNat.toUInt8 = c := by
  rw [Int.toNat_natCast]; exact UInt8.toNat_inj.1 (by rw [Nat.toUInt8, UInt8.toNat_ofNat']; have := c.toNat_lt; omega)
set_option maxHeartbeats 800000 in
theorem proper_any (c : UInt8) (w : World) : Calls Tryd.prog 90 #[.int .u8 c.toNat] w fun e w' => e = .returned (.bool (letB c)) ∧ w = w' := by
  have hc := c.toNat_lt
  have KI := Lib.hid (fun w => Tryd.strings_IndexByte nmS (c.toNat : Int) w)
  rw [u8_int] at KI
  have HX := Lib.hid (idx_nm c)
  obtain ⟨x, hx⟩ : ∃ x, Lib.indexByte nmS.data.toList c = x := ⟨_, rfl⟩
  rw [hx] at KI HX
  clear hx
  have HL : Hid (letB c = ((c == 43 || c == 45 || c == 38 || c == 94 || c == 124 || c == 33 || c == 91 || c == 93) || (decide (65 ≤ c.toNat) && decide (c.toNat ≤ 90)) || (decide (97 ≤ c.toNat) && decide (c.toNat ≤ 122)))) := Lib.hid rfl
  obtain ⟨s, hs⟩ : ∃ s : ByteArray, (⟨#[43, 45, 38, 94, 124, 33, 91, 93]⟩ : ByteArray) = s := ⟨_, rfl⟩
  have hss : nmS = s := hs
  rw [hss] at KI
  clear hss
  have HL2 := HL.out
  have HX2 := HX.out
  have fin : ∀ b : Bool, (b = true ↔ ((65 ≤ c.toNat ∧ c.toNat ≤ 90) ∨ (97 ≤ c.toNat ∧ c.toNat ≤ 122))) → (b || decide (0 ≤ x)) = letB c := by
    intro b hb
    rw [HL2]
    generalize (c == 43 || c == 45 || c == 38 || c == 94 || c == 124 || c == 33 || c == 91 || c == 93) = g at HX2
    have e1 : b = ((decide (65 ≤ c.toNat) && decide (c.toNat ≤ 90)) || (decide (97 ≤ c.toNat) && decide (c.toNat ≤ 122))) := by
      rw [Bool.eq_iff_iff, hb]; simp
    have e2 : decide (0 ≤ x) = g := by rw [Bool.eq_iff_iff, decide_eq_true_iff, HX2]
    rw [e1, e2, Bool.or_comm, Bool.or_assoc]
  clear HL2 HX2
  have HF := Lib.hid fin
  clear fin HL HX
  by_cases c1 : (65 : Int) ≤ c.toNat
  · by_cases c2 : (c.toNat : Int) ≤ 90
    · go_enter Tryd.func90, Tryd.ntmps90
      go_wp2_with fail
      go_ret
      exact ⟨ret_bool (by rw [← HF.out true (by simp; omega)]; rfl), rfl⟩
    · by_cases c3 : (97 : Int) ≤ c.toNat
      · by_cases c4 : (c.toNat : Int) ≤ 122
        · go_enter Tryd.func90, Tryd.ntmps90
          go_wp2_with fail
          go_ret
          exact ⟨ret_bool (by rw [← HF.out true (by simp; omega)]; rfl), rfl⟩
        · go_enter Tryd.func90, Tryd.ntmps90
          go_wp2_with fail
          refine (KI.out _).mono ?_
          rintro e w2 ⟨rfl, rfl⟩
          go_wp2_with fail
          go_ret
          exact ⟨ret_bool (by rw [← HF.out false (by simp; omega)]; simp), rfl⟩
      · go_enter Tryd.func90, Tryd.ntmps90
        go_wp2_with fail
        refine (KI.out _).mono ?_
        rintro e w2 ⟨rfl, rfl⟩
        go_wp2_with fail
        go_ret
        exact ⟨ret_bool (by rw [← HF.out false (by simp; omega)]; simp), rfl⟩
  · have c3 : ¬ (97 : Int) ≤ c.toNat := by omega
    go_enter Tryd.func90, Tryd.ntmps90
    go_wp2_with fail
    refine (KI.out _).mono ?_
    rintro e w2 ⟨rfl, rfl⟩
    go_wp2_with fail
    go_ret
    exact ⟨ret_bool (by rw [← HF.out false (by simp; omega)]; simp), rfl⟩

set_option maxHeartbeats 800000 in
theorem bracket_any (c : UInt8) (p : Option Addr) (n cap : Nat) (w : World) : Calls Tryd.prog 91 #[.agg #[.int .u8 c.toNat, .slice p n cap]] w fun e w' => e = .returned (.bool (braB c)) ∧ Below w.heap.size w w' := by
  obtain ⟨W0, hW0⟩ : ∃ W, W = w.alloc (.cells #[.int .u8 c.toNat, .slice p n cap] 25) := ⟨_, rfl⟩
  have N0 : W0.heap[w.heap.size]? = some (.cells #[.int .u8 c.toNat, .slice p n cap] 25 (0, 0)) := by rw [hW0]; exact heap_alloc_new _ _
  have B0 : Below w.heap.size w W0 := by rw [hW0]; exact (Below.refl _ _).alloc (Nat.le_refl _) _
  have HB := Lib.hid B0
  have q0 := cell_two0 N0
  have l1 := lt_of_block N0
  clear N0 B0
  have walk : ∀ (t1 t2 : Bool), ((c.toNat : Int) == 91) = t1 → ((c.toNat : Int) == 93) = t2 → braB c = (t1 || t2) →
      Calls Tryd.prog 91 #[.agg #[.int .u8 c.toNat, .slice p n cap]] w fun e w' => e = .returned (.bool (braB c)) ∧ Below w.heap.size w w' := by
    intro t1 t2 e1 e2 hb
    have HBr := Lib.hid hb
    clear hb
    cases t1 with
    | true =>
      go_enter Tryd.func91, Tryd.ntmps91
      go_wp2_with fail
      rw [← hW0]
      clear hW0
      go_wp2_with fail
      go_ret
      exact ⟨ret_bool HBr.out.symm, HB.out⟩
    | false =>
      go_enter Tryd.func91, Tryd.ntmps91
      go_wp2_with fail
      rw [← hW0]
      clear hW0
      go_wp2_with fail
      go_ret
      exact ⟨ret_bool (by rw [HBr.out]; simp), HB.out⟩
  exact walk _ _ rfl rfl (by
    rw [show (91 : Int) = ((91 : UInt8).toNat : Int) from rfl, show (93 : Int) = ((93 : UInt8).toNat : Int) from rfl, u8_eq, u8_eq]; rfl)
end Go.Proofs.YtepoaobjcpgilaaDoor
namespace Go.Proofs.YtepoaobjcpgilaaDoor
open Go.RowKit
open WM
set_option linter.unusedVariables false
set_option linter.unusedSimpArgs false

set_option maxHeartbeats 1600000 in
theorem valid_any (m : Md) (v : Value) (hm : m.a.length ≤ 9223372036854775807) (w : World) (hv : Ints w v m.a) : Calls Tryd.prog 75 #[.agg #[.int .u8 m.c.toNat, v]] w fun e w' => e = .returned (.bool (fineB m)) ∧ Below w.heap.size w w' := by
  obtain ⟨p, cap, rfl⟩ := hv.slice
  obtain ⟨W0, hW0⟩ : ∃ W, W = w.alloc (.cells #[.int .u8 m.c.toNat, .slice p m.a.length cap] 25) := ⟨_, rfl⟩
  have N0 : W0.heap[w.heap.size]? = some (.cells #[.int .u8 m.c.toNat, .slice p m.a.length cap] 25 (0, 0)) := by rw [hW0]; exact heap_alloc_new _ _
  have B0 : Below w.heap.size w W0 := by rw [hW0]; exact (Below.refl _ _).alloc (Nat.le_refl _) _
  have S0 : W0.heap.size = w.heap.size + 1 := by rw [hW0]; simp
  have HS0 := Lib.hid S0
  have HN := Lib.hid N0
  have HB := Lib.hid B0
  have HV0 := Lib.hid (hv.later B0)
  have q0 := cell_two0 N0
  have q1 := cell_two1 N0
  have l1 := lt_of_block N0
  clear N0 B0 hv S0
  have HBr := Lib.hid (fun w => bracket_any m.c p m.a.length cap w)
  cases hl : letB m.c with
  | false =>
    have HF := Lib.hid (fine_let0 hl)
    have HC : Hid (∀ w, Calls Tryd.prog 90 #[.int .u8 m.c.toNat] w fun e w' => e = .returned (.bool false) ∧ w = w') := Lib.hid (fun w => by have := proper_any m.c w; rwa [hl] at this)
    clear hl
    go_enter Tryd.func75, Tryd.ntmps75
    go_wp2_with fail
    rw [← hW0]
    clear hW0
    go_wp2_with (go_at_call 90; refine (HC.out _).mono ?_; rintro e w2 ⟨rfl, rfl⟩)
    go_ret
    exact ⟨ret_bool HF.out.symm, HB.out⟩
  | true =>
    have HC : Hid (∀ w, Calls Tryd.prog 90 #[.int .u8 m.c.toNat] w fun e w' => e = .returned (.bool true) ∧ w = w') := Lib.hid (fun w => by have := proper_any m.c w; rwa [hl] at this)
    by_cases h4 : 4 < m.a.length
    · have HF := Lib.hid (fine_len h4)
      have h4' : (4 : Int) < (m.a.length : Int) := by omega
      clear hl
      go_enter Tryd.func75, Tryd.ntmps75
      go_wp2_with fail
      rw [← hW0]
      clear hW0
      go_wp2_with (go_at_call 90; refine (HC.out _).mono ?_; rintro e w2 ⟨rfl, rfl⟩)
      go_ret
      exact ⟨ret_bool HF.out.symm, HB.out⟩
    · have h4' : ¬ (4 : Int) < (m.a.length : Int) := by omega
      have HL := Lib.hid hl
      obtain ⟨t, ht⟩ : ∃ t, braB m.c = t := ⟨_, rfl⟩
      rw [ht] at HBr
      have HT := Lib.hid ht
      clear hl ht
      cases t with
      | true =>
        by_cases hz : 0 < m.a.length
        · have HF := Lib.hid (fine_bra HT.out hz)
          have hz2 : (0 : Int) < (m.a.length : Int) := by omega
          go_enter Tryd.func75, Tryd.ntmps75
          go_wp2_with fail
          rw [← hW0]
          clear hW0
          go_wp2_with (go_at_call 90; refine (HC.out _).mono ?_; rintro e w2 ⟨rfl, rfl⟩)
          refine (HBr.out _).mono ?_
          rintro e w2 ⟨rfl, hb⟩
          have HB2 := Lib.hid (HB.out.trans (hb.mono HB.out.size))
          have q1 := (hb.cell (p := ⟨w.heap.size, 1, none⟩) l1).trans q1
          clear hb
          go_wp2_with fail
          go_ret
          exact ⟨ret_bool HF.out.symm, HB2.out⟩
        · have HF := Lib.hid (fine_all HL.out (by omega) (.inr (by omega)) fun j h => by omega)
          have hl0 : m.a.length = 0 := by omega
          have hz2 : ¬ (0 : Int) < (m.a.length : Int) := by omega
          clear hl0
          go_enter Tryd.func75, Tryd.ntmps75
          go_wp2_with fail
          rw [← hW0]
          clear hW0
          go_wp2_with (go_at_call 90; refine (HC.out _).mono ?_; rintro e w2 ⟨rfl, rfl⟩)
          refine (HBr.out _).mono ?_
          rintro e w2 ⟨rfl, hb⟩
          have HB2 := Lib.hid (HB.out.trans (hb.mono HB.out.size))
          have q1 := (hb.cell (p := ⟨w.heap.size, 1, none⟩) l1).trans q1
          have l1 := Nat.lt_of_lt_of_le l1 hb.size
          clear hb
          go_wp2_with fail
          go_loop [28] (fun i => i = .int .i64 0) (fun _ => 0)
          case atStart => rfl
          case round =>
            subst hrel
            go_wp2_with fail
            go_ret
            exact ⟨ret_bool HF.out.symm, HB2.out⟩
      | false =>
        go_enter Tryd.func75, Tryd.ntmps75
        go_wp2_with fail
        rw [← hW0]
        clear hW0
        go_wp2_with (go_at_call 90; refine (HC.out _).mono ?_; rintro e w2 ⟨rfl, rfl⟩)
        refine (HBr.out _).mono ?_
        rintro e w2 ⟨rfl, hb⟩
        have HB2 := Lib.hid (HB.out.trans (hb.mono HB.out.size))
        have HV2 := Lib.hid (HV0.out.later (hb.mono (Nat.le_refl _)))
        have q1 := (hb.cell (p := ⟨w.heap.size, 1, none⟩) l1).trans q1
        have l1 := Nat.lt_of_lt_of_le l1 hb.size
        clear hb
        go_wp2_with fail
        go_loop [28] (fun i => ∃ k : Nat, k ≤ m.a.length ∧ i = .int .i64 k ∧ ∀ j, (h : j < m.a.length) → j < k → -1000000000 ≤ m.a[j] ∧ m.a[j] ≤ 1000000000) (fun i => m.a.length - (intOf i).toNat)
        case atStart => exact ⟨0, Nat.zero_le _, rfl, fun j _ h => by omega⟩
        case round =>
          obtain ⟨k, hk, rfl, hok⟩ := hrel
          have HK := Lib.hid hok
          clear hok
          by_cases hlt : k < m.a.length
          · obtain ⟨b, off, cap', hp, e1', lb⟩ := HV2.out.at hlt
            obtain rfl : p = some ⟨b, off, none⟩ := by cases hp; rfl
            obtain ⟨y, hy⟩ : ∃ y, m.a[k] = y := ⟨_, rfl⟩
            have HY : Hid (m.a[k] = y) := Lib.hid hy
            rw [hy] at e1'
            clear hp hy
            have k1 : (k : Int) < (m.a.length : Int) := by omega
            by_cases y1 : y < -1000000000
            · have HF := Lib.hid (fine_rng hlt (.inl (by rw [HY.out]; exact y1)))
              go_wp2_with fail
              go_ret
              exact ⟨ret_bool HF.out.symm, HB2.out⟩
            · by_cases y2 : 1000000000 < y
              · have HF := Lib.hid (fine_rng hlt (.inr (by rw [HY.out]; exact y2)))
                go_wp2_with fail
                go_ret
                exact ⟨ret_bool HF.out.symm, HB2.out⟩
              · have HG : Hid (∀ j, (h : j < m.a.length) → j < k + 1 → -1000000000 ≤ m.a[j] ∧ m.a[j] ≤ 1000000000) := Lib.hid (fun j h hj => by
                  rcases Nat.lt_or_eq_of_le (Nat.le_of_lt_succ hj) with h1 | h1
                  · exact HK.out j h h1
                  · subst h1; rw [HY.out]; omega)
                go_wp2_with fail
                go_round
                case rel => exact ⟨k + 1, by omega, by go_num, HG.out⟩
                case measure => simp [intOf]; omega
          · obtain rfl : k = m.a.length := by omega
            have HF := Lib.hid (fine_all HL.out (by omega) (.inl HT.out) fun j h => HK.out j h h)
            go_wp2_with fail
            go_ret
            exact ⟨ret_bool HF.out.symm, HB2.out⟩
end Go.Proofs.YtepoaobjcpgilaaDoor
namespace Go.Proofs.YtepoaobjcpgilaaDoor
open Go.RowKit
open WM
set_option linter.unusedVariables false
set_option linter.unusedSimpArgs false

theorem ret_two {a b c d : Int} (h1 : a = b) (h2 : c = d) : Ending.returned (.tuple #[.int .i64 a, .int .i64 c]) = .returned (.tuple #[.int .i64 b, .int .i64 d]) := by rw [h1, h2]
theorem opn_rng {l : List Md} (h : okB l l.length = true) {k : Nat} (hk : k < l.length) : 0 ≤ dep (l.take (k + 1)) ∧ dep (l.take (k + 1)) ≤ l.length := by
  have h1 := okB_iff.1 h k hk
  have h2 := dep_hi l (k + 1) (by omega)
  omega
theorem dmax_le {l : List Md} (h : okB l l.length = true) : ∀ k, k ≤ l.length → dmax l k ≤ l.length := by
  intro k
  induction k with
  | zero => intro _; rw [dmax_zero]; omega
  | succ k ih =>
    intro hk
    have := opn_rng h (k := k) (by omega)
    have := ih (by omega)
    rw [dmax_succ]; omega
/-- Open of a valid word. -/
theorem open_valid (v : Value) (l : List Md) (hc : chk l = 0) (w : World) (hv : Mods w v l) :
    Calls Tryd.prog 68 #[v] w fun e w' => ∃ p cap, e = .returned (.tuple #[.slice p l.length cap, .bool true]) ∧ Below w.heap.size w w' ∧ Ints w' (.slice p l.length cap) (opnL l l.length) := by
  have hh := chk_zero.1 hc
  refine (open_any v l (by omega) w hv).mono ?_
  rintro e w' ⟨hb, ⟨hno, _⟩ | ⟨_, v1, rfl, hi⟩⟩
  · rw [hh.2.2.1] at hno; exact absurd hno (by simp)
  · obtain ⟨p, cap, rfl⟩ := hi.slice
    rw [opnL_length] at hi ⊢
    exact ⟨p, cap, rfl, hb, hi⟩
def dpI (l : List Md) : Int := if chk l = 0 then dmax l l.length else 0
/-- k is the bracket that belongs to the one at i. -/
def IsCl (l : List Md) (i k : Nat) : Prop :=
  ∃ (hi : i < l.length) (hk : k < l.length),
  (l[i].c = 91 ∧ i < k ∧ dep (l.take (k + 1)) < dep (l.take (i + 1)) ∧ ∀ j, i < j → j < k → dep (l.take (i + 1)) ≤ dep (l.take (j + 1))) ∨
  (l[i].c = 93 ∧ k < i ∧ l[k].c = 91 ∧ dep (l.take (k + 1)) = dep (l.take (i + 1)) + 1 ∧ ∀ j, (hj : j < l.length) → k < j → j < i → ¬ (l[j].c = 91 ∧ dep (l.take (j + 1)) = dep (l.take (i + 1)) + 1))
theorem isCl_one {l : List Md} {i k k' : Nat} (h : IsCl l i k) (h' : IsCl l i k') : k = k' := by
  obtain ⟨hi, hk, h⟩ := h
  obtain ⟨_, hk', h'⟩ := h'
  rcases h with ⟨a1, a2, a3, a4⟩ | ⟨a1, a2, a3, a4, a5⟩
  · rcases h' with ⟨_, b2, b3, b4⟩ | ⟨b1, _⟩
    · rcases Nat.lt_trichotomy k k' with h | h | h
      · have := b4 k a2 h; omega
      · exact h
      · have := a4 k' b2 h; omega
    · rw [a1] at b1; exact absurd b1 (by decide)
  · rcases h' with ⟨b1, _⟩ | ⟨_, b2, b3, b4, b5⟩
    · rw [a1] at b1; exact absurd b1 (by decide)
    · rcases Nat.lt_trichotomy k k' with h | h | h
      · exact absurd ⟨b3, b4⟩ (a5 k' hk' h b2)
      · exact h
      · exact absurd ⟨a3, a4⟩ (b5 k hk h a2)
/-- Has a module at i, which is a bracket? -/
def atB (l : List Md) (i : Int) : Bool := decide (0 ≤ i) && decide (i < l.length) && braB (l.getD i.toNat ⟨0, []⟩).c
theorem atB_iff {l : List Md} {i : Int} : atB l i = true ↔ ∃ k : Nat, i = (k : Int) ∧ ∃ h : k < l.length, braB l[k].c = true := by
  unfold atB
  simp only [Bool.and_eq_true, decide_eq_true_eq]
  constructor
  · rintro ⟨⟨h1, h2⟩, h3⟩
    have hk : i.toNat < l.length := by omega
    exact ⟨i.toNat, by omega, hk, by simpa [List.getD, hk] using h3⟩
  · rintro ⟨k, rfl, h, h3⟩
    exact ⟨⟨by omega, by omega⟩, by simpa [List.getD, h] using h3⟩
theorem bra_cases {c : UInt8} (h : braB c = true) : c = 91 ∨ c = 93 := by
  unfold braB at h; simpa using h
/-- How Close ends. -/
def ClEnd (l : List Md) (i : Int) (w : World) (e : Ending) (w' : World) : Prop :=
  Below w.heap.size w w' ∧ ((chk l ≠ 0 ∧ e = .returned (.tuple #[.int .i64 0, .int .i64 (chk l)])) ∨ (chk l = 0 ∧ atB l i = false ∧ e = .returned (.tuple #[.int .i64 0, .int .i64 2])) ∨
    (chk l = 0 ∧ ∃ j k : Nat, i = (j : Int) ∧ IsCl l j k ∧ e = .returned (.tuple #[.int .i64 (k : Int), .int .i64 0])))
end Go.Proofs.YtepoaobjcpgilaaDoor
namespace Go.Proofs.YtepoaobjcpgilaaDoor
open Go.RowKit
open WM
set_option linter.unusedVariables false
set_option linter.unusedSimpArgs false

/-- The brackets that are open at each module, a pair's own counted at both of its brackets. -/
def lvlA (l : List Md) (i : Nat) : Int := dep (l.take (i + 1)) + (if (l.getD i ⟨0, []⟩).c = 93 then 1 else 0)
theorem lvlA_eq {l : List Md} {i : Nat} (h : i < l.length) : lvlA l i = dep (l.take (i + 1)) + (if l[i].c = 93 then 1 else 0) := by
  unfold lvlA; simp [List.getD, h]
def lvlL (l : List Md) (k : Nat) : List Int := (List.range l.length).map fun i => if i < k then lvlA l i else 0
theorem lvlL_length (l : List Md) (k : Nat) : (lvlL l k).length = l.length := by simp [lvlL]
theorem lvlL_zero (l : List Md) : lvlL l 0 = List.replicate l.length 0 := by
  apply List.ext_getElem (by simp [lvlL])
  intro i h1 h2; simp [lvlL]
theorem lvlL_get {l : List Md} {k i : Nat} (h : i < l.length) : (lvlL l k)[i]'(by rw [lvlL_length]; exact h) = if i < k then lvlA l i else 0 := by simp [lvlL]
theorem lvlL_set {l : List Md} {k : Nat} (h : k < l.length) : (lvlL l k).set k (lvlA l k) = lvlL l (k + 1) := by
  apply List.ext_getElem (by simp [lvlL])
  intro i h1 h2
  rw [List.getElem_set]
  rw [lvlL_length] at h2
  rw [lvlL_get (k := k + 1) h2]
  by_cases e : k = i
  · subst e; rw [if_pos rfl, if_pos (by omega)]
  · rw [if_neg e, lvlL_get h2]
    by_cases e2 : i < k
    · rw [if_pos e2, if_pos (by omega)]
    · rw [if_neg e2, if_neg (by omega)]
/-- How levels ends. -/
def LvEnd (l : List Md) (w : World) (e : Ending) (w' : World) : Prop :=
  Below w.heap.size w w' ∧ ((okB l l.length = false ∧ e = .returned (.tuple #[.slice none 0 0, .bool false])) ∨ (okB l l.length = true ∧ ∃ g, e = .returned (.tuple #[.slice (some ⟨g, 0, none⟩) l.length l.length, .bool (decide (dep l = 0))]) ∧ RowI w' g (lvlL l l.length)))
/-- Where levels stands. -/
structure LvAt (w : World) (l : List Md) (k : Nat) (wr : World) : Prop where
  hi : k ≤ l.length
  ok : okB l k = true
  row : RowI wr w.heap.size (lvlL l k)
  below : Below w.heap.size w wr
theorem LvAt.rng {w wr : World} {l : List Md} {k : Nat} (h : LvAt w l k wr) : 0 ≤ dep (l.take k) ∧ dep (l.take k) ≤ k := by
  refine ⟨?_, dep_hi l k h.hi⟩
  rcases Nat.eq_zero_or_pos k with h0 | h0
  · subst h0; simp [dep_nil]
  · have := okB_iff.1 h.ok (k - 1) (by omega)
    rwa [show k - 1 + 1 = k by omega] at this
theorem lvAt_start (w : World) (l : List Md) : LvAt w l 0 (w.alloc (.cells (zeros l.length) 3)) :=
  ⟨Nat.zero_le _, okB_zero l, by rw [lvlL_zero]; exact made_row _ _, (Below.refl _ _).alloc (Nat.le_refl _) _⟩
theorem lvAt_step {w wr : World} {l : List Md} {k : Nat} (h : LvAt w l k wr) (hk : k < l.length) (hd : 0 ≤ dep (l.take (k + 1))) (x : Int) (hx : x = lvlA l k) : LvAt w l (k + 1) (wr.setCell ⟨w.heap.size, k, none⟩ (.int .i64 x)) := by
  subst hx
  refine ⟨hk, by rw [okB_succ, h.ok]; simpa using hd, ?_, h.below.setCell (Nat.le_refl _) _⟩
  have := h.row.set (i := k) (by rw [lvlL_length]; exact hk) (lvlA l k)
  rwa [lvlL_set hk] at this
set_option maxRecDepth 100000 in
set_option maxHeartbeats 1600000 in
theorem levels_any (v : Value) (l : List Md) (hmax : l.length ≤ 50000) (w : World) (hv : Mods w v l) :
    Calls Tryd.prog 76 #[v] w (LvEnd l w) := by
  obtain ⟨p, cap, rfl⟩ := hv.slice
  have HV := Lib.hid hv
  have hmk : ∀ w : World, (Instr.makeSlice 23 (.int .i64 (l.length : Int)) (.int .i64 (l.length : Int))).run Tryd.prog w = .ok (.slice (some ⟨w.heap.size, 0, none⟩) l.length l.length) (w.alloc (.cells (zeros l.length) 3)) := fun w => by
    have := run_make (P := Tryd.prog) w 23 3 Tryd.t3 (.int .i64 0) Tryd.underlying23 (by kernel_rfl) (by kernel_rfl) .i64 .i64 l.length l.length (by omega) (Int.le_refl _) (by show ((8 : Nat) : Int) * (l.length : Int) ≤ _; omega) (by omega)
    rw [this]; simp only [zeros, Value.cells, Int.toNat_natCast, show (Tryd.t3).size = 1 from rfl, Nat.mul_one]
  have S0 := Lib.hid (lvAt_start w l)
  clear hv
  go_enter Tryd.func76, Tryd.ntmps76
  go_wp2_with fail
  go_loopw [2, 4, 11] (fun v n i wr => ∃ k : Nat, v = .slice (some ⟨w.heap.size, 0, none⟩) l.length l.length ∧ i = .int .i64 k ∧ n = .int .i64 (dep (l.take k)) ∧ LvAt w l k wr) (fun _ _ i _ => l.length - (intOf i).toNat)
  case atStart => exact ⟨0, rfl, rfl, by simp [dep_nil], S0.out⟩
  case round =>
    obtain ⟨k, rfl, rfl, rfl, hO⟩ := hrel
    have HO := Lib.hid hO
    have n1 := hO.hi
    have n2 := hO.rng
    have hsz := hO.below.size
    have l2 := hO.row.lt
    have HR := Lib.hid hO.row.free
    clear hO
    by_cases hlt : k < l.length
    · obtain ⟨b, off, cap', q, c, hp, e1, _, _, lb⟩ := (HV.out.later (HO.out.below.mono (Nat.le_refl _))).at hlt
      obtain rfl : p = some ⟨b, off, none⟩ := by cases hp; rfl
      have hs := dep_snoc hlt
      have hA := lvlA_eq hlt
      have f1 := HR.out k
      have q3 := HO.out.row.cell (i := k) (by rw [lvlL_length]; exact hlt)
      generalize (lvlL l k)[k]'(by rw [lvlL_length]; exact hlt) = z at q3
      have hne : b < w.heap.size ∨ w.heap.size ≤ b := Nat.lt_or_ge _ _
      have hbw : b < w.heap.size := by
        obtain ⟨b', off', cap'', q', c', hp', _, _, _, lb'⟩ := HV.out.at hlt
        cases hp'; exact lb'
      have HD : Hid (dep (l.take (k + 1)) = dep (l.take k) + dlt l[k]) := Lib.hid hs
      have HA := Lib.hid hA
      clear hp hs hA hne
      by_cases c1 : l[k].c = 91
      · have t1 : ((l[k].c.toNat : Int) == 91) = true := by rw [c1]; rfl
        have t2 : ((l[k].c.toNat : Int) == 93) = false := by rw [c1]; rfl
        have HX : Hid (dep (l.take (k + 1)) = dep (l.take k) + 1) := Lib.hid (by rw [HD.out]; unfold dlt; rw [if_pos c1])
        have T1 := Lib.hid (lvAt_step HO.out hlt (by rw [HX.out]; omega) (dep (l.take k) + 1) (by rw [HA.out, HX.out, if_neg (by rw [c1]; decide)]; omega))
        clear c1
        generalize l[k].c.toNat = cn at e1 t1 t2
        obtain ⟨d, hd⟩ : ∃ d, dep (l.take k) = d := ⟨_, rfl⟩
        rw [hd] at HX n2 T1 ⊢
        clear hd
        go_wp2_with fail
        go_roundw
        case rel => exact ⟨k + 1, rfl, by go_num, by rw [HX.out], T1.out⟩
        case measure => simp [intOf]; omega
      · by_cases c2 : l[k].c = 93
        · have t1 : ((l[k].c.toNat : Int) == 91) = false := by rw [c2]; rfl
          have t2 : ((l[k].c.toNat : Int) == 93) = true := by rw [c2]; rfl
          have HX : Hid (dep (l.take (k + 1)) = dep (l.take k) - 1) := Lib.hid (by rw [HD.out]; unfold dlt; rw [if_neg c1, if_pos c2]; omega)
          have T1 := Lib.hid (fun h => lvAt_step HO.out hlt h (dep (l.take k)) (by rw [HA.out, HX.out, if_pos c2]; omega))
          clear c1 c2
          generalize l[k].c.toNat = cn at e1 t1 t2
          obtain ⟨d, hd⟩ : ∃ d, dep (l.take k) = d := ⟨_, rfl⟩
          rw [hd] at HX n2 T1 ⊢
          clear hd
          by_cases hneg : d - 1 < 0
          · have HF : Hid (okB l l.length = false) := Lib.hid (by
              cases h : okB l l.length
              · rfl
              · have := okB_iff.1 h k hlt
                rw [HX.out] at this; omega)
            go_wp2_with fail
            go_ret2
            exact ⟨HO.out.below.setCell (Nat.le_refl _) _, .inl ⟨HF.out, rfl⟩⟩
          · have T2 := Lib.hid (T1.out (by rw [HX.out]; omega))
            go_wp2_with fail
            go_roundw
            case rel => exact ⟨k + 1, rfl, by go_num, by rw [HX.out], T2.out⟩
            case measure => simp [intOf]; omega
        · have t1 : ((l[k].c.toNat : Int) == 91) = false := by
            rw [show (91 : Int) = ((91 : UInt8).toNat : Int) from rfl, u8_eq]; exact beq_eq_false_iff_ne.2 c1
          have t2 : ((l[k].c.toNat : Int) == 93) = false := by
            rw [show (93 : Int) = ((93 : UInt8).toNat : Int) from rfl, u8_eq]; exact beq_eq_false_iff_ne.2 c2
          have HX : Hid (dep (l.take (k + 1)) = dep (l.take k)) := Lib.hid (by rw [HD.out]; unfold dlt; rw [if_neg c1, if_neg c2]; omega)
          have T1 := Lib.hid (lvAt_step HO.out hlt (by rw [HX.out]; omega) (dep (l.take k)) (by rw [HA.out, HX.out, if_neg c2]; omega))
          clear c1 c2
          generalize l[k].c.toNat = cn at e1 t1 t2
          obtain ⟨d, hd⟩ : ∃ d, dep (l.take k) = d := ⟨_, rfl⟩
          rw [hd] at HX n2 T1 ⊢
          clear hd
          have hneg2 : 0 ≤ d := n2.1
          go_wp2_with fail
          go_roundw
          case rel => exact ⟨k + 1, rfl, by go_num, by rw [HX.out], T1.out⟩
          case measure => simp [intOf]; omega
    · obtain rfl : k = l.length := by omega
      have HI := Lib.hid HO.out.row
      rw [List.take_length] at n2 ⊢
      obtain ⟨d, hd⟩ : ∃ d, dep l = d := ⟨_, rfl⟩
      have HE : Hid (∀ b, b = decide (d = 0) → LvEnd l w (.returned (.tuple #[.slice (some ⟨w.heap.size, 0, none⟩) l.length l.length, .bool b])) wr) := Lib.hid (fun b hb => ⟨HO.out.below, .inr ⟨HO.out.ok, _, by rw [hb, ← hd], HI.out⟩⟩)
      rw [hd] at n2 ⊢
      clear hd
      by_cases h0 : d = 0
      · subst h0
        go_wp2_with fail
        go_ret2
        exact HE.out _ rfl
      · have t0 : (d == 0) = false := by simpa using h0
        have HE2 := Lib.hid (HE.out false (by simp [h0]))
        clear h0
        go_wp2_with fail
        go_ret2
        exact HE2.out
theorem bad_one {l : List Md} {k : Nat} (hk : k < l.length) (h : fineB l[k] = false) : l.all fineB = false := by
  rw [List.all_eq_false]; exact ⟨l[k], List.getElem_mem hk, by simp [h]⟩
set_option maxRecDepth 100000 in
set_option maxHeartbeats 1600000 in
theorem pcheck_any (v : Value) (l : List Md) (hmax : l.length ≤ 9223372036854775807) (hargs : ∀ m ∈ l, m.a.length ≤ 9223372036854775807) (w : World) (hv : Mods w v l) :
    Calls Tryd.prog 48 #[v] w fun e w' => e = .returned (.int .i64 (chk l)) ∧ Below w.heap.size w w' := by
  obtain ⟨p, cap, rfl⟩ := hv.slice
  have HV := Lib.hid hv
  have HA := Lib.hid hargs
  clear hv hargs
  by_cases hlen : 2000 < l.length
  · have HC := Lib.hid (chk_many hlen)
    have c1 : (2000 : Int) < (l.length : Int) := by omega
    go_enter Tryd.func48, Tryd.ntmps48
    go_wp2_with fail
    go_ret
    exact ⟨ret_int HC.out.symm, Below.refl _ _⟩
  · have c1 : ¬ (2000 : Int) < (l.length : Int) := by omega
    go_enter Tryd.func48, Tryd.ntmps48
    go_wp2_with fail
    go_loopw [11] (fun i wr => ∃ k : Nat, k ≤ l.length ∧ i = .int .i64 k ∧ Below w.heap.size w wr ∧ ∀ j, (h : j < l.length) → j < k → fineB l[j] = true) (fun i _ => l.length - (intOf i).toNat)
    case atStart => exact ⟨0, Nat.zero_le _, rfl, Below.refl _ _, fun j _ h => by omega⟩
    case round =>
      obtain ⟨k, hk, rfl, hb, hok⟩ := hrel
      have HK := Lib.hid hok
      have HB := Lib.hid hb
      clear hok hb
      by_cases hlt : k < l.length
      · obtain ⟨b, off, cap', q, c, hp, e1, e2, hin, lb⟩ := (HV.out.later (HB.out.mono (Nat.le_refl _))).at hlt
        obtain rfl : p = some ⟨b, off, none⟩ := by cases hp; rfl
        have HF := Lib.hid (valid_any l[k] _ (HA.out _ (List.getElem_mem hlt)) wr hin)
        obtain ⟨t, ht⟩ : ∃ t, fineB l[k] = t := ⟨_, rfl⟩
        have HT := Lib.hid ht
        rw [ht] at HF
        clear hp hin ht
        generalize l[k].c.toNat = cn at e1 HF
        generalize l[k].a.length = an at e2 HF
        cases t with
        | false =>
          have HC := Lib.hid (chk_bad hlen (bad_one hlt HT.out))
          go_wp2_with fail
          refine HF.out.mono ?_
          rintro e w1 ⟨rfl, hb⟩
          have HB1 := Lib.hid (HB.out.trans (hb.mono HB.out.size))
          clear hb
          go_wp2_with fail
          go_ret
          exact ⟨ret_int HC.out.symm, HB1.out⟩
        | true =>
          have HG : Hid (∀ j, (h : j < l.length) → j < k + 1 → fineB l[j] = true) := Lib.hid (fun j h hj => by
            rcases Nat.lt_or_eq_of_le (Nat.le_of_lt_succ hj) with h1 | h1
            · exact HK.out j h h1
            · subst h1; exact HT.out)
          go_wp2_with fail
          refine HF.out.mono ?_
          rintro e w1 ⟨rfl, hb⟩
          have HB1 := Lib.hid (HB.out.trans (hb.mono HB.out.size))
          clear hb
          go_wp2_with fail
          go_roundw
          case rel => exact ⟨k + 1, by omega, by go_num, HB1.out, HG.out⟩
          case measure => simp [intOf]; omega
      · obtain rfl : k = l.length := by omega
        have HGd := Lib.hid (good_all fun j h => HK.out j h h)
        have HO := Lib.hid (levels_any _ l (by omega) wr (HV.out.later (HB.out.mono (Nat.le_refl _))))
        go_wp2_with fail
        refine HO.out.mono ?_
        rintro e w1 ⟨hb, ⟨hno, rfl⟩ | ⟨hyes, g, rfl, hi⟩⟩
        · have HB1 := Lib.hid (HB.out.trans (hb.mono HB.out.size))
          have HC := Lib.hid (chk_open hlen HGd.out (by rw [hno]; rfl))
          clear hb hno
          go_wp2_with fail
          go_ret
          exact ⟨ret_int HC.out.symm, HB1.out⟩
        · have HB1 := Lib.hid (HB.out.trans (hb.mono HB.out.size))
          have HY := Lib.hid hyes
          obtain ⟨t, ht⟩ : ∃ t, decide (dep l = 0) = t := ⟨_, rfl⟩
          have HT := Lib.hid ht
          rw [ht]
          clear hb hyes hi ht
          cases t with
          | true =>
            have HC : Hid (chk l = 0) := Lib.hid (chk_zero.2 ⟨by omega, HGd.out, HY.out, of_decide_eq_true HT.out⟩)
            go_wp2_with fail
            go_ret
            exact ⟨ret_int HC.out.symm, HB1.out⟩
          | false =>
            have HC := Lib.hid (chk_open hlen HGd.out (by rw [HT.out]; simp))
            go_wp2_with fail
            go_ret
            exact ⟨ret_int HC.out.symm, HB1.out⟩
/-- levels of a valid word. -/
theorem levels_valid (v : Value) (l : List Md) (hc : chk l = 0) (w : World) (hv : Mods w v l) :
    Calls Tryd.prog 76 #[v] w fun e w' => ∃ g, e = .returned (.tuple #[.slice (some ⟨g, 0, none⟩) l.length l.length, .bool true]) ∧ Below w.heap.size w w' ∧ RowI w' g (lvlL l l.length) := by
  have hh := chk_zero.1 hc
  refine (levels_any v l (by omega) w hv).mono ?_
  rintro e w' ⟨hb, ⟨hno, _⟩ | ⟨_, g, rfl, hi⟩⟩
  · rw [hh.2.2.1] at hno; exact absurd hno (by simp)
  · exact ⟨g, by rw [decide_eq_true hh.2.2.2], hb, hi⟩
end Go.Proofs.YtepoaobjcpgilaaDoor
namespace Go.Proofs.YtepoaobjcpgilaaDoor
open Go.RowKit
open WM
set_option linter.unusedVariables false
set_option linter.unusedSimpArgs false

theorem run_copy_many {P : Program} (w : World) (dT sT ty elem : TypeId) (sz g n c1 c2 : Nat) (a : Addr) (cur : Array Value) (t : TypeId) (cs : List Value)
    (hu : P.underlying dT = some (.slice elem)) (hs : (P.info? elem).map (·.size) = some sz)
    (hg : w.heap[g]? = some (.cells cur t (0, 0))) (hn : cs.length = n * sz)
    (hsrc : ∀ j v, cs[j]? = some v → w.cell? (a.add j) = some v) (hfit : cs.length ≤ cur.size) (h1 : ∀ v ∈ cs, v.oneCell' = true) :
    (Builtin.copy_ #[dT, sT] ty #[.slice (some ⟨g, 0, none⟩) n c1, .slice (some a) n c2]).run P w =
      .ok (goInt n) (w.setRow g (cs ++ cur.toList.drop cs.length).toArray) := by
  have hl := run_loadCells_list (P := P) w a cs hsrc
  have hst := run_storeCells_at P g 0 t cs 0 cur w hg (by simpa using hfit) h1
  rw [hn] at hl
  cases hq : P.info? elem with
  | none => simp [hq] at hs
  | some i =>
    have hi : i.size = sz := by simpa [hq] using hs
    simp [Builtin.copy_, run_underlying hu, Builtin.lenOf, Builtin.firstCells, sizeOf, typeInfo, hq, hi, hl, hst]
theorem copy_run {P : Program} (w0 : World) (T0 : Array Value) (tt : TypeId) (dT ty elem : TypeId) (sz n c2 : Nat) (a : Addr) (cs : List Value)
    (hu : P.underlying dT = some (.slice elem)) (hs : (P.info? elem).map (·.size) = some sz) (hn : cs.length = n * sz)
    (hsrc : ∀ j v, cs[j]? = some v → (w0.alloc (.cells T0 tt)).cell? (a.add j) = some v) (hfit : T0.size = n * sz) (h1 : ∀ v ∈ cs, v.oneCell' = true) :
    ∃ W, (Builtin.copy_ #[dT, dT] ty #[.slice (some ⟨w0.heap.size, 0, none⟩) n n, .slice (some a) n c2]).run P (w0.alloc (.cells T0 tt)) = .ok (.int .i64 (n : Int)) W ∧ W.heap[w0.heap.size]? = some (.cells cs.toArray tt (0, 0)) ∧ Below w0.heap.size w0 W := by
  have hg := heap_alloc_new w0 (.cells T0 tt)
  have hrun := run_copy_many (P := P) (w0.alloc (.cells T0 tt)) dT dT ty elem sz w0.heap.size n n c2 a T0 tt cs hu hs hg hn hsrc (by omega) h1
  have e : T0.toList.drop cs.length = [] := List.drop_eq_nil_of_le (by rw [Array.length_toList]; omega)
  rw [e, List.append_nil] at hrun
  exact ⟨_, hrun, setRow_heap _ _ _ _ tt _ hg, below_setRow ((Below.refl _ _).alloc (Nat.le_refl _) _) (Nat.le_refl _) _⟩
theorem valsL_length (l : List Int) : (valsL l).length = l.length := by simp [valsL]
/-- A row that has been filled is owned. -/
theorem filled_own {w w' : World} {g n size : Nat} {cs : List Value} {e : TypeId} {base : Nat} (h : w'.heap[g]? = some (.cells cs.toArray e (0, 0))) (hb : base ≤ g) (hn : cs.length = n * size) (hm : n ≤ maxLen) :
    w'.ownsRow base e size (.slice (some ⟨g, 0, none⟩) n n) n cs :=
  ⟨hn, .inr ⟨g, n, cs.toArray, rfl, hb, h, Nat.le_refl _, hm, by simpa using hn, by rw [List.toList_toArray, ← hn, List.take_length]⟩⟩
theorem nili_no (ad : Addr) (n c : Nat) (w : World) : (binOp .eql 23 (.slice (some ad) n c) (.slice none 0 0)).run Tryd.prog w = .ok (.bool false) w := run_eql_slice_nil w _ _ (some ad) n c Tryd.underlying23
theorem nili_yes (w : World) : (binOp .eql 23 (.slice none 0 0) (.slice none 0 0)).run Tryd.prog w = .ok (.bool true) w := run_eql_slice_nil w _ _ none 0 0 Tryd.underlying23
theorem nilm_no (ad : Addr) (n c : Nat) (w : World) : (binOp .eql 41 (.slice (some ad) n c) (.slice none 0 0)).run Tryd.prog w = .ok (.bool false) w := run_eql_slice_nil w _ _ (some ad) n c Tryd.underlying41
theorem nilm_yes (w : World) : (binOp .eql 41 (.slice none 0 0) (.slice none 0 0)).run Tryd.prog w = .ok (.bool true) w := run_eql_slice_nil w _ _ none 0 0 Tryd.underlying41
set_option maxRecDepth 100000 in
set_option maxHeartbeats 800000 in
theorem copiedi_any (v : Value) (a : List Int) (hmax : a.length ≤ 1000000) (w : World) (hv : Ints w v a) (hnil : NilOr v) :
    Calls Tryd.prog 78 #[v] w fun e w' => ∃ v', e = .returned v' ∧ Below w.heap.size w w' ∧ w'.ownsRow w.heap.size 3 1 v' a.length (valsL a) := by
  rcases hnil with rfl | ⟨ad, n, c, rfl⟩
  · obtain ⟨p, cap, hp⟩ := hv.slice
    simp only [Value.slice.injEq] at hp
    have ha : a = [] := List.length_eq_zero_iff.1 hp.2.1.symm
    subst ha
    clear hp hv
    have hny := nili_yes
    go_enter Tryd.func78, Tryd.ntmps78
    go_wp2_with fail
    go_ret
    exact ⟨_, rfl, Below.refl _ _, World.ownsRow_nil _ _ _ _⟩
  · obtain ⟨p, cap, hp⟩ := hv.slice
    simp only [Value.slice.injEq] at hp
    obtain ⟨hpa, hn, hcc⟩ := hp
    clear hpa hcc
    subst hn
    have HC := Lib.hid (ints_cells hv)
    have hmk : ∀ w : World, (Instr.makeSlice 23 (.int .i64 (a.length : Int)) (.int .i64 (a.length : Int))).run Tryd.prog w = .ok (.slice (some ⟨w.heap.size, 0, none⟩) a.length a.length) (w.alloc (.cells (zeros a.length) 3)) := fun w => by
      have := run_make (P := Tryd.prog) w 23 3 Tryd.t3 (.int .i64 0) Tryd.underlying23 (by kernel_rfl) (by kernel_rfl) .i64 .i64 a.length a.length (by omega) (Int.le_refl _) (by show ((8 : Nat) : Int) * (a.length : Int) ≤ _; omega) (by omega)
      rw [this]; simp only [zeros, Value.cells, Int.toNat_natCast, show (Tryd.t3).size = 1 from rfl, Nat.mul_one]
    have HL := Lib.hid (valsL_length a)
    have HE : Hid (∀ w' : World, w'.heap[w.heap.size]? = some (.cells (valsL a).toArray 3 (0, 0)) → w'.ownsRow w.heap.size 3 1 (.slice (some ⟨w.heap.size, 0, none⟩) a.length a.length) a.length (valsL a)) := Lib.hid (fun w' h => filled_own (w := w) h (Nat.le_refl _) (by rw [valsL_length]; omega) (by rw [show maxLen = 9223372036854775807 from rfl]; omega))
    have HZ := Lib.hid (zeros_size a.length)
    obtain ⟨cs, hcs⟩ : ∃ cs, valsL a = cs := ⟨_, rfl⟩
    have HO : Hid (∀ u ∈ cs, u.oneCell' = true) := Lib.hid (by rw [← hcs]; exact vals_one a)
    rw [hcs] at HC HL HE ⊢
    clear hv hcs
    have hnn := nili_no ad
    generalize a.length = n at *
    obtain ⟨W1, hrun, hw1, hb1⟩ := copy_run (P := Tryd.prog) w (zeros n) 3 23 3 3 1 n c ad cs Tryd.underlying23 (by kernel_rfl) (by rw [HL.out, Nat.mul_one]) (HC.out _ ((Below.refl _ _).alloc (Nat.le_refl _) _)) (by rw [HZ.out, Nat.mul_one]) HO.out
    have HW := Lib.hid hb1
    have HW1 := Lib.hid (HE.out _ hw1)
    clear hb1 hw1
    go_enter Tryd.func78, Tryd.ntmps78
    go_wp2_with fail
    go_ret
    exact ⟨_, rfl, HW.out, HW1.out⟩
/-- A list's modules lie somewhere: their cells. -/
theorem mods_vals {w : World} {ad : Addr} {n c : Nat} {l : List Md} (h : Mods w (.slice (some ad) n c) l) :
    ∃ vs, vs.length = l.length ∧ (∀ W, Below w.heap.size w W → ∀ j u, (modC l vs)[j]? = some u → W.cell? (ad.add j) = some u) ∧ (∀ k, (h : k < l.length) → (h2 : k < vs.length) → Ints w vs[k] l[k].a ∧ NilOr vs[k]) ∧ ∀ u ∈ modC l vs, u.oneCell' = true := by
  cases h with
  | none p cap => exact ⟨[], rfl, fun W _ j u hu => by simp [modC] at hu, fun k h => by simp at h, fun u hu => by simp [modC] at hu⟩
  | some b off cap _ hpos hlt hx =>
    have hch : ∀ i : Fin l.length, ∃ v, w.cell? ⟨b, off + i.1 * 2 + 1, none⟩ = some v ∧ Ints w v l[i.1].a ∧ NilOr v := fun i => (hx i.1 i.2).2
    obtain ⟨f, hf⟩ : ∃ f : Fin l.length → Value, ∀ i, w.cell? ⟨b, off + i.1 * 2 + 1, none⟩ = some (f i) ∧ Ints w (f i) l[i.1].a ∧ NilOr (f i) := ⟨fun i => Classical.choose (hch i), fun i => Classical.choose_spec (hch i)⟩
    have hlen : (List.ofFn f).length = l.length := List.length_ofFn
    refine ⟨List.ofFn f, hlen, ?_, ?_, ?_⟩
    · intro W hb j u hu
      have hj : j < l.length * 2 := by
        have := (List.getElem?_eq_some_iff.1 hu).1
        rwa [modC_length _ _ hlen.symm] at this
      have hk : j / 2 < l.length := by omega
      have g := modC_get l (List.ofFn f) (j / 2) hk (by rw [hlen]; exact hk)
      rw [show (⟨b, off, none⟩ : Addr).add j = ⟨b, off + j, none⟩ by simp [Addr.add], hb.cell (p := ⟨b, off + j, none⟩) hlt]
      rcases Nat.mod_two_eq_zero_or_one j with h0 | h0
      · have e : j = j / 2 * 2 := by omega
        have h1 := (hx (j / 2) hk).1
        rw [← e] at g h1
        rw [g.1] at hu
        rw [h1]; exact hu
      · have e : j = j / 2 * 2 + 1 := by omega
        have h1 := (hf ⟨j / 2, hk⟩).1
        simp only [Nat.add_assoc] at h1
        rw [← e] at g h1
        rw [g.2] at hu
        rw [h1, ← hu]; simp
    · intro k h1 h2
      have := (hf ⟨k, h1⟩).2
      simpa using this
    · intro u hu
      obtain ⟨j, hj, rfl⟩ := List.mem_iff_getElem.1 hu
      rw [modC_length _ _ hlen.symm] at hj
      have hk : j / 2 < l.length := by omega
      have g := modC_get l (List.ofFn f) (j / 2) hk (by rw [hlen]; exact hk)
      rcases Nat.mod_two_eq_zero_or_one j with h0 | h0
      · have e : j = j / 2 * 2 := by omega
        rw [← e] at g
        have := g.1
        rw [List.getElem?_eq_getElem (by rw [modC_length _ _ hlen.symm]; exact hj)] at this
        rw [Option.some.inj this]; rfl
      · have e : j = j / 2 * 2 + 1 := by omega
        rw [← e] at g
        have := g.2
        rw [List.getElem?_eq_getElem (by rw [modC_length _ _ hlen.symm]; exact hj)] at this
        rw [Option.some.inj this]
        obtain ⟨p, c, hp⟩ := (hf ⟨j / 2, hk⟩).2.1.slice
        simp [hp]; rfl
theorem made_mods (n : Nat) (hn : n ≤ 50000) (w : World) : (Instr.makeSlice 41 (.int .i64 (n : Int)) (.int .i64 (n : Int))).run Tryd.prog w = .ok (.slice (some ⟨w.heap.size, 0, none⟩) n n) (w.alloc (.cells (madeCells #[.int .u8 0, .slice none 0 0] (n * 2)) 25)) := by
  have := run_make (P := Tryd.prog) w 41 25 Tryd.t25 (.agg #[.int .u8 0, .slice none 0 0]) Tryd.underlying41 (by kernel_rfl) (by kernel_rfl) .i64 .i64 n n (by omega) (Int.le_refl _) (by show ((32 : Nat) : Int) * (n : Int) ≤ _; omega) (by omega)
  rw [this]; simp only [Value.cells, Int.toNat_natCast, show (Tryd.t25).size = 2 from rfl]
/-- How a list of modules is copied: its row, not its args. -/
def CpEnd (l : List Md) (w : World) (e : Ending) (w' : World) : Prop :=
  ∃ v' vs, e = .returned v' ∧ Below w.heap.size w w' ∧ vs.length = l.length ∧ w'.ownsRow w.heap.size 25 2 v' l.length (modC l vs) ∧ (∀ k, (h : k < l.length) → (h2 : k < vs.length) → Ints w vs[k] l[k].a ∧ NilOr vs[k])
set_option maxRecDepth 100000 in
set_option maxHeartbeats 800000 in
theorem copiedm_any (v : Value) (l : List Md) (hmax : l.length ≤ 50000) (w : World) (hv : Mods w v l) (hnil : NilOr v) :
    Calls Tryd.prog 77 #[v] w (CpEnd l w) := by
  rcases hnil with rfl | ⟨ad, n, c, rfl⟩
  · obtain ⟨p, cap, hp⟩ := hv.slice
    simp only [Value.slice.injEq] at hp
    have ha : l = [] := List.length_eq_zero_iff.1 hp.2.1.symm
    subst ha
    clear hp hv
    have hny := nilm_yes
    go_enter Tryd.func77, Tryd.ntmps77
    go_wp2_with fail
    go_ret
    exact ⟨_, [], rfl, Below.refl _ _, rfl, World.ownsRow_nil _ _ _ _, fun k h => by simp at h⟩
  · obtain ⟨p, cap, hp⟩ := hv.slice
    simp only [Value.slice.injEq] at hp
    obtain ⟨hpa, hn, hcc⟩ := hp
    clear hpa hcc
    subst hn
    obtain ⟨vs, hvl, hC, hI, hO⟩ := mods_vals hv
    have HC := Lib.hid hC
    have hmk := fun w => made_mods l.length hmax w
    have HL : Hid ((modC l vs).length = l.length * 2) := Lib.hid (modC_length _ _ hvl.symm)
    have HE : Hid (∀ w' : World, Below w.heap.size w w' → w'.heap[w.heap.size]? = some (.cells (modC l vs).toArray 25 (0, 0)) → CpEnd l w (.returned (.slice (some ⟨w.heap.size, 0, none⟩) l.length l.length)) w') := Lib.hid (fun w' hb h => ⟨_, vs, rfl, hb, hvl, filled_own (w := w) h (Nat.le_refl _) (modC_length _ _ hvl.symm) (by rw [show maxLen = 9223372036854775807 from rfl]; omega), hI⟩)
    have HZ : Hid ((madeCells #[.int .u8 0, .slice none 0 0] (l.length * 2)).size = l.length * 2) := Lib.hid (size_madeCells _ _)
    have HO := Lib.hid hO
    obtain ⟨cs, hcs⟩ : ∃ cs, modC l vs = cs := ⟨_, rfl⟩
    rw [hcs] at HC HL HE HO
    clear hv hcs hvl hC hI hO
    have hnn := nilm_no ad
    generalize l.length = n at *
    obtain ⟨W1, hrun, hw1, hb1⟩ := copy_run (P := Tryd.prog) w (madeCells #[.int .u8 0, .slice none 0 0] (n * 2)) 25 41 3 25 2 n c ad cs Tryd.underlying41 (by kernel_rfl) HL.out (HC.out _ ((Below.refl _ _).alloc (Nat.le_refl _) _)) HZ.out HO.out
    have HW := Lib.hid (HE.out _ hb1 hw1)
    clear hb1 hw1
    go_enter Tryd.func77, Tryd.ntmps77
    go_wp2_with fail
    go_ret
    exact HW.out
end Go.Proofs.YtepoaobjcpgilaaDoor
namespace Go.Proofs.YtepoaobjcpgilaaDoor
open Go.RowKit
open WM
set_option linter.unusedVariables false
set_option linter.unusedSimpArgs false

/-- Where Twin stands. -/
structure TpAt (w : World) (l : List Md) (v : Value) (k : Nat) (vs : List Value) (wr : World) : Prop where
  hi : k ≤ l.length
  below : Below w.heap.size w wr
  len : vs.length = l.length
  row : wr.ownsRow w.heap.size 25 2 v l.length (modC l vs)
  new : ∀ j, (h : j < l.length) → (h2 : j < vs.length) → j < k → ArgFr wr w.heap.size v.ownBlock vs[j] l[j].a
  old : ∀ j, (h : j < l.length) → (h2 : j < vs.length) → k ≤ j → Ints w vs[j] l[j].a ∧ NilOr vs[j]
theorem TpAt.fin {w wr : World} {l : List Md} {v : Value} {vs : List Value} (h : TpAt w l v l.length vs wr) : ModFr wr w.heap.size v l vs := ⟨h.len, h.row, fun k hk hk2 => h.new k hk hk2 hk⟩
theorem tpAt_step {w wr w2 : World} {l : List Md} {g cap : Nat} {k : Nat} {vs : List Value} {v' : Value} (h : TpAt w l (.slice (some ⟨g, 0, none⟩) l.length cap) k vs wr) (hk : k < l.length)
    (hb : Below wr.heap.size wr w2) (ho : w2.ownsRow wr.heap.size 3 1 v' l[k].a.length (valsL l[k].a)) :
    TpAt w l (.slice (some ⟨g, 0, none⟩) l.length cap) (k + 1) (vs.set k v') (w2.setCell ⟨g, k * 2 + 1, none⟩ v') := by
  have hg : w.heap.size ≤ g ∧ g < wr.heap.size := owns_lt h.row g rfl
  have g12 := grown_of_below hb none
  have r2 := h.row.kept g12 (.inr (by simp [Value.ownBlock]))
  obtain ⟨r3, g23⟩ := r2.stored (k * 2 + 1) v'
  rw [modC_set l vs k v' h.len.symm] at r3
  have hlt := owns_lt ho
  have hk2 : k < vs.length := by rw [h.len]; exact hk
  have nk : v' = .slice none 0 0 ∨ v'.ownBlock ≠ some g := by
    rcases nilOr_of_owned ho with e | ⟨ad, n, c, e⟩
    · exact .inl e
    · right; intro e2
      have := (hlt g e2).1; omega
  have nk2 : ∀ {v : Value} {rb : Option Nat}, v = .slice none 0 0 ∨ v.ownBlock ≠ rb → v.ownBlock = none ∨ v.ownBlock ≠ rb := by
    rintro v rb (e | e)
    · left; rw [e]; rfl
    · exact .inr e
  have none_or : ∀ v : Value, v.ownBlock = none ∨ v.ownBlock ≠ none := fun v => by
    cases hv : v.ownBlock with
    | none => exact .inl rfl
    | some g => exact .inr (by simp)
  refine ⟨hk, (h.below.trans (hb.mono h.below.size)).setCell hg.1 _, by rw [List.length_set]; exact h.len, r3, ?_, ?_⟩
  · intro j hj hj2 hjk
    rw [List.length_set] at hj2
    by_cases e : k = j
    · subst e
      rw [List.getElem_set_self]
      exact ⟨(owns_mono ho h.below.size).kept g23 (nk2 nk), nk⟩
    · rw [List.getElem_set_ne e]
      have A := h.new j hj hj2 (by omega)
      exact (A.kept g12 (none_or _) A.apart).kept g23 (nk2 A.apart) A.apart
  · intro j hj hj2 hjk
    rw [List.length_set] at hj2
    rw [List.getElem_set_ne (by omega)]
    exact h.old j hj hj2 (by omega)
/-- How Twin ends. -/
def TwEnd (l : List Md) (w : World) (e : Ending) (w' : World) : Prop := ∃ v' vs, e = .returned v' ∧ Below w.heap.size w w' ∧ ModFr w' w.heap.size v' l vs
set_option maxRecDepth 100000 in
set_option maxHeartbeats 1600000 in
theorem ptwin_any (v : Value) (l : List Md) (hmax : l.length ≤ 50000) (hargs : ∀ m ∈ l, m.a.length ≤ 1000000) (w : World) (hv : Mods w v l) (hnil : NilOr v) :
    Calls Tryd.prog 49 #[v] w (TwEnd l w) := by
  have HK := Lib.hid (copiedm_any v l hmax w hv hnil)
  have HA := Lib.hid hargs
  clear hv hnil hargs
  go_enter Tryd.func49, Tryd.ntmps49
  go_wp2_with fail
  refine HK.out.mono ?_
  rintro e w1 ⟨v1, vs, rfl, hb, hl, ho, hi⟩
  have S0 : TpAt w l v1 0 vs w1 := ⟨Nat.zero_le _, hb, hl, ho, fun j _ _ h => by omega, fun j h h2 _ => hi j h h2⟩
  rcases nilOr_of_owned ho with rfl | ⟨ad, n, c, rfl⟩
  · have h0 : l.length = 0 := by
      rcases ho.2 with ⟨_, h⟩ | ⟨g, cap, cur, h, _⟩
      · exact h
      · simp at h
    have HE : Hid (ModFr w1 w.heap.size (.slice none 0 0) l vs) := Lib.hid (TpAt.fin (by rw [h0]; exact S0))
    have HB := Lib.hid hb
    clear hb hl ho hi S0 h0 HK
    go_wp2_with fail
    go_loop [9] (fun i => i = .int .i64 0) (fun _ => 0)
    case atStart => rfl
    case round =>
      subst hrel
      go_wp2_with fail
      go_ret
      exact ⟨_, vs, rfl, HB.out, HE.out⟩
  · obtain ⟨g, cap, hg⟩ : ∃ g cap, Value.slice (some ad) n c = .slice (some ⟨g, 0, none⟩) l.length cap := by
      rcases ho.2 with ⟨h, _⟩ | ⟨g, cap, cur, h, _⟩
      · simp at h
      · exact ⟨g, cap, h⟩
    rw [hg] at S0 ⊢
    have HS0 := Lib.hid S0
    clear hb hl ho hi S0 hg HK
    go_wp2_with fail
    go_loopw [9] (fun i wr => ∃ (k : Nat) (us : List Value), i = .int .i64 k ∧ TpAt w l (.slice (some ⟨g, 0, none⟩) l.length cap) k us wr) (fun i _ => l.length - (intOf i).toNat)
    case atStart => exact ⟨0, vs, rfl, HS0.out⟩
    case round =>
      obtain ⟨k, us, rfl, hS⟩ := hrel
      have HS := Lib.hid hS
      have n1 := hS.hi
      by_cases hlt : k < l.length
      · have k1 : (k : Int) < (l.length : Int) := by omega
        have hk2 : k < us.length := by rw [hS.len]; exact hlt
        have hgl := owns_lt hS.row g rfl
        have q1 := hS.row.cellAt (k * 2 + 1) (by omega)
        rw [(modC_get l us k hlt hk2).2] at q1
        have hold := hS.old k hlt hk2 (Nat.le_refl _)
        have HKI := Lib.hid (copiedi_any us[k] l[k].a (HA.out _ (List.getElem_mem hlt)) wr (hold.1.later (hS.below.mono (Nat.le_refl _))) hold.2)
        have HF := Lib.hid (fun (w2 : World) (hb : Below wr.heap.size wr w2) => (hS.row.kept (grown_of_below hb none) (.inr (by simp [Value.ownBlock]))))
        have HSt := Lib.hid (fun w2 v' hb ho => tpAt_step (w2 := w2) (v' := v') hS hlt hb ho)
        obtain ⟨p1, c1, hu⟩ := hold.1.slice
        rw [hu] at q1 HKI
        clear hS hold hu
        go_wp2_with fail
        refine HKI.out.mono ?_
        rintro e w2 ⟨v', rfl, hb, ho⟩
        have HT := Lib.hid (HSt.out w2 v' hb ho)
        have f1 := (HF.out w2 hb).frozenAt (k * 2 + 1)
        have q2 := (HF.out w2 hb).cellAt (k * 2 + 1) (by omega)
        rw [(modC_get l us k hlt hk2).2] at q2
        have l2 := Nat.lt_of_lt_of_le hgl.2 hb.size
        obtain ⟨p2, n2, c2, rfl⟩ : ∃ p n c, v' = .slice p n c := by
          rcases nilOr_of_owned ho with h | ⟨ad, n, c, h⟩
          · exact ⟨_, _, _, h⟩
          · exact ⟨_, _, _, h⟩
        generalize us[k] = z at q2
        clear hb ho
        go_wp2_with fail
        go_roundw
        case rel => exact ⟨k + 1, _, by go_num, HT.out⟩
        case measure => simp [intOf]; omega
      · have hk : k = l.length := by omega
        have HE : Hid (ModFr wr w.heap.size (.slice (some ⟨g, 0, none⟩) l.length cap) l us) := Lib.hid (TpAt.fin (by rw [← hk]; exact hk ▸ hS))
        have HB := Lib.hid hS.below
        have k1 : ¬ (k : Int) < (l.length : Int) := by omega
        clear hS
        go_wp2_with fail
        go_ret
        exact ⟨_, us, rfl, HB.out, HE.out⟩
end Go.Proofs.YtepoaobjcpgilaaDoor
