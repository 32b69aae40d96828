/-
  What the reference's Letter, Fine, Great hand back.
-/
import Derived.Test.YtkjjehnfibfngaaWordMem
namespace Go.Proofs.Ytkjjehnfibfngaa
open Go.RowKit
open WM
set_option linter.unusedVariables false
set_option linter.unusedSimpArgs false

def nmS : ByteArray := ⟨#[43, 45, 38, 94, 124, 33, 91, 93]⟩
theorem u8_eq {x y : UInt8} : ((x.toNat : Int) == (y.toNat : Int)) = (x == y) := by
  rw [Bool.eq_iff_iff]; simp only [beq_iff_eq]
  constructor
  · intro h; exact UInt8.toNat_inj.1 (by omega)
  · intro h; rw [h]
theorem nm_none {c : UInt8} (h : ∀ i, (hi : i < nmS.size) → (nmS[i]'hi == c) = false) : (c == 43 || c == 45 || c == 38 || c == 94 || c == 124 || c == 33 || c == 91 || c == 93) = false := by
  have e := fun i hi => beq_eq_false_iff_ne.1 (h i hi)
  have h0 := e 0 (by decide)
  have h1 := e 1 (by decide)
  have h2 := e 2 (by decide)
  have h3 := e 3 (by decide)
  have h4 := e 4 (by decide)
  have h5 := e 5 (by decide)
  have h6 := e 6 (by decide)
  have h7 := e 7 (by decide)
  simp only [Bool.or_eq_false_iff, beq_eq_false_iff_ne]
  exact ⟨⟨⟨⟨⟨⟨⟨Ne.symm h0, Ne.symm h1⟩, Ne.symm h2⟩, Ne.symm h3⟩, Ne.symm h4⟩, Ne.symm h5⟩, Ne.symm h6⟩, Ne.symm h7⟩
theorem nm_some {c : UInt8} {i : Nat} (hi : i < nmS.size) (h : (nmS[i]'hi == c) = true) : letB c = true := by
  have h8 : i < 8 := hi
  have e := beq_iff_eq.1 h
  subst e
  have : ∀ i : Fin 8, letB (nmS[i.1]'(by exact i.2)) = true := by decide +kernel
  exact this ⟨i, h8⟩
set_option maxHeartbeats 400000 in
theorem letter_any (c : UInt8) (w : World) : Calls Try.prog 37 #[.int .u8 c.toNat] w fun e w' => e = .returned (.bool (letB c)) ∧ w = w' := by
  have hc := c.toNat_lt
  obtain ⟨s, hs⟩ : ∃ s : ByteArray, (⟨#[43, 45, 38, 94, 124, 33, 91, 93]⟩ : ByteArray) = s := ⟨_, rfl⟩
  have hss : nmS = s := hs
  have hs8 : s.size = 8 := by rw [← hs]; rfl
  go_enter Try.func37, Try.ntmps37
  go_wp2_with fail
  rw [hs]
  go_loop [4] (fun i => ∃ k : Nat, k ≤ 8 ∧ i = .int .i64 k ∧ ∀ j, (hj : j < s.size) → j < k → (s[j]'hj == c) = false) (fun i => 8 - (intOf i).toNat)
  case atStart => exact ⟨0, Nat.zero_le _, rfl, fun j _ h => by omega⟩
  case round =>
    obtain ⟨k, hk, rfl, hno⟩ := hrel
    have HN := Lib.hid hno
    clear hno
    by_cases hlt : k < 8
    · have hks : k < s.size := by omega
      obtain ⟨b, hb⟩ : ∃ b, s[k]'hks = b := ⟨_, rfl⟩
      cases he : (b == c) with
      | true =>
        have HL : Hid (letB c = true) := Lib.hid (by subst hss; exact nm_some hks (by rw [hb]; exact he))
        have e1 : ((s[k].toNat : Int) == (c.toNat : Int)) = true := by rw [u8_eq, hb]; exact he
        clear he hb
        go_wp2_with fail
        go_ret
        exact ⟨ret_bool HL.out.symm, rfl⟩
      | false =>
        have e1 : ((s[k].toNat : Int) == (c.toNat : Int)) = false := by rw [u8_eq, hb]; exact he
        have HG : Hid (∀ j, (hj : j < s.size) → j < k + 1 → (s[j]'hj == c) = false) := Lib.hid (fun j hj h => by
          rcases Nat.lt_or_eq_of_le (Nat.le_of_lt_succ h) with h1 | h1
          · exact HN.out j hj h1
          · subst h1; rw [hb]; exact he)
        clear he hb
        go_wp2_with fail
        go_round
        case rel => exact ⟨k + 1, by omega, by go_num, HG.out⟩
        case measure => simp [intOf]; omega
    · obtain rfl : k = 8 := by omega
      have hno : (c == 43 || c == 45 || c == 38 || c == 94 || c == 124 || c == 33 || c == 91 || c == 93) = false := by
        subst hss; exact nm_none fun i hi => HN.out i hi (by omega)
      have HL : Hid (letB c = ((decide (65 ≤ c.toNat) && decide (c.toNat ≤ 90)) || (decide (97 ≤ c.toNat) && decide (c.toNat ≤ 122)))) := Lib.hid (by unfold letB; rw [hno]; simp)
      clear hno HN hs hss
      by_cases c1 : (65 : Int) ≤ c.toNat
      · by_cases c2 : (c.toNat : Int) ≤ 90
        · go_wp2_with fail
          go_ret
          exact ⟨ret_bool (by rw [HL.out, Bool.eq_iff_iff]; simp only [Bool.or_eq_true, Bool.and_eq_true, decide_eq_true_eq]; first | omega | (simp; omega)), rfl⟩
        · by_cases c3 : (97 : Int) ≤ c.toNat
          · go_wp2_with fail
            go_ret
            exact ⟨ret_bool (by rw [HL.out, Bool.eq_iff_iff]; simp only [Bool.or_eq_true, Bool.and_eq_true, decide_eq_true_eq]; first | omega | (simp; omega)), rfl⟩
          · go_wp2_with fail
            go_ret
            exact ⟨ret_bool (by rw [HL.out, Bool.eq_iff_iff]; simp only [Bool.or_eq_true, Bool.and_eq_true, decide_eq_true_eq]; first | omega | (simp; omega)), rfl⟩
      · by_cases c3 : (97 : Int) ≤ c.toNat
        · go_wp2_with fail
          go_ret
          exact ⟨ret_bool (by rw [HL.out, Bool.eq_iff_iff]; simp only [Bool.or_eq_true, Bool.and_eq_true, decide_eq_true_eq]; first | omega | (simp; omega)), rfl⟩
        · go_wp2_with fail
          go_ret
          exact ⟨ret_bool (by rw [HL.out, Bool.eq_iff_iff]; simp only [Bool.or_eq_true, Bool.and_eq_true, decide_eq_true_eq]; first | omega | (simp; omega)), rfl⟩

/-- A module as a value. -/
def mdV (c : UInt8) (v : Value) : Value := .agg #[.int .u8 c.toNat, v]
theorem fine_let0 {m : Md} (h : letB m.c = false) : fineB m = false := by simp [fineB, h]
theorem fine_len {m : Md} (h : 4 < m.a.length) : fineB m = false := by
  have : decide (m.a.length ≤ 4) = false := decide_eq_false (by omega)
  simp [fineB, this]
theorem fine_bra {m : Md} (h : braB m.c = true) (h2 : 0 < m.a.length) : fineB m = false := by
  have : decide (0 < m.a.length) = true := decide_eq_true h2
  simp [fineB, h, this]
theorem fine_rng {m : Md} {k : Nat} (hk : k < m.a.length) (h : m.a[k] < -1000000000 ∨ 1000000000 < m.a[k]) : fineB m = false := by
  have : rngB m.a = false := by
    cases hr : rngB m.a
    · rfl
    · have := rngB_iff.1 hr _ (List.getElem_mem hk); omega
  simp [fineB, this]
theorem fine_all {m : Md} (h1 : letB m.c = true) (h2 : m.a.length ≤ 4) (h3 : braB m.c = false ∨ m.a.length = 0) (h4 : ∀ j, (h : j < m.a.length) → -1000000000 ≤ m.a[j] ∧ m.a[j] ≤ 1000000000) : fineB m = true := by
  have e2 : decide (m.a.length ≤ 4) = true := decide_eq_true h2
  have e3 : (braB m.c && decide (0 < m.a.length)) = false := by
    rcases h3 with h | h
    · rw [h]; rfl
    · rw [h]; simp
  have e4 : rngB m.a = true := rngB_iff.2 fun x hx => by
    obtain ⟨j, hj, rfl⟩ := List.mem_iff_getElem.1 hx
    exact h4 j hj
  simp [fineB, h1, e2, e3, e4]
set_option maxHeartbeats 800000 in
theorem fine_any (m : Md) (v : Value) (hm : m.a.length ≤ 9223372036854775807) (w : World) (hv : Ints w v m.a) : Calls Try.prog 24 #[.agg #[.int .u8 m.c.toNat, v]] w fun e w' => e = .returned (.bool (fineB m)) ∧ Below w.heap.size w w' := by
  obtain ⟨p, cap, rfl⟩ := hv.slice
  have HV := Lib.hid hv
  obtain ⟨W0, hW0⟩ : ∃ W, W = w.alloc (.cells #[.int .u8 m.c.toNat, .slice p m.a.length cap] 27) := ⟨_, rfl⟩
  have N0 : W0.heap[w.heap.size]? = some (.cells #[.int .u8 m.c.toNat, .slice p m.a.length cap] 27 (0, 0)) := by rw [hW0]; exact heap_alloc_new _ _
  have B0 : Below w.heap.size w W0 := by rw [hW0]; exact (Below.refl _ _).alloc (Nat.le_refl _) _
  have HB := Lib.hid B0
  have HV0 := Lib.hid (hv.later B0)
  have q0 := cell_two0 N0
  have q1 := cell_two1 N0
  have l1 := lt_of_block N0
  clear N0 B0 hv
  cases hl : letB m.c with
  | false =>
    have HF := Lib.hid (fine_let0 hl)
    have HC : Hid (∀ w, Calls Try.prog 37 #[.int .u8 m.c.toNat] w fun e w' => e = .returned (.bool false) ∧ w = w') := Lib.hid (fun w => by have := letter_any m.c w; rwa [hl] at this)
    clear hl
    go_enter Try.func24, Try.ntmps24
    go_wp2_with fail
    rw [← hW0]
    clear hW0
    go_wp2_with (go_at_call 37; refine (HC.out _).mono ?_; rintro e w2 ⟨rfl, rfl⟩)
    go_ret
    exact ⟨ret_bool HF.out.symm, HB.out⟩
  | true =>
    have HC : Hid (∀ w, Calls Try.prog 37 #[.int .u8 m.c.toNat] w fun e w' => e = .returned (.bool true) ∧ w = w') := Lib.hid (fun w => by have := letter_any m.c w; rwa [hl] at this)
    by_cases h4 : 4 < m.a.length
    · have HF := Lib.hid (fine_len h4)
      have h4' : (4 : Int) < (m.a.length : Int) := by omega
      clear hl
      go_enter Try.func24, Try.ntmps24
      go_wp2_with fail
      rw [← hW0]
      clear hW0
      go_wp2_with (go_at_call 37; refine (HC.out _).mono ?_; rintro e w2 ⟨rfl, rfl⟩)
      go_ret
      exact ⟨ret_bool HF.out.symm, HB.out⟩
    · have h4' : ¬ (4 : Int) < (m.a.length : Int) := by omega
      have HL := Lib.hid hl
      have walk : ∀ (t1 t2 : Bool), ((m.c.toNat : Int) == 91) = t1 → ((m.c.toNat : Int) == 93) = t2 → braB m.c = (t1 || t2) →
          Calls Try.prog 24 #[.agg #[.int .u8 m.c.toNat, .slice p m.a.length cap]] w fun e w' => e = .returned (.bool (fineB m)) ∧ Below w.heap.size w w' := by
        intro t1 t2 e1 e2 hb
        have HBr := Lib.hid hb
        clear hl hb
        by_cases hz : (t1 || t2) = true ∧ 0 < m.a.length
        · have HF := Lib.hid (fine_bra (HBr.out.trans hz.1) hz.2)
          have hz2 : (0 : Int) < (m.a.length : Int) := by omega
          have hz1 := hz.1
          clear hz
          cases t1 with
          | true =>
            go_enter Try.func24, Try.ntmps24
            go_wp2_with fail
            rw [← hW0]
            clear hW0
            go_wp2_with (go_at_call 37; refine (HC.out _).mono ?_; rintro e w2 ⟨rfl, rfl⟩)
            go_ret
            exact ⟨ret_bool HF.out.symm, HB.out⟩
          | false =>
            have hz3 : t2 = true := hz1
            subst hz3
            go_enter Try.func24, Try.ntmps24
            go_wp2_with fail
            rw [← hW0]
            clear hW0
            go_wp2_with (go_at_call 37; refine (HC.out _).mono ?_; rintro e w2 ⟨rfl, rfl⟩)
            go_ret
            exact ⟨ret_bool HF.out.symm, HB.out⟩
        · have hz3 : (t1 = false ∧ t2 = false) ∨ m.a.length = 0 := by
            rcases Nat.eq_zero_or_pos m.a.length with h | h
            · exact .inr h
            · left
              cases t1 <;> cases t2 <;> simp_all
          have HZ : Hid (braB m.c = false ∨ m.a.length = 0) := Lib.hid (by
            rcases hz3 with ⟨rfl, rfl⟩ | h
            · exact .inl HBr.out
            · exact .inr h)
          clear hz
          rcases hz3 with ⟨rfl, rfl⟩ | hl0
          · go_enter Try.func24, Try.ntmps24
            go_wp2_with fail
            rw [← hW0]
            clear hW0
            go_wp2_with (go_at_call 37; refine (HC.out _).mono ?_; rintro e w2 ⟨rfl, rfl⟩)
            go_loop [3] (fun i => ∃ k : Nat, k ≤ m.a.length ∧ i = .int .i64 k ∧ ∀ j, (h : j < m.a.length) → j < k → -1000000000 ≤ m.a[j] ∧ m.a[j] ≤ 1000000000) (fun i => m.a.length - (intOf i).toNat)
            case atStart => exact ⟨0, Nat.zero_le _, rfl, fun j _ h => by omega⟩
            case round =>
              obtain ⟨k, hk, rfl, hok⟩ := hrel
              have HK := Lib.hid hok
              clear hok
              by_cases hlt : k < m.a.length
              · obtain ⟨b, off, cap', hp, e1', lb⟩ := HV0.out.at hlt
                obtain rfl : p = some ⟨b, off, none⟩ := by cases hp; rfl
                obtain ⟨y, hy⟩ : ∃ y, m.a[k] = y := ⟨_, rfl⟩
                have HY : Hid (m.a[k] = y) := Lib.hid hy
                rw [hy] at e1'
                clear hp hy
                have k1 : (k : Int) < (m.a.length : Int) := by omega
                by_cases y1 : y < -1000000000
                · have HF := Lib.hid (fine_rng hlt (.inl (by rw [HY.out]; exact y1)))
                  go_wp2_with fail
                  go_ret
                  exact ⟨ret_bool HF.out.symm, HB.out⟩
                · by_cases y2 : 1000000000 < y
                  · have HF := Lib.hid (fine_rng hlt (.inr (by rw [HY.out]; exact y2)))
                    go_wp2_with fail
                    go_ret
                    exact ⟨ret_bool HF.out.symm, HB.out⟩
                  · have HG : Hid (∀ j, (h : j < m.a.length) → j < k + 1 → -1000000000 ≤ m.a[j] ∧ m.a[j] ≤ 1000000000) := Lib.hid (fun j h hj => by
                      rcases Nat.lt_or_eq_of_le (Nat.le_of_lt_succ hj) with h1 | h1
                      · exact HK.out j h h1
                      · subst h1; rw [HY.out]; omega)
                    go_wp2_with fail
                    go_round
                    case rel => exact ⟨k + 1, by omega, by go_num, HG.out⟩
                    case measure => simp [intOf]; omega
              · obtain rfl : k = m.a.length := by omega
                have HF := Lib.hid (fine_all HL.out (by omega) HZ.out fun j h => HK.out j h h)
                go_wp2_with fail
                go_ret
                exact ⟨ret_bool HF.out.symm, HB.out⟩
          · have hl1 : ¬ (0 : Int) < (m.a.length : Int) := by omega
            clear hl0
            cases t1 with
            | true =>
              go_enter Try.func24, Try.ntmps24
              go_wp2_with fail
              rw [← hW0]
              clear hW0
              go_wp2_with (go_at_call 37; refine (HC.out _).mono ?_; rintro e w2 ⟨rfl, rfl⟩)
              go_loop [3] (fun i => ∃ k : Nat, k ≤ m.a.length ∧ i = .int .i64 k ∧ ∀ j, (h : j < m.a.length) → j < k → -1000000000 ≤ m.a[j] ∧ m.a[j] ≤ 1000000000) (fun i => m.a.length - (intOf i).toNat)
              case atStart => exact ⟨0, Nat.zero_le _, rfl, fun j _ h => by omega⟩
              case round =>
                obtain ⟨k, hk, rfl, hok⟩ := hrel
                have HK := Lib.hid hok
                clear hok
                by_cases hlt : k < m.a.length
                · exfalso; omega
                · obtain rfl : k = m.a.length := by omega
                  have HF := Lib.hid (fine_all HL.out (by omega) HZ.out fun j h => HK.out j h h)
                  go_wp2_with fail
                  go_ret
                  exact ⟨ret_bool HF.out.symm, HB.out⟩
            | false =>
              cases t2 with
              | true =>
                go_enter Try.func24, Try.ntmps24
                go_wp2_with fail
                rw [← hW0]
                clear hW0
                go_wp2_with (go_at_call 37; refine (HC.out _).mono ?_; rintro e w2 ⟨rfl, rfl⟩)
                go_loop [3] (fun i => ∃ k : Nat, k ≤ m.a.length ∧ i = .int .i64 k ∧ ∀ j, (h : j < m.a.length) → j < k → -1000000000 ≤ m.a[j] ∧ m.a[j] ≤ 1000000000) (fun i => m.a.length - (intOf i).toNat)
                case atStart => exact ⟨0, Nat.zero_le _, rfl, fun j _ h => by omega⟩
                case round =>
                  obtain ⟨k, hk, rfl, hok⟩ := hrel
                  have HK := Lib.hid hok
                  clear hok
                  by_cases hlt : k < m.a.length
                  · exfalso; omega
                  · obtain rfl : k = m.a.length := by omega
                    have HF := Lib.hid (fine_all HL.out (by omega) HZ.out fun j h => HK.out j h h)
                    go_wp2_with fail
                    go_ret
                    exact ⟨ret_bool HF.out.symm, HB.out⟩
              | false =>
                go_enter Try.func24, Try.ntmps24
                go_wp2_with fail
                rw [← hW0]
                clear hW0
                go_wp2_with (go_at_call 37; refine (HC.out _).mono ?_; rintro e w2 ⟨rfl, rfl⟩)
                go_loop [3] (fun i => ∃ k : Nat, k ≤ m.a.length ∧ i = .int .i64 k ∧ ∀ j, (h : j < m.a.length) → j < k → -1000000000 ≤ m.a[j] ∧ m.a[j] ≤ 1000000000) (fun i => m.a.length - (intOf i).toNat)
                case atStart => exact ⟨0, Nat.zero_le _, rfl, fun j _ h => by omega⟩
                case round =>
                  obtain ⟨k, hk, rfl, hok⟩ := hrel
                  have HK := Lib.hid hok
                  clear hok
                  by_cases hlt : k < m.a.length
                  · exfalso; omega
                  · obtain rfl : k = m.a.length := by omega
                    have HF := Lib.hid (fine_all HL.out (by omega) HZ.out fun j h => HK.out j h h)
                    go_wp2_with fail
                    go_ret
                    exact ⟨ret_bool HF.out.symm, HB.out⟩
      exact walk _ _ rfl rfl (by
        rw [show (91 : Int) = ((91 : UInt8).toNat : Int) from rfl, show (93 : Int) = ((93 : UInt8).toNat : Int) from rfl, u8_eq, u8_eq]; rfl)

def greatB (l : List Md) : Bool := decide (2100 < l.length) || l.any fun m => decide (10 < m.a.length)
theorem great_no {l : List Md} (h : greatB l = false) : l.length ≤ 2100 ∧ ∀ m ∈ l, m.a.length ≤ 10 := by
  unfold greatB at h
  rw [Bool.or_eq_false_iff, decide_eq_false_iff_not, List.any_eq_false] at h
  refine ⟨by omega, fun m hm => ?_⟩
  have := h.2 m hm
  simpa using this
theorem great_long {l : List Md} (h : 2100 < l.length) : greatB l = true := by simp [greatB, h]
theorem great_args {l : List Md} {k : Nat} (hk : k < l.length) (h : 10 < l[k].a.length) : greatB l = true := by
  unfold greatB
  rw [Bool.or_eq_true]; right
  rw [List.any_eq_true]
  exact ⟨l[k], List.getElem_mem hk, by simpa using h⟩
theorem great_end {l : List Md} (h : l.length ≤ 2100) (h2 : ∀ j, (h : j < l.length) → l[j].a.length ≤ 10) : greatB l = false := by
  unfold greatB
  rw [Bool.or_eq_false_iff, decide_eq_false_iff_not, List.any_eq_false]
  refine ⟨by omega, fun m hm => ?_⟩
  obtain ⟨j, hj, rfl⟩ := List.mem_iff_getElem.1 hm
  have := h2 j hj
  simp; omega
set_option maxHeartbeats 800000 in
theorem great_any (v : Value) (l : List Md) (hmax : l.length ≤ 9223372036854775807) (w : World) (hv : Mods w v l) (hi : ∀ m ∈ l, m.a.length ≤ 9223372036854775807) :
    Calls Try.prog 12 #[v] w fun e w' => e = .returned (.bool (greatB l)) ∧ w = w' := by
  obtain ⟨p, cap, rfl⟩ := hv.slice
  have HV := Lib.hid hv
  have HI := Lib.hid hi
  clear hv hi
  by_cases hlen : 2100 < l.length
  · have HG := Lib.hid (great_long hlen)
    have c1 : (2100 : Int) < (l.length : Int) := by omega
    go_enter Try.func12, Try.ntmps12
    go_wp2_with fail
    go_ret
    exact ⟨ret_bool HG.out.symm, rfl⟩
  · have c1 : ¬ (2100 : Int) < (l.length : Int) := by omega
    go_enter Try.func12, Try.ntmps12
    go_wp2_with fail
    go_loop [3] (fun i => ∃ k : Nat, k ≤ l.length ∧ i = .int .i64 k ∧ ∀ j, (h : j < l.length) → j < k → l[j].a.length ≤ 10) (fun i => l.length - (intOf i).toNat)
    case atStart => exact ⟨0, Nat.zero_le _, rfl, fun j _ h => by omega⟩
    case round =>
      obtain ⟨k, hk, rfl, hok⟩ := hrel
      have HK := Lib.hid hok
      clear hok
      by_cases hlt : k < l.length
      · obtain ⟨b, off, cap', q, c, hp, e1, e2, _, lb⟩ := HV.out.at hlt
        obtain rfl : p = some ⟨b, off, none⟩ := by cases hp; rfl
        have hin := HI.out l[k] (List.getElem_mem hlt)
        by_cases hg : 10 < l[k].a.length
        · have HF := Lib.hid (great_args hlt hg)
          have c2 : (10 : Int) < (l[k].a.length : Int) := by omega
          clear hp e1
          generalize l[k].a.length = n at e2 hg c2 hin
          go_wp2_with fail
          go_ret
          exact ⟨ret_bool HF.out.symm, rfl⟩
        · have HG : Hid (∀ j, (h : j < l.length) → j < k + 1 → l[j].a.length ≤ 10) := Lib.hid (fun j h hj => by
            rcases Nat.lt_or_eq_of_le (Nat.le_of_lt_succ hj) with h1 | h1
            · exact HK.out j h h1
            · subst h1; omega)
          have c2 : ¬ (10 : Int) < (l[k].a.length : Int) := by omega
          clear hp e1
          generalize l[k].a.length = n at e2 hg c2 hin
          go_wp2_with fail
          go_round
          case rel => exact ⟨k + 1, by omega, by go_num, HG.out⟩
          case measure => simp [intOf]; omega
      · obtain rfl : k = l.length := by omega
        have HF := Lib.hid (great_end (by omega) fun j h => HK.out j h h)
        go_wp2_with fail
        go_ret
        exact ⟨ret_bool HF.out.symm, rfl⟩
end Go.Proofs.Ytkjjehnfibfngaa
