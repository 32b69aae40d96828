/-
  Texts of the proof, merged: DWordRefA, DWordOwn, DWordRefB, DWordTwin.
-/
import Derived.Test.YtepoaobjcpgilaaDoorDChanceCellsProofM1
import Derived.Laws.OwnMore
import Derived.Deep.RegionLaw
namespace Go.Proofs.YtepoaobjcpgilaaDoor
open Go.RowKit
open WM
set_option linter.unusedVariables false
set_option linter.unusedSimpArgs false

def nmS : ByteArray := ⟨#[43, 45, 38, 94, 124, 33, 91, 93]⟩
theorem u8_eq {x y : UInt8} : ((x.toNat : Int) == (y.toNat : Int)) = (x == y) := by
  rw [Bool.eq_iff_iff]; simp only [beq_iff_eq]
  constructor
  · intro h; exact UInt8.toNat_inj.1 (by omega)
  · intro h; rw [h]
theorem nm_none {c : UInt8} (h : ∀ i, (hi : i < nmS.size) → (nmS[i]'hi == c) = false) : (c == 43 || c == 45 || c == 38 || c == 94 || c == 124 || c == 33 || c == 91 || c == 93) = false := by
  have e := fun i hi => beq_eq_false_iff_ne.1 (h i hi)
  have h0 := e 0 (by decide)
  have h1 := e 1 (by decide)
  have h2 := e 2 (by decide)
  have h3 := e 3 (by decide)
  have h4 := e 4 (by decide)
  have h5 := e 5 (by decide)
  have h6 := e 6 (by decide)
  have h7 := e 7 (by decide)
  simp only [Bool.or_eq_false_iff, beq_eq_false_iff_ne]
  exact ⟨⟨⟨⟨⟨⟨⟨Ne.symm h0, Ne.symm h1⟩, Ne.symm h2⟩, Ne.symm h3⟩, Ne.symm h4⟩, Ne.symm h5⟩, Ne.symm h6⟩, Ne.symm h7⟩
theorem nm_some {c : UInt8} {i : Nat} (hi : i < nmS.size) (h : (nmS[i]'hi == c) = true) : letB c = true := by
  have h8 : i < 8 := hi
  have e := beq_iff_eq.1 h
  subst e
  have : ∀ i : Fin 8, letB (nmS[i.1]'(by exact i.2)) = true := by decide +kernel
  exact this ⟨i, h8⟩
set_option maxHeartbeats 400000 in
theorem letter_any (c : UInt8) (w : World) : Calls Tryd.prog 69 #[.int .u8 c.toNat] w fun e w' => e = .returned (.bool (letB c)) ∧ w = w' := by
  have hc := c.toNat_lt
  obtain ⟨s, hs⟩ : ∃ s : ByteArray, (⟨#[43, 45, 38, 94, 124, 33, 91, 93]⟩ : ByteArray) = s := ⟨_, rfl⟩
  have hss : nmS = s := hs
  have hs8 : s.size = 8 := by rw [← hs]; rfl
  go_enter Tryd.func69, Tryd.ntmps69
  go_wp2_with fail
  rw [hs]
  go_loop [4] (fun i => ∃ k : Nat, k ≤ 8 ∧ i = .int .i64 k ∧ ∀ j, (hj : j < s.size) → j < k → (s[j]'hj == c) = false) (fun i => 8 - (intOf i).toNat)
  case atStart => exact ⟨0, Nat.zero_le _, rfl, fun j _ h => by omega⟩
  case round =>
    obtain ⟨k, hk, rfl, hno⟩ := hrel
    have HN := Lib.hid hno
    clear hno
    by_cases hlt : k < 8
    · have hks : k < s.size := by omega
      obtain ⟨b, hb⟩ : ∃ b, s[k]'hks = b := ⟨_, rfl⟩
      cases he : (b == c) with
      | true =>
        have HL : Hid (letB c = true) := Lib.hid (by subst hss; exact nm_some hks (by rw [hb]; exact he))
        have e1 : ((s[k].toNat : Int) == (c.toNat : Int)) = true := by rw [u8_eq, hb]; exact he
        clear he hb
        go_wp2_with fail
        go_ret
        exact ⟨ret_bool HL.out.symm, rfl⟩
      | false =>
        have e1 : ((s[k].toNat : Int) == (c.toNat : Int)) = false := by rw [u8_eq, hb]; exact he
        have HG : Hid (∀ j, (hj : j < s.size) → j < k + 1 → (s[j]'hj == c) = false) := Lib.hid (fun j hj h => by
          rcases Nat.lt_or_eq_of_le (Nat.le_of_lt_succ h) with h1 | h1
          · exact HN.out j hj h1
          · subst h1; rw [hb]; exact he)
        clear he hb
        go_wp2_with fail
        go_round
        case rel => exact ⟨k + 1, by omega, by go_num, HG.out⟩
        case measure => simp [intOf]; omega
    · obtain rfl : k = 8 := by omega
      have hno : (c == 43 || c == 45 || c == 38 || c == 94 || c == 124 || c == 33 || c == 91 || c == 93) = false := by
        subst hss; exact nm_none fun i hi => HN.out i hi (by omega)
      have HL : Hid (letB c = ((decide (65 ≤ c.toNat) && decide (c.toNat ≤ 90)) || (decide (97 ≤ c.toNat) && decide (c.toNat ≤ 122)))) := Lib.hid (by unfold letB; rw [hno]; simp)
      clear hno HN hs hss
      by_cases c1 : (65 : Int) ≤ c.toNat
      · by_cases c2 : (c.toNat : Int) ≤ 90
        · go_wp2_with fail
          go_ret
          exact ⟨ret_bool (by rw [HL.out, Bool.eq_iff_iff]; simp only [Bool.or_eq_true, Bool.and_eq_true, decide_eq_true_eq]; first | omega | (simp; omega)), rfl⟩
        · by_cases c3 : (97 : Int) ≤ c.toNat
          · go_wp2_with fail
            go_ret
            exact ⟨ret_bool (by rw [HL.out, Bool.eq_iff_iff]; simp only [Bool.or_eq_true, Bool.and_eq_true, decide_eq_true_eq]; first | omega | (simp; omega)), rfl⟩
          · go_wp2_with fail
            go_ret
            exact ⟨ret_bool (by rw [HL.out, Bool.eq_iff_iff]; simp only [Bool.or_eq_true, Bool.and_eq_true, decide_eq_true_eq]; first | omega | (simp; omega)), rfl⟩
      · by_cases c3 : (97 : Int) ≤ c.toNat
        · go_wp2_with fail
          go_ret
          exact ⟨ret_bool (by rw [HL.out, Bool.eq_iff_iff]; simp only [Bool.or_eq_true, Bool.and_eq_true, decide_eq_true_eq]; first | omega | (simp; omega)), rfl⟩
        · go_wp2_with fail
          go_ret
          exact ⟨ret_bool (by rw [HL.out, Bool.eq_iff_iff]; simp only [Bool.or_eq_true, Bool.and_eq_true, decide_eq_true_eq]; first | omega | (simp; omega)), rfl⟩

/-- A module as a value. -/
def mdV (c : UInt8) (v : Value) : Value := .agg #[.int .u8 c.toNat, v]
theorem fine_let0 {m : Md} (h : letB m.c = false) : fineB m = false := by simp [fineB, h]
theorem fine_len {m : Md} (h : 4 < m.a.length) : fineB m = false := by
  have : decide (m.a.length ≤ 4) = false := decide_eq_false (by omega)
  simp [fineB, this]
theorem fine_bra {m : Md} (h : braB m.c = true) (h2 : 0 < m.a.length) : fineB m = false := by
  have : decide (0 < m.a.length) = true := decide_eq_true h2
  simp [fineB, h, this]
theorem fine_rng {m : Md} {k : Nat} (hk : k < m.a.length) (h : m.a[k] < -1000000000 ∨ 1000000000 < m.a[k]) : fineB m = false := by
  have : rngB m.a = false := by
    cases hr : rngB m.a
    · rfl
    · have := rngB_iff.1 hr _ (List.getElem_mem hk); omega
  simp [fineB, this]
theorem fine_all {m : Md} (h1 : letB m.c = true) (h2 : m.a.length ≤ 4) (h3 : braB m.c = false ∨ m.a.length = 0) (h4 : ∀ j, (h : j < m.a.length) → -1000000000 ≤ m.a[j] ∧ m.a[j] ≤ 1000000000) : fineB m = true := by
  have e2 : decide (m.a.length ≤ 4) = true := decide_eq_true h2
  have e3 : (braB m.c && decide (0 < m.a.length)) = false := by
    rcases h3 with h | h
    · rw [h]; rfl
    · rw [h]; simp
  have e4 : rngB m.a = true := rngB_iff.2 fun x hx => by
    obtain ⟨j, hj, rfl⟩ := List.mem_iff_getElem.1 hx
    exact h4 j hj
  simp [fineB, h1, e2, e3, e4]
set_option maxHeartbeats 800000 in
theorem fine_any (m : Md) (v : Value) (hm : m.a.length ≤ 9223372036854775807) (w : World) (hv : Ints w v m.a) : Calls Tryd.prog 41 #[.agg #[.int .u8 m.c.toNat, v]] w fun e w' => e = .returned (.bool (fineB m)) ∧ Below w.heap.size w w' := by
  obtain ⟨p, cap, rfl⟩ := hv.slice
  have HV := Lib.hid hv
  obtain ⟨W0, hW0⟩ : ∃ W, W = w.alloc (.cells #[.int .u8 m.c.toNat, .slice p m.a.length cap] 25) := ⟨_, rfl⟩
  have N0 : W0.heap[w.heap.size]? = some (.cells #[.int .u8 m.c.toNat, .slice p m.a.length cap] 25 (0, 0)) := by rw [hW0]; exact heap_alloc_new _ _
  have B0 : Below w.heap.size w W0 := by rw [hW0]; exact (Below.refl _ _).alloc (Nat.le_refl _) _
  have HB := Lib.hid B0
  have HV0 := Lib.hid (hv.later B0)
  have q0 := cell_two0 N0
  have q1 := cell_two1 N0
  have l1 := lt_of_block N0
  clear N0 B0 hv
  cases hl : letB m.c with
  | false =>
    have HF := Lib.hid (fine_let0 hl)
    have HC : Hid (∀ w, Calls Tryd.prog 69 #[.int .u8 m.c.toNat] w fun e w' => e = .returned (.bool false) ∧ w = w') := Lib.hid (fun w => by have := letter_any m.c w; rwa [hl] at this)
    clear hl
    go_enter Tryd.func41, Tryd.ntmps41
    go_wp2_with fail
    rw [← hW0]
    clear hW0
    go_wp2_with (go_at_call 69; refine (HC.out _).mono ?_; rintro e w2 ⟨rfl, rfl⟩)
    go_ret
    exact ⟨ret_bool HF.out.symm, HB.out⟩
  | true =>
    have HC : Hid (∀ w, Calls Tryd.prog 69 #[.int .u8 m.c.toNat] w fun e w' => e = .returned (.bool true) ∧ w = w') := Lib.hid (fun w => by have := letter_any m.c w; rwa [hl] at this)
    by_cases h4 : 4 < m.a.length
    · have HF := Lib.hid (fine_len h4)
      have h4' : (4 : Int) < (m.a.length : Int) := by omega
      clear hl
      go_enter Tryd.func41, Tryd.ntmps41
      go_wp2_with fail
      rw [← hW0]
      clear hW0
      go_wp2_with (go_at_call 69; refine (HC.out _).mono ?_; rintro e w2 ⟨rfl, rfl⟩)
      go_ret
      exact ⟨ret_bool HF.out.symm, HB.out⟩
    · have h4' : ¬ (4 : Int) < (m.a.length : Int) := by omega
      have HL := Lib.hid hl
      have walk : ∀ (t1 t2 : Bool), ((m.c.toNat : Int) == 91) = t1 → ((m.c.toNat : Int) == 93) = t2 → braB m.c = (t1 || t2) →
          Calls Tryd.prog 41 #[.agg #[.int .u8 m.c.toNat, .slice p m.a.length cap]] w fun e w' => e = .returned (.bool (fineB m)) ∧ Below w.heap.size w w' := by
        intro t1 t2 e1 e2 hb
        have HBr := Lib.hid hb
        clear hl hb
        by_cases hz : (t1 || t2) = true ∧ 0 < m.a.length
        · have HF := Lib.hid (fine_bra (HBr.out.trans hz.1) hz.2)
          have hz2 : (0 : Int) < (m.a.length : Int) := by omega
          have hz1 := hz.1
          clear hz
          cases t1 with
          | true =>
            go_enter Tryd.func41, Tryd.ntmps41
            go_wp2_with fail
            rw [← hW0]
            clear hW0
            go_wp2_with (go_at_call 69; refine (HC.out _).mono ?_; rintro e w2 ⟨rfl, rfl⟩)
            go_ret
            exact ⟨ret_bool HF.out.symm, HB.out⟩
          | false =>
            have hz3 : t2 = true := hz1
            subst hz3
            go_enter Tryd.func41, Tryd.ntmps41
            go_wp2_with fail
            rw [← hW0]
            clear hW0
            go_wp2_with (go_at_call 69; refine (HC.out _).mono ?_; rintro e w2 ⟨rfl, rfl⟩)
            go_ret
            exact ⟨ret_bool HF.out.symm, HB.out⟩
        · have hz3 : (t1 = false ∧ t2 = false) ∨ m.a.length = 0 := by
            rcases Nat.eq_zero_or_pos m.a.length with h | h
            · exact .inr h
            · left
              cases t1 <;> cases t2 <;> simp_all
          have HZ : Hid (braB m.c = false ∨ m.a.length = 0) := Lib.hid (by
            rcases hz3 with ⟨rfl, rfl⟩ | h
            · exact .inl HBr.out
            · exact .inr h)
          clear hz
          rcases hz3 with ⟨rfl, rfl⟩ | hl0
          · go_enter Tryd.func41, Tryd.ntmps41
            go_wp2_with fail
            rw [← hW0]
            clear hW0
            go_wp2_with (go_at_call 69; refine (HC.out _).mono ?_; rintro e w2 ⟨rfl, rfl⟩)
            go_loop [3] (fun i => ∃ k : Nat, k ≤ m.a.length ∧ i = .int .i64 k ∧ ∀ j, (h : j < m.a.length) → j < k → -1000000000 ≤ m.a[j] ∧ m.a[j] ≤ 1000000000) (fun i => m.a.length - (intOf i).toNat)
            case atStart => exact ⟨0, Nat.zero_le _, rfl, fun j _ h => by omega⟩
            case round =>
              obtain ⟨k, hk, rfl, hok⟩ := hrel
              have HK := Lib.hid hok
              clear hok
              by_cases hlt : k < m.a.length
              · obtain ⟨b, off, cap', hp, e1', lb⟩ := HV0.out.at hlt
                obtain rfl : p = some ⟨b, off, none⟩ := by cases hp; rfl
                obtain ⟨y, hy⟩ : ∃ y, m.a[k] = y := ⟨_, rfl⟩
                have HY : Hid (m.a[k] = y) := Lib.hid hy
                rw [hy] at e1'
                clear hp hy
                have k1 : (k : Int) < (m.a.length : Int) := by omega
                by_cases y1 : y < -1000000000
                · have HF := Lib.hid (fine_rng hlt (.inl (by rw [HY.out]; exact y1)))
                  go_wp2_with fail
                  go_ret
                  exact ⟨ret_bool HF.out.symm, HB.out⟩
                · by_cases y2 : 1000000000 < y
                  · have HF := Lib.hid (fine_rng hlt (.inr (by rw [HY.out]; exact y2)))
                    go_wp2_with fail
                    go_ret
                    exact ⟨ret_bool HF.out.symm, HB.out⟩
                  · have HG : Hid (∀ j, (h : j < m.a.length) → j < k + 1 → -1000000000 ≤ m.a[j] ∧ m.a[j] ≤ 1000000000) := Lib.hid (fun j h hj => by
                      rcases Nat.lt_or_eq_of_le (Nat.le_of_lt_succ hj) with h1 | h1
                      · exact HK.out j h h1
                      · subst h1; rw [HY.out]; omega)
                    go_wp2_with fail
                    go_round
                    case rel => exact ⟨k + 1, by omega, by go_num, HG.out⟩
                    case measure => simp [intOf]; omega
              · obtain rfl : k = m.a.length := by omega
                have HF := Lib.hid (fine_all HL.out (by omega) HZ.out fun j h => HK.out j h h)
                go_wp2_with fail
                go_ret
                exact ⟨ret_bool HF.out.symm, HB.out⟩
          · have hl1 : ¬ (0 : Int) < (m.a.length : Int) := by omega
            clear hl0
            cases t1 with
            | true =>
              go_enter Tryd.func41, Tryd.ntmps41
              go_wp2_with fail
              rw [← hW0]
              clear hW0
              go_wp2_with (go_at_call 69; refine (HC.out _).mono ?_; rintro e w2 ⟨rfl, rfl⟩)
              go_loop [3] (fun i => ∃ k : Nat, k ≤ m.a.length ∧ i = .int .i64 k ∧ ∀ j, (h : j < m.a.length) → j < k → -1000000000 ≤ m.a[j] ∧ m.a[j] ≤ 1000000000) (fun i => m.a.length - (intOf i).toNat)
              case atStart => exact ⟨0, Nat.zero_le _, rfl, fun j _ h => by omega⟩
              case round =>
                obtain ⟨k, hk, rfl, hok⟩ := hrel
                have HK := Lib.hid hok
                clear hok
                by_cases hlt : k < m.a.length
                · exfalso; omega
                · obtain rfl : k = m.a.length := by omega
                  have HF := Lib.hid (fine_all HL.out (by omega) HZ.out fun j h => HK.out j h h)
                  go_wp2_with fail
                  go_ret
                  exact ⟨ret_bool HF.out.symm, HB.out⟩
            | false =>
              cases t2 with
              | true =>
                go_enter Tryd.func41, Tryd.ntmps41
                go_wp2_with fail
                rw [← hW0]
                clear hW0
                go_wp2_with (go_at_call 69; refine (HC.out _).mono ?_; rintro e w2 ⟨rfl, rfl⟩)
                go_loop [3] (fun i => ∃ k : Nat, k ≤ m.a.length ∧ i = .int .i64 k ∧ ∀ j, (h : j < m.a.length) → j < k → -1000000000 ≤ m.a[j] ∧ m.a[j] ≤ 1000000000) (fun i => m.a.length - (intOf i).toNat)
                case atStart => exact ⟨0, Nat.zero_le _, rfl, fun j _ h => by omega⟩
                case round =>
                  obtain ⟨k, hk, rfl, hok⟩ := hrel
                  have HK := Lib.hid hok
                  clear hok
                  by_cases hlt : k < m.a.length
                  · exfalso; omega
                  · obtain rfl : k = m.a.length := by omega
                    have HF := Lib.hid (fine_all HL.out (by omega) HZ.out fun j h => HK.out j h h)
                    go_wp2_with fail
                    go_ret
                    exact ⟨ret_bool HF.out.symm, HB.out⟩
              | false =>
                go_enter Tryd.func41, Tryd.ntmps41
                go_wp2_with fail
                rw [← hW0]
                clear hW0
                go_wp2_with (go_at_call 69; refine (HC.out _).mono ?_; rintro e w2 ⟨rfl, rfl⟩)
                go_loop [3] (fun i => ∃ k : Nat, k ≤ m.a.length ∧ i = .int .i64 k ∧ ∀ j, (h : j < m.a.length) → j < k → -1000000000 ≤ m.a[j] ∧ m.a[j] ≤ 1000000000) (fun i => m.a.length - (intOf i).toNat)
                case atStart => exact ⟨0, Nat.zero_le _, rfl, fun j _ h => by omega⟩
                case round =>
                  obtain ⟨k, hk, rfl, hok⟩ := hrel
                  have HK := Lib.hid hok
                  clear hok
                  by_cases hlt : k < m.a.length
                  · exfalso; omega
                  · obtain rfl : k = m.a.length := by omega
                    have HF := Lib.hid (fine_all HL.out (by omega) HZ.out fun j h => HK.out j h h)
                    go_wp2_with fail
                    go_ret
                    exact ⟨ret_bool HF.out.symm, HB.out⟩
      exact walk _ _ rfl rfl (by
        rw [show (91 : Int) = ((91 : UInt8).toNat : Int) from rfl, show (93 : Int) = ((93 : UInt8).toNat : Int) from rfl, u8_eq, u8_eq]; rfl)

def greatB (l : List Md) : Bool := decide (2100 < l.length) || l.any fun m => decide (10 < m.a.length)
theorem great_no {l : List Md} (h : greatB l = false) : l.length ≤ 2100 ∧ ∀ m ∈ l, m.a.length ≤ 10 := by
  unfold greatB at h
  rw [Bool.or_eq_false_iff, decide_eq_false_iff_not, List.any_eq_false] at h
  refine ⟨by omega, fun m hm => ?_⟩
  have := h.2 m hm
  simpa using this
theorem great_long {l : List Md} (h : 2100 < l.length) : greatB l = true := by simp [greatB, h]
theorem great_args {l : List Md} {k : Nat} (hk : k < l.length) (h : 10 < l[k].a.length) : greatB l = true := by
  unfold greatB
  rw [Bool.or_eq_true]; right
  rw [List.any_eq_true]
  exact ⟨l[k], List.getElem_mem hk, by simpa using h⟩
theorem great_end {l : List Md} (h : l.length ≤ 2100) (h2 : ∀ j, (h : j < l.length) → l[j].a.length ≤ 10) : greatB l = false := by
  unfold greatB
  rw [Bool.or_eq_false_iff, decide_eq_false_iff_not, List.any_eq_false]
  refine ⟨by omega, fun m hm => ?_⟩
  obtain ⟨j, hj, rfl⟩ := List.mem_iff_getElem.1 hm
  have := h2 j hj
  simp; omega
set_option maxHeartbeats 800000 in
theorem great_any (v : Value) (l : List Md) (hmax : l.length ≤ 9223372036854775807) (w : World) (hv : Mods w v l) (hi : ∀ m ∈ l, m.a.length ≤ 9223372036854775807) :
    Calls Tryd.prog 27 #[v] w fun e w' => e = .returned (.bool (greatB l)) ∧ w = w' := by
  obtain ⟨p, cap, rfl⟩ := hv.slice
  have HV := Lib.hid hv
  have HI := Lib.hid hi
  clear hv hi
  by_cases hlen : 2100 < l.length
  · have HG := Lib.hid (great_long hlen)
    have c1 : (2100 : Int) < (l.length : Int) := by omega
    go_enter Tryd.func27, Tryd.ntmps27
    go_wp2_with fail
    go_ret
    exact ⟨ret_bool HG.out.symm, rfl⟩
  · have c1 : ¬ (2100 : Int) < (l.length : Int) := by omega
    go_enter Tryd.func27, Tryd.ntmps27
    go_wp2_with fail
    go_loop [3] (fun i => ∃ k : Nat, k ≤ l.length ∧ i = .int .i64 k ∧ ∀ j, (h : j < l.length) → j < k → l[j].a.length ≤ 10) (fun i => l.length - (intOf i).toNat)
    case atStart => exact ⟨0, Nat.zero_le _, rfl, fun j _ h => by omega⟩
    case round =>
      obtain ⟨k, hk, rfl, hok⟩ := hrel
      have HK := Lib.hid hok
      clear hok
      by_cases hlt : k < l.length
      · obtain ⟨b, off, cap', q, c, hp, e1, e2, _, lb⟩ := HV.out.at hlt
        obtain rfl : p = some ⟨b, off, none⟩ := by cases hp; rfl
        have hin := HI.out l[k] (List.getElem_mem hlt)
        by_cases hg : 10 < l[k].a.length
        · have HF := Lib.hid (great_args hlt hg)
          have c2 : (10 : Int) < (l[k].a.length : Int) := by omega
          clear hp e1
          generalize l[k].a.length = n at e2 hg c2 hin
          go_wp2_with fail
          go_ret
          exact ⟨ret_bool HF.out.symm, rfl⟩
        · have HG : Hid (∀ j, (h : j < l.length) → j < k + 1 → l[j].a.length ≤ 10) := Lib.hid (fun j h hj => by
            rcases Nat.lt_or_eq_of_le (Nat.le_of_lt_succ hj) with h1 | h1
            · exact HK.out j h h1
            · subst h1; omega)
          have c2 : ¬ (10 : Int) < (l[k].a.length : Int) := by omega
          clear hp e1
          generalize l[k].a.length = n at e2 hg c2 hin
          go_wp2_with fail
          go_round
          case rel => exact ⟨k + 1, by omega, by go_num, HG.out⟩
          case measure => simp [intOf]; omega
      · obtain rfl : k = l.length := by omega
        have HF := Lib.hid (great_end (by omega) fun j h => HK.out j h h)
        go_wp2_with fail
        go_ret
        exact ⟨ret_bool HF.out.symm, rfl⟩
end Go.Proofs.YtepoaobjcpgilaaDoor
namespace Go.Proofs.YtepoaobjcpgilaaDoor
open Go.RowKit
open WM
set_option linter.unusedVariables false
set_option linter.unusedSimpArgs false

theorem info_int : (Tryd.prog.info? 3).map (fun i => (i.zero, i.size, i.bytes)) = some (some (.int .i64 0), 1, 8) := by kernel_rfl
theorem info_parts {P : Program} {t : TypeId} {z : Value} {s b : Nat} (h : (P.info? t).map (fun i => (i.zero, i.size, i.bytes)) = some (some z, s, b)) : ∃ i, P.info? t = some i ∧ i.zero = some z ∧ i.size = s ∧ i.bytes = b := by
  cases hi : P.info? t with
  | none => rw [hi] at h; simp at h
  | some i => rw [hi] at h; simp at h; exact ⟨i, rfl, h.1, h.2.1, h.2.2⟩
def valsL (l : List Int) : List Value := l.map (Value.int .i64)
theorem row_of_owned {w : World} {base n : Nat} {v : Value} {l : List Int} (h : w.ownsRow base 3 1 v n (valsL l)) (hn : n ≠ 0) :
    ∃ g cap, v = .slice (some ⟨g, 0, none⟩) l.length cap ∧ base ≤ g ∧ RowI w g l := by
  obtain ⟨h1, h2⟩ := h
  have hl : l.length = n := by simpa [valsL] using h1
  rcases h2 with ⟨_, h0⟩ | ⟨g, cap, cur, hv, hb, hg, hc1, hc2, hsz, htake⟩
  · exact absurd h0 hn
  · refine ⟨g, cap, by rw [hl]; exact hv, hb, cur, hg, by rw [hsz, hl]; omega, fun i hi => ?_⟩
    have e : (cur.toList.take (n * 1))[i]? = (valsL l)[i]? := by rw [htake]
    rw [List.getElem?_take_of_lt (by omega)] at e
    rw [Array.getElem?_toList] at e
    rw [e]; simp [valsL, hi]
theorem grown_step {w wr w1 : World} {v : Value} {n : Nat} {xs : List Value} {e : TypeId} {tmp : Obj} (hB : Below w.heap.size w wr) (hown : wr.ownsRow w.heap.size e 1 v n xs) (hg : (wr.alloc tmp).grownBy w1 v.ownBlock) : Below w.heap.size w w1 :=
  (hB.alloc hB.size tmp).grown hg (by simp; have := hB.size; omega) fun j ej => (hown.lt j ej).1
theorem valsL_app (a b : List Int) : valsL (a ++ b) = valsL a ++ valsL b := by simp [valsL]
theorem ints_of_owned {w : World} {base : Nat} {v : Value} {l : List Int} (h : w.ownsRow base 3 1 v l.length (valsL l)) : Ints w v l := by
  rcases Nat.eq_zero_or_pos l.length with h0 | h0
  · have e : l = [] := List.length_eq_zero_iff.1 h0
    subst e
    rcases h.2 with ⟨hv, _⟩ | ⟨g, cap, cur, hv, _⟩
    · rw [hv]; exact .none _ _
    · rw [hv]; exact .none _ _
  · obtain ⟨g, cap, rfl, _, hr⟩ := row_of_owned h (by omega)
    exact hr.ints cap
end Go.Proofs.YtepoaobjcpgilaaDoor
namespace Go.Proofs.YtepoaobjcpgilaaDoor
open Go.RowKit
open WM
set_option linter.unusedVariables false
set_option linter.unusedSimpArgs false

theorem dep_hi (l : List Md) : ∀ k, k ≤ l.length → dep (l.take k) ≤ k := by
  intro k
  induction k with
  | zero => intro _; simp [dep_nil]
  | succ k ih =>
    intro h
    have h1 := ih (by omega)
    rw [dep_snoc (by omega)]
    rcases dlt_cases l[k] with e | e | e <;> rw [e] <;> omega
/-- How Open ends. -/
def OpEnd (l : List Md) (w : World) (e : Ending) (w' : World) : Prop :=
  Below w.heap.size w w' ∧ ((okB l l.length = false ∧ e = .returned (.tuple #[.slice none 0 0, .bool false])) ∨ (okB l l.length = true ∧ ∃ v, e = .returned (.tuple #[v, .bool true]) ∧ Ints w' v (opnL l l.length)))
/-- Where Open stands. -/
structure OpAt (w : World) (l : List Md) (k : Nat) (v : Value) (wr : World) : Prop where
  hi : k ≤ l.length
  ok : okB l k = true
  own : wr.ownsRow w.heap.size 3 1 v k (valsL (opnL l k))
  below : Below w.heap.size w wr
theorem OpAt.rng {w wr : World} {l : List Md} {k : Nat} {v : Value} (h : OpAt w l k v wr) : 0 ≤ dep (l.take k) ∧ dep (l.take k) ≤ k := by
  refine ⟨?_, dep_hi l k h.hi⟩
  rcases Nat.eq_zero_or_pos k with h0 | h0
  · subst h0; simp [dep_nil]
  · have := okB_iff.1 h.ok (k - 1) (by omega)
    rwa [show k - 1 + 1 = k by omega] at this
set_option maxRecDepth 100000 in
set_option maxHeartbeats 1600000 in
theorem open_any (v : Value) (l : List Md) (hmax : l.length ≤ 2100) (w : World) (hv : Mods w v l) :
    Calls Tryd.prog 68 #[v] w (OpEnd l w) := by
  obtain ⟨p, cap, rfl⟩ := hv.slice
  have HV := Lib.hid hv
  obtain ⟨i0, hi, hz0, hz1, hz2⟩ := info_parts info_int
  have HM : Hid (maxLen = 9223372036854775807) := Lib.hid rfl
  clear hv
  go_enter Tryd.func68, Tryd.ntmps68
  go_wp2_with fail
  go_loopw [4, 5, 6] (fun v n i wr => ∃ k : Nat, i = .int .i64 k ∧ n = .int .i64 (dep (l.take k)) ∧ OpAt w l k v wr) (fun _ _ i _ => l.length - (intOf i).toNat)
  case atStart => exact ⟨0, rfl, by simp [dep_nil], Nat.zero_le _, okB_zero l, World.ownsRow_nil _ _ _ _, Below.refl _ _⟩
  case round =>
    obtain ⟨k, rfl, rfl, hO⟩ := hrel
    have HO := Lib.hid hO
    have n1 := hO.hi
    have n2 := hO.rng
    have hown := hO.own
    have hsz := hO.below.size
    clear hO
    by_cases hlt : k < l.length
    · obtain ⟨b, off, cap', q, c, hp, e1, e2, _, lb⟩ := (HV.out.later (HO.out.below.mono (Nat.le_refl _))).at hlt
      obtain rfl : p = some ⟨b, off, none⟩ := by cases hp; rfl
      have hs := dep_snoc hlt
      have ho := okB_succ l k
      have HS : Hid (valsL (opnL l (k + 1)) = valsL (opnL l k) ++ [.int .i64 (dep (l.take (k + 1)))]) := Lib.hid (by rw [opnL_succ, valsL_app]; rfl)
      have HD : Hid (dep (l.take (k + 1)) = dep (l.take k) + dlt l[k]) := Lib.hid hs
      have HOk : Hid (0 ≤ dep (l.take (k + 1)) → okB l (k + 1) = true) := Lib.hid (fun h => by rw [ho, HO.out.ok]; simpa using h)
      clear hp e2 hs ho
      clear HV
      by_cases c1 : l[k].c = 91
      · have t1 : ((l[k].c.toNat : Int) == 91) = true := by rw [c1]; rfl
        have t2 : ((l[k].c.toNat : Int) == 93) = false := by rw [c1]; rfl
        have HX : Hid (dep (l.take (k + 1)) = dep (l.take k) + 1) := Lib.hid (by rw [HD.out]; unfold dlt; rw [if_pos c1])
        clear c1
        generalize l[k].c.toNat = cn at e1 t1 t2
        obtain ⟨d, hd⟩ : ∃ d, dep (l.take k) = d := ⟨_, rfl⟩
        rw [hd] at HX n2 ⊢
        clear hd
        go_wp2_with (at_builtin; refine wpList_append_own _ rfl _ _ 23 rfl w.heap.size 3 i0 (.int .i64 0) 1 8 Tryd.underlying23 hi hz0 hz1 hz2 rfl (by decide) _ _ _ rfl (hown.alloc _) ⟨wr.heap.size, 0, none⟩ 1 1 [.int .i64 (d + 1)] rfl rfl (cell_one_new _ _ _) (by simp [Value.oneCell']) (by rw [HM.out]; omega) (by omega) (by simp; omega) ?_; intro v' w1 hown' hgrow _)
        go_roundw
        case rel => exact ⟨k + 1, by go_num, by rw [HX.out], hlt, HOk.out (by rw [HX.out]; omega), by rw [HS.out, HX.out]; exact hown', grown_step HO.out.below hown hgrow⟩
        case measure => simp [intOf]; omega
      · by_cases c2 : l[k].c = 93
        · have t1 : ((l[k].c.toNat : Int) == 91) = false := by rw [c2]; rfl
          have t2 : ((l[k].c.toNat : Int) == 93) = true := by rw [c2]; rfl
          have HX : Hid (dep (l.take (k + 1)) = dep (l.take k) - 1) := Lib.hid (by rw [HD.out]; unfold dlt; rw [if_neg c1, if_pos c2]; omega)
          clear c1 c2
          generalize l[k].c.toNat = cn at e1 t1 t2
          obtain ⟨d, hd⟩ : ∃ d, dep (l.take k) = d := ⟨_, rfl⟩
          rw [hd] at HX n2 ⊢
          clear hd
          by_cases hneg : d - 1 < 0
          · have HF : Hid (okB l l.length = false) := Lib.hid (by
              cases h : okB l l.length
              · rfl
              · have := okB_iff.1 h k hlt
                rw [HX.out] at this; omega)
            go_wp2_with fail
            go_ret2
            exact ⟨HO.out.below, .inl ⟨HF.out, rfl⟩⟩
          · have hneg2 : 0 ≤ d - 1 := by omega
            go_wp2_with (at_builtin; refine wpList_append_own _ rfl _ _ 23 rfl w.heap.size 3 i0 (.int .i64 0) 1 8 Tryd.underlying23 hi hz0 hz1 hz2 rfl (by decide) _ _ _ rfl (hown.alloc _) ⟨wr.heap.size, 0, none⟩ 1 1 [.int .i64 (d - 1)] rfl rfl (cell_one_new _ _ _) (by simp [Value.oneCell']) (by rw [HM.out]; omega) (by omega) (by simp; omega) ?_; intro v' w1 hown' hgrow _)
            go_roundw
            case rel => exact ⟨k + 1, by go_num, by rw [HX.out], hlt, HOk.out (by rw [HX.out]; omega), by rw [HS.out, HX.out]; exact hown', grown_step HO.out.below hown hgrow⟩
            case measure => simp [intOf]; omega
        · have t1 : ((l[k].c.toNat : Int) == 91) = false := by
            rw [show (91 : Int) = ((91 : UInt8).toNat : Int) from rfl, u8_eq]; exact beq_eq_false_iff_ne.2 c1
          have t2 : ((l[k].c.toNat : Int) == 93) = false := by
            rw [show (93 : Int) = ((93 : UInt8).toNat : Int) from rfl, u8_eq]; exact beq_eq_false_iff_ne.2 c2
          have HX : Hid (dep (l.take (k + 1)) = dep (l.take k)) := Lib.hid (by rw [HD.out]; unfold dlt; rw [if_neg c1, if_neg c2]; omega)
          clear c1 c2
          generalize l[k].c.toNat = cn at e1 t1 t2
          obtain ⟨d, hd⟩ : ∃ d, dep (l.take k) = d := ⟨_, rfl⟩
          rw [hd] at HX n2 ⊢
          clear hd
          have hneg2 : 0 ≤ d := n2.1
          go_wp2_with (at_builtin; refine wpList_append_own _ rfl _ _ 23 rfl w.heap.size 3 i0 (.int .i64 0) 1 8 Tryd.underlying23 hi hz0 hz1 hz2 rfl (by decide) _ _ _ rfl (hown.alloc _) ⟨wr.heap.size, 0, none⟩ 1 1 [.int .i64 (d)] rfl rfl (cell_one_new _ _ _) (by simp [Value.oneCell']) (by rw [HM.out]; omega) (by omega) (by simp; omega) ?_; intro v' w1 hown' hgrow _)
          go_roundw
          case rel => exact ⟨k + 1, by go_num, by rw [HX.out], hlt, HOk.out (by rw [HX.out]; omega), by rw [HS.out, HX.out]; exact hown', grown_step HO.out.below hown hgrow⟩
          case measure => simp [intOf]; omega
    · obtain rfl : k = l.length := by omega
      have HI := Lib.hid (ints_of_owned (l := opnL l l.length) (by rw [opnL_length]; exact hown))
      go_wp2_with fail
      go_ret2
      exact ⟨HO.out.below, .inr ⟨HO.out.ok, _, rfl, HI.out⟩⟩

theorem bad_at {l : List Md} {k : Nat} (hk : k < l.length) (h : fineB l[k] = false) : l.all fineB = false := by
  rw [List.all_eq_false]
  exact ⟨l[k], List.getElem_mem hk, by rw [h]; simp⟩
theorem good_all {l : List Md} (h : ∀ j, (hj : j < l.length) → fineB l[j] = true) : l.all fineB = true := by
  rw [List.all_eq_true]
  intro m hm
  obtain ⟨j, hj, rfl⟩ := List.mem_iff_getElem.1 hm
  exact h j hj
set_option maxRecDepth 100000 in
set_option maxHeartbeats 1600000 in
theorem check_any (v : Value) (l : List Md) (hmax : l.length ≤ 2100) (hargs : ∀ m ∈ l, m.a.length ≤ 10) (w : World) (hv : Mods w v l) :
    Calls Tryd.prog 39 #[v] w fun e w' => e = .returned (.int .i64 (chk l)) ∧ Below w.heap.size w w' := by
  obtain ⟨p, cap, rfl⟩ := hv.slice
  have HV := Lib.hid hv
  have HA := Lib.hid hargs
  clear hv hargs
  by_cases hlen : 2000 < l.length
  · have HC := Lib.hid (chk_many hlen)
    have c1 : (2000 : Int) < (l.length : Int) := by omega
    go_enter Tryd.func39, Tryd.ntmps39
    go_wp2_with fail
    go_ret
    exact ⟨ret_int HC.out.symm, Below.refl _ _⟩
  · have c1 : ¬ (2000 : Int) < (l.length : Int) := by omega
    go_enter Tryd.func39, Tryd.ntmps39
    go_wp2_with fail
    go_loopw [3] (fun i wr => ∃ k : Nat, k ≤ l.length ∧ i = .int .i64 k ∧ Below w.heap.size w wr ∧ ∀ j, (h : j < l.length) → j < k → fineB l[j] = true) (fun i _ => l.length - (intOf i).toNat)
    case atStart => exact ⟨0, Nat.zero_le _, rfl, Below.refl _ _, fun j _ h => by omega⟩
    case round =>
      obtain ⟨k, hk, rfl, hb, hok⟩ := hrel
      have HK := Lib.hid hok
      have HB := Lib.hid hb
      clear hok hb
      by_cases hlt : k < l.length
      · obtain ⟨b, off, cap', q, c, hp, e1, e2, hin, lb⟩ := (HV.out.later (HB.out.mono (Nat.le_refl _))).at hlt
        obtain rfl : p = some ⟨b, off, none⟩ := by cases hp; rfl
        have HF := Lib.hid (fine_any l[k] _ (by have := HA.out _ (List.getElem_mem hlt); omega) wr hin)
        obtain ⟨t, ht⟩ : ∃ t, fineB l[k] = t := ⟨_, rfl⟩
        have HT := Lib.hid ht
        rw [ht] at HF
        clear hp hin ht
        generalize l[k].c.toNat = cn at e1 HF
        generalize l[k].a.length = an at e2 HF
        cases t with
        | false =>
          have HC := Lib.hid (chk_bad hlen (bad_at hlt HT.out))
          go_wp2_with fail
          refine HF.out.mono ?_
          rintro e w1 ⟨rfl, hb⟩
          have HB1 := Lib.hid (HB.out.trans (hb.mono HB.out.size))
          clear hb
          go_wp2_with fail
          go_ret
          exact ⟨ret_int HC.out.symm, HB1.out⟩
        | true =>
          have HG : Hid (∀ j, (h : j < l.length) → j < k + 1 → fineB l[j] = true) := Lib.hid (fun j h hj => by
            rcases Nat.lt_or_eq_of_le (Nat.le_of_lt_succ hj) with h1 | h1
            · exact HK.out j h h1
            · subst h1; exact HT.out)
          go_wp2_with fail
          refine HF.out.mono ?_
          rintro e w1 ⟨rfl, hb⟩
          have HB1 := Lib.hid (HB.out.trans (hb.mono HB.out.size))
          clear hb
          go_wp2_with fail
          go_roundw
          case rel => exact ⟨k + 1, by omega, by go_num, HB1.out, HG.out⟩
          case measure => simp [intOf]; omega
      · obtain rfl : k = l.length := by omega
        have HGd := Lib.hid (good_all fun j h => HK.out j h h)
        have HO := Lib.hid (open_any _ l hmax wr (HV.out.later (HB.out.mono (Nat.le_refl _))))
        go_wp2_with fail
        refine HO.out.mono ?_
        rintro e w1 ⟨hb, ⟨hno, rfl⟩ | ⟨hyes, v1, rfl, hi⟩⟩
        · have HB1 := Lib.hid (HB.out.trans (hb.mono HB.out.size))
          have HC := Lib.hid (chk_open hlen HGd.out (by rw [hno]; rfl))
          clear hb hno
          go_wp2_with fail
          go_ret
          exact ⟨ret_int HC.out.symm, HB1.out⟩
        · have HB1 := Lib.hid (HB.out.trans (hb.mono HB.out.size))
          have HI := Lib.hid hi
          obtain ⟨p1, cap1, rfl⟩ := hi.slice
          have hlenO : (opnL l l.length).length = l.length := opnL_length _ _
          rw [hlenO] at HI ⊢
          have HY := Lib.hid hyes
          clear hb hyes hi
          by_cases h0 : 0 < l.length
          · obtain ⟨b, off, cap', hp, e1, lb⟩ := HI.out.at (k := l.length - 1) (by rw [hlenO]; omega)
            rw [hlenO] at hp
            obtain rfl : p1 = some ⟨b, off, none⟩ := by cases hp; rfl
            rw [opnL_get (by omega), show l.length - 1 + 1 = l.length by omega, List.take_length] at e1
            have hge := okB_iff.1 HY.out (l.length - 1) (by omega)
            rw [show l.length - 1 + 1 = l.length by omega, List.take_length] at hge
            have n3 : ((l.length : Int) - 1).toNat = l.length - 1 := by omega
            have n4 : (0 : Int) ≤ (l.length : Int) - 1 := by omega
            have n5 : (l.length : Int) - 1 < (l.length : Int) := by omega
            have n6 : (0 : Int) < (l.length : Int) := by omega
            clear hp hlenO
            by_cases hd : dep l = 0
            · have HC : Hid (chk l = 0) := Lib.hid (chk_zero.2 ⟨by omega, HGd.out, HY.out, hd⟩)
              obtain ⟨d, hdd⟩ : ∃ d, dep l = d := ⟨_, rfl⟩
              rw [hdd] at e1 hge hd
              clear hdd
              subst hd
              go_wp2_with fail
              go_ret
              exact ⟨ret_int HC.out.symm, HB1.out⟩
            · have HC := Lib.hid (chk_open hlen HGd.out (by simp [hd]))
              obtain ⟨d, hdd⟩ : ∃ d, dep l = d := ⟨_, rfl⟩
              rw [hdd] at e1 hge hd
              clear hdd
              have hd1 : 0 < d := by omega
              go_wp2_with fail
              go_ret
              exact ⟨ret_int HC.out.symm, HB1.out⟩
          · have hl0 : l = [] := List.length_eq_zero_iff.1 (by omega)
            have HC : Hid (chk l = 0) := Lib.hid (by rw [hl0]; rfl)
            have n6 : ¬ (0 : Int) < (l.length : Int) := by omega
            clear hl0
            go_wp2_with fail
            go_ret
            exact ⟨ret_int HC.out.symm, HB1.out⟩
end Go.Proofs.YtepoaobjcpgilaaDoor
namespace Go.Proofs.YtepoaobjcpgilaaDoor
open Go.RowKit
open WM
set_option linter.unusedVariables false
set_option linter.unusedSimpArgs false

/-- An append to a row of the call's own, as a step of a region that draws its order. -/
theorem step_append_own {P : Program} (w : World) {ops : Array Oper} {o : Oper} {a : Act} {K : Act → World → Prop} {Q : Exit → Act → World → Prop} {E : Prop}
    (hg : o.guard = none) (s x : Operand) (t : TypeId) (hop : o.op = Op.call { callee := Callee.builtin Builtin.append, args := #[s, x], argTypes := #[t, t] })
    (base : Nat) (e : TypeId) (i : TypeInfo) (z : Value) (size bytes : Nat) (h1 : P.underlying t = some (.slice e)) (h2 : P.info? e = some i) (h3 : i.zero = some z) (h4 : i.size = size) (h5 : i.bytes = bytes) (h6 : z.cells.size = size) (h7 : 0 < size)
    (v : Value) (k : Nat) (xs : List Value) (hs : a.eval s = v) (hown : w.ownsRow base e size v k xs) (ad : Addr) (m c : Nat) (news : List Value) (hx : a.eval x = .slice (some ad) m c) (hn : news.length = m * size)
    (hc : ∀ j u, news[j]? = some u → w.cell? (ad.add j) = some u) (h1c : ∀ u ∈ news, u.oneCell' = true) (b1 : k + m ≤ maxLen) (b2 : (k + m) * bytes ≤ 140737488355328) (b3 : base ≤ w.heap.size)
    (hK : ∀ v' w', w'.ownsRow base e size v' (k + m) (xs ++ news) → w.grownBy w' v.ownBlock → (v' = .slice none 0 0 ↔ v = .slice none 0 0 ∧ m = 0) → (v'.ownBlock = v.ownBlock ∨ v'.ownBlock = some w.heap.size) → K (a.put o.dst v') w') :
    if Region.wanted o (yielded ops a.tmps) = true then Oper.wp P o a w K Q else E := by
  have hw : Region.wanted o (yielded ops a.tmps) = true := by simp [Region.wanted, hg]
  rw [if_pos hw]
  obtain ⟨v', w', hrun, r1, r2, r3, r4⟩ := run_append_own_at (P := P) w base t o.type e i z size bytes h1 h2 h3 h4 h5 h6 h7 v k xs hown ad m c news hn hc h1c b1 b2 b3
  unfold Oper.wp
  simp [execOp, hop, resolve, invoke, builtin, hs, hx, hrun, Result.andThen]
  exact hK _ _ r1 r2 r3 r4
/-- The same where nothing comes, out of a slice that is nil. -/
theorem step_append_nil {P : Program} (w : World) {ops : Array Oper} {o : Oper} {a : Act} {K : Act → World → Prop} {Q : Exit → Act → World → Prop} {E : Prop}
    (hg : o.guard = none) (s x : Operand) (t : TypeId) (hop : o.op = Op.call { callee := Callee.builtin Builtin.append, args := #[s, x], argTypes := #[t, t] })
    (base : Nat) (e : TypeId) (i : TypeInfo) (size : Nat) (h1 : P.underlying t = some (.slice e)) (h2 : P.info? e = some i)
    (v : Value) (k : Nat) (xs : List Value) (hs : a.eval s = v) (hown : w.ownsRow base e size v k xs) (hx : a.eval x = .slice none 0 0)
    (hK : K (a.put o.dst v) w) :
    if Region.wanted o (yielded ops a.tmps) = true then Oper.wp P o a w K Q else E := by
  have hw : Region.wanted o (yielded ops a.tmps) = true := by simp [Region.wanted, hg]
  rw [if_pos hw]
  have hrun := run_append_owned_none (P := P) (w := w) base t o.type e i size h1 h2 v k xs hown
  unfold Oper.wp
  simp [execOp, hop, resolve, invoke, builtin, hs, hx, hrun, Result.andThen]
  exact hK
theorem info_mod : (Tryd.prog.info? 25).map (fun i => (i.zero, i.size, i.bytes)) = some (some (.agg #[.int .u8 0, .slice none 0 0]), 2, 32) := by kernel_rfl
/-- The cells of modules whose args are given. -/
def modC : List Md → List Value → List Value
  | m :: l, v :: vs => .int .u8 m.c.toNat :: v :: modC l vs
  | _, _ => []
theorem modC_length : ∀ (l : List Md) (vs : List Value), l.length = vs.length → (modC l vs).length = l.length * 2
  | [], [], _ => rfl
  | m :: l, v :: vs, h => by
    have := modC_length l vs (by simpa using h)
    simp [modC, this]; omega
  | [], _ :: _, h => by simp at h
  | _ :: _, [], h => by simp at h
theorem modC_snoc : ∀ (l : List Md) (vs : List Value) (m : Md) (v : Value), l.length = vs.length → modC (l ++ [m]) (vs ++ [v]) = modC l vs ++ [.int .u8 m.c.toNat, v]
  | [], [], m, v, _ => rfl
  | a :: l, b :: vs, m, v, h => by
    have := modC_snoc l vs m v (by simpa using h)
    simp [modC, this]
  | [], _ :: _, _, _, h => by simp at h
  | _ :: _, [], _, _, h => by simp at h
theorem modC_get : ∀ (l : List Md) (vs : List Value) (k : Nat) (h1 : k < l.length) (h2 : k < vs.length), (modC l vs)[k * 2]? = some (.int .u8 l[k].c.toNat) ∧ (modC l vs)[k * 2 + 1]? = some vs[k]
  | m :: l, v :: vs, 0, _, _ => ⟨rfl, rfl⟩
  | m :: l, v :: vs, k + 1, h1, h2 => by
    have := modC_get l vs k (by simpa using h1) (by simpa using h2)
    have e : (k + 1) * 2 = k * 2 + 1 + 1 := by omega
    simp only [modC, e, List.getElem?_cons_succ, List.getElem_cons_succ]
    exact this
/-- Args in memory of the call's own. -/
structure ArgOwn (w : World) (base : Nat) (rb : Option Nat) (v : Value) (a : List Int) : Prop where
  own : w.ownsRow base 3 1 v a.length (valsL a)
  some : ∃ b cap, v = .slice (Option.some ⟨b, 0, Option.none⟩) a.length cap ∧ base ≤ b ∧ b < w.heap.size
  apart : v.ownBlock ≠ rb
/-- A word in memory of the call's own. -/
structure ModOwn (w : World) (base : Nat) (v : Value) (l : List Md) (vs : List Value) : Prop where
  len : vs.length = l.length
  row : w.ownsRow base 25 2 v l.length (modC l vs)
  args : ∀ k, (h : k < l.length) → (h2 : k < vs.length) → ArgOwn w base v.ownBlock vs[k] l[k].a
theorem ArgOwn.ints {w : World} {base : Nat} {rb : Option Nat} {v : Value} {a : List Int} (h : ArgOwn w base rb v a) : Ints w v a := ints_of_owned h.own
theorem ModOwn.mods {w : World} {base : Nat} {v : Value} {l : List Md} {vs : List Value} (h : ModOwn w base v l vs) : Mods w v l := by
  rcases Nat.eq_zero_or_pos l.length with h0 | h0
  · have e : l = [] := List.length_eq_zero_iff.1 h0
    subst e
    rcases h.row.2 with ⟨hv, _⟩ | ⟨g, cap, cur, hv, _⟩
    · rw [hv]; exact .none _ _
    · rw [hv]; exact .none _ _
  · rcases h.row.2 with ⟨_, h1⟩ | ⟨g, cap, cur, hv, hb, hg, hc1, hc2, hsz, htake⟩
    · omega
    · rw [hv]
      have hcell : ∀ j, j < l.length * 2 → w.cell? ⟨g, j, none⟩ = (modC l vs)[j]? := by
        intro j hj
        rw [← htake, List.getElem?_take_of_lt hj, Array.getElem?_toList]
        simp [World.cell?, hg]
      refine .some g 0 cap l h0 (lt_of_block hg) fun i hi => ?_
      have hv2 : i < vs.length := by rw [h.len]; exact hi
      obtain ⟨g1, g2⟩ := modC_get l vs i hi hv2
      have ha := h.args i hi hv2
      obtain ⟨b, c, hb2, _⟩ := ha.some
      refine ⟨by rw [Nat.zero_add, hcell _ (by omega), g1], vs[i], by rw [Nat.zero_add, hcell _ (by omega), g2], ha.ints, .inr ⟨_, _, _, hb2⟩⟩
/-- Args are as they were in a world that has grown otherwise. -/
theorem ArgOwn.kept {w w' : World} {base : Nat} {rb rb' row : Option Nat} {v : Value} {a : List Int} (h : ArgOwn w base rb v a) (hg : w.grownBy w' row) (hne : v.ownBlock ≠ row) (hr : v.ownBlock ≠ rb') : ArgOwn w' base rb' v a := by
  obtain ⟨b, c, hb, h1, h2⟩ := h.some
  exact ⟨h.own.kept hg (.inr hne), ⟨b, c, hb, h1, Nat.lt_of_lt_of_le h2 hg.size⟩, hr⟩
/-- Where Twin stands. -/
structure TwAt (w : World) (l : List Md) (k : Nat) (v : Value) (wr : World) : Prop where
  hi : k ≤ l.length
  below : Below w.heap.size w wr
  own : ∃ vs, ModOwn wr w.heap.size v (l.take k) vs
theorem twAt_start (w : World) (l : List Md) : TwAt w l 0 (.slice none 0 0) w :=
  ⟨Nat.zero_le _, Below.refl _ _, [], by simp, by simpa [modC] using World.ownsRow_nil w w.heap.size 25 2, fun k h _ => by simp at h⟩
theorem owns_mono {w : World} {b b' n size : Nat} {e : TypeId} {v : Value} {xs : List Value} (h : w.ownsRow b e size v n xs) (hb : b' ≤ b) : w.ownsRow b' e size v n xs := by
  refine ⟨h.1, ?_⟩
  rcases h.2 with h2 | ⟨g, cap, cur, h1, h2, h3⟩
  · exact .inl h2
  · exact .inr ⟨g, cap, cur, h1, by omega, h3⟩
theorem owns_lt {w : World} {b n size : Nat} {e : TypeId} {v : Value} {xs : List Value} (h : w.ownsRow b e size v n xs) : ∀ g, v.ownBlock = some g → b ≤ g ∧ g < w.heap.size := by
  intro g hg
  rcases h.2 with ⟨h2, _⟩ | ⟨g', cap, cur, h1, h2, h3, _⟩
  · rw [h2] at hg; simp [Value.ownBlock] at hg
  · rw [h1] at hg; simp [Value.ownBlock] at hg; subst hg; exact ⟨h2, lt_of_block h3⟩
theorem grown_of_below {X Y : World} (h : Below X.heap.size X Y) (row : Option Nat) : X.grownBy Y row := ⟨h.os, h.tape, h.output, h.size, fun k hk _ => h.block k hk⟩
theorem twAt_step {w wr X1 X2 X3 X4 : World} {l : List Md} {k : Nat} {v v1 v2 : Value} {vs : List Value} (hk : k < l.length) (hB : Below w.heap.size w wr) (hO : ModOwn wr w.heap.size v (l.take k) vs)
    (e1 : Below wr.heap.size wr X1) (s1 : X1.heap.size = wr.heap.size + 1)
    (o1 : X2.ownsRow wr.heap.size 3 1 v1 l[k].a.length (valsL l[k].a)) (g1 : X1.grownBy X2 (some wr.heap.size)) (hv1 : ∃ b cap, v1 = .slice (some ⟨b, 0, none⟩) l[k].a.length cap) (b1 : v1.ownBlock = some wr.heap.size ∨ v1.ownBlock = some X1.heap.size)
    (e3 : Below X2.heap.size X2 X3) (s3 : X2.heap.size < X3.heap.size)
    (o4 : X4.ownsRow w.heap.size 25 2 v2 (k + 1) (modC (l.take k) vs ++ [.int .u8 l[k].c.toNat, v1])) (g4 : X3.grownBy X4 v.ownBlock) (b4 : v2.ownBlock = v.ownBlock ∨ v2.ownBlock = some X3.heap.size) :
    TwAt w l (k + 1) v2 X4 := by
  have hlen : (l.take k).length = k := by rw [List.length_take]; omega
  have hvl := owns_lt hO.row
  have z1 := hB.size
  have z2 := g1.size
  have z3 := e3.size
  have z4 := g4.size
  have b12 : Below w.heap.size w X2 := (hB.trans (e1.mono z1)).grown g1 (by omega) (fun j e => by cases e; exact z1)
  have b13 : Below w.heap.size w X3 := b12.trans (e3.mono b12.size)
  have b14 : Below w.heap.size w X4 := b13.grown g4 b13.size (fun j e => (hvl j e).1)
  have hg0 : v.ownBlock ≠ some wr.heap.size := fun e => by have := (hvl _ e).2; omega
  -- the new args
  have a1 : ArgOwn X2 w.heap.size v.ownBlock v1 l[k].a := by
    obtain ⟨b, cap, hb⟩ := hv1
    have hb2 := owns_lt o1 b (by rw [hb]; rfl)
    refine ⟨owns_mono o1 z1, ⟨b, cap, hb, by omega, hb2.2⟩, fun e => ?_⟩
    have h3 : v.ownBlock = some b := by rw [← e, hb]; rfl
    have := (hvl b h3).2
    omega
  have n1 : v1.ownBlock ≠ v2.ownBlock := by
    obtain ⟨b, cap, hb⟩ := hv1
    have hb2 := owns_lt o1 b (by rw [hb]; rfl)
    intro e
    have e5 : v1.ownBlock = some b := by rw [hb]; rfl
    rcases b4 with h | h
    · have := (hvl b (by rw [← h, ← e, e5])).2; omega
    · rw [e5, h] at e
      have := Option.some.inj e; omega
  have a1' : ArgOwn X4 w.heap.size v2.ownBlock v1 l[k].a :=
    (a1.kept (rb' := v.ownBlock) (grown_of_below e3 none) (by obtain ⟨b, cap, hb⟩ := hv1; rw [hb]; simp [Value.ownBlock]) a1.apart).kept g4 a1.apart n1
  refine ⟨hk, b14, vs ++ [v1], ?_⟩
  have ht : l.take (k + 1) = l.take k ++ [l[k]] := by rw [List.take_add_one, List.getElem?_eq_getElem hk]; rfl
  have hl2 : (l.take (k + 1)).length = k + 1 := by rw [List.length_take]; omega
  refine ⟨by rw [List.length_append, hO.len, hlen, hl2]; rfl, ?_, ?_⟩
  · rw [hl2, ht, modC_snoc _ _ _ _ (by rw [hO.len])]; exact o4
  · intro j hj hj2
    rw [hl2] at hj
    rcases Nat.lt_or_eq_of_le (Nat.le_of_lt_succ hj) with h | h
    · have hj3 : j < (l.take k).length := by rw [hlen]; exact h
      have hj4 : j < vs.length := by rw [hO.len]; exact hj3
      have e5 : (l.take (k + 1))[j] = (l.take k)[j] := by simp
      have e6 : (vs ++ [v1])[j] = vs[j] := List.getElem_append_left hj4
      rw [e5, e6]
      have A := hO.args j hj3 hj4
      obtain ⟨b, cap, hb, q1, q2⟩ := A.some
      have ob : vs[j].ownBlock = some b := by rw [hb]; rfl
      have m1 : vs[j].ownBlock ≠ v2.ownBlock := by
        intro e
        rcases b4 with h | h
        · exact A.apart (e.trans h)
        · rw [ob, h] at e
          have := Option.some.inj e; omega
      refine (((A.kept (rb' := v.ownBlock) (grown_of_below e1 none) (by rw [ob]; simp) A.apart).kept (rb' := v.ownBlock) g1 (by rw [ob]; intro e; have := Option.some.inj e; omega) A.apart).kept (rb' := v.ownBlock) (grown_of_below e3 none) (by rw [ob]; simp) A.apart).kept g4 A.apart m1
    · subst h
      have e5 : (l.take (j + 1))[j] = l[j] := by simp
      have e6 : (vs ++ [v1])[j]'hj2 = v1 := by
        rw [List.getElem_append_right (by rw [hO.len, hlen]; omega)]
        simp
      rw [e5, e6]; exact a1'
theorem two_new (w : World) (x y : Value) (t : TypeId) : ∀ j u, [x, y][j]? = some u → (w.alloc (.cells #[x, y] t)).cell? ((⟨w.heap.size, 0, none⟩ : Addr).add j) = some u := by
  intro j u h
  have e := heap_alloc_new w (.cells #[x, y] t)
  match j, h with
  | 0, h => simp at h; subst h; exact cell_two0 e
  | 1, h => simp at h; subst h; exact cell_two1 e
  | j + 2, h => simp at h
theorem owned_shape {w : World} {base n size : Nat} {e : TypeId} {v : Value} {xs : List Value} (h : w.ownsRow base e size v n xs) (hn : v ≠ .slice none 0 0) : ∃ b cap, v = .slice (some ⟨b, 0, none⟩) n cap := by
  rcases h.2 with ⟨h2, _⟩ | ⟨g, cap, cur, h1, _⟩
  · exact absurd h2 hn
  · exact ⟨g, cap, h1⟩
theorem vals_one (l : List Int) : ∀ u ∈ valsL l, u.oneCell' = true := by
  intro u hu
  simp [valsL] at hu
  obtain ⟨x, _, rfl⟩ := hu
  rfl
theorem ints_cells {w : World} {ad : Addr} {n c : Nat} {a : List Int} (h : Ints w (.slice (some ad) n c) a) : ∀ W, Below w.heap.size w W → ∀ j u, (valsL a)[j]? = some u → W.cell? (ad.add j) = some u := by
  intro W hb j u hu
  have hj : j < a.length := by
    have := (List.getElem?_eq_some_iff.1 hu).1
    simpa [valsL] using this
  obtain ⟨b, off, cap, hv, hc, _⟩ := (h.later hb).at hj
  cases hv
  have e : (valsL a)[j]? = some (.int .i64 a[j]) := by simp [valsL, hj]
  rw [e] at hu
  rw [show (⟨b, off, none⟩ : Addr).add j = ⟨b, off + j, none⟩ by simp [Addr.add], hc]; exact hu
theorem far_cell {X Y : World} {row : Option Nat} (hg : X.grownBy Y row) (a : Addr) (hlt : a.block < X.heap.size) (hne : some a.block ≠ row) : Y.cell? a = X.cell? a := by
  simp only [World.cell?, hg.block a.block hlt hne]
end Go.Proofs.YtepoaobjcpgilaaDoor
