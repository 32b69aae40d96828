/-
  Texts of the proof, merged: ZWordInts, ZWordMem, ZWordRefA, ZWordOwn, ZWordRefB, ZWordRefC.
-/
import Derived.Test.YtcoljbcjnggagaaGreatDoorZContextBackProofM1
import Derived.Test.YtcoljbcjnggagaaGreatDoorChecked
import Derived.WalkKit
import Derived.WalkSmall
import Derived.Lib.Hide
import Derived.Laws.MakeOwn
import Derived.Laws.AppendOwn
import Derived.OwnWalk
import Derived.Maps.AppendAt
import Derived.BigQuiet
import Derived.BigRegion
import Derived.Deep.QuietTactic
import Derived.Lib.QuietBelow
namespace Go.Proofs.YtcoljbcjnggagaaGreatDoor
open Go.RowKit
set_option linter.unusedVariables false
set_option linter.unusedSimpArgs false

/-- A string's bytes as a list, and a list as a string. -/
def lA (s : ByteArray) : List UInt8 := s.data.toList
def bA (l : List UInt8) : ByteArray := ⟨l.toArray⟩
theorem lA_bA (l : List UInt8) : lA (bA l) = l := by simp [lA, bA]
theorem bA_lA (s : ByteArray) : bA (lA s) = s := rfl
theorem lA_len (s : ByteArray) : (lA s).length = s.size := by simp only [lA, Array.length_toList]; rfl
theorem lA_get (s : ByteArray) (k : Nat) (h : k < s.size) (h' : k < (lA s).length) : (lA s)[k]'h' = s[k]'h := rfl
theorem lA_inj {a b : ByteArray} (h : lA a = lA b) : a = b := ByteArray.ext (Array.toList_inj.1 h)
theorem lA_snoc (s : ByteArray) (k : Nat) (h : k < s.size) : (lA s).take (k + 1) = (lA s).take k ++ [s[k]] := by
  have hl : k < (lA s).length := by rw [lA_len]; exact h
  rw [List.take_add_one, List.getElem?_eq_getElem hl, lA_get s k h hl]; rfl
theorem lA_all (s : ByteArray) : (lA s).take s.size = lA s := by rw [← lA_len]; exact List.take_length
theorem ret_bool {a b : Bool} (h : a = b) : Ending.returned (.bool a) = .returned (.bool b) := by rw [h]
theorem ret_int {k : IntKind} {a b : Int} (h : a = b) : Ending.returned (.int k a) = .returned (.int k b) := by rw [h]
theorem ret_str {a b : ByteArray} (h : a = b) : Ending.returned (.string a) = .returned (.string b) := by rw [h]

/-- A slice's numbers, which may be none. -/
inductive Ints (w : World) : Value → List Int → Prop
  | none (p : Option Addr) (cap : Nat) : Ints w (.slice p 0 cap) []
  | some (b off cap : Nat) (l : List Int) (hpos : 0 < l.length) (hb : b < w.heap.size)
      (h : ∀ i, (h : i < l.length) → w.cell? ⟨b, off + i, Option.none⟩ = Option.some (.int .i64 l[i])) :
      Ints w (.slice (Option.some ⟨b, off, Option.none⟩) l.length cap) l
theorem Ints.later {w w1 : World} {v : Value} {l : List Int} (h : Ints w v l) (hb : Below w.heap.size w w1) : Ints w1 v l := by
  cases h with
  | none p cap => exact .none p cap
  | some b off cap _ hpos hlt hx =>
    exact .some b off cap l hpos (Nat.lt_of_lt_of_le hlt hb.size) fun i hi => (hb.cell (p := ⟨b, off + i, Option.none⟩) hlt).trans (hx i hi)
theorem Ints.slice {w : World} {v : Value} {l : List Int} (h : Ints w v l) : ∃ p cap, v = .slice p l.length cap := by
  cases h with
  | none p cap => exact ⟨p, cap, rfl⟩
  | some b off cap _ _ _ _ => exact ⟨_, cap, rfl⟩

theorem Ints.at {w : World} {v : Value} {l : List Int} (h : Ints w v l) {k : Nat} (hk : k < l.length) :
    ∃ b off cap, v = .slice (Option.some ⟨b, off, Option.none⟩) l.length cap ∧ w.cell? ⟨b, off + k, Option.none⟩ = Option.some (.int .i64 l[k]) ∧ b < w.heap.size := by
  cases h with
  | none p cap => simp at hk
  | some b off cap _ _ hb hx => exact ⟨b, off, cap, rfl, hx k hk, hb⟩
/-- A row of numbers of the call's own. -/
structure RowI (w : World) (b : Nat) (l : List Int) : Prop where
  row : ∃ cs : Array Value, w.heap[b]? = some (.cells cs 3 (0, 0)) ∧ l.length ≤ cs.size ∧ ∀ i, (h : i < l.length) → cs[i]? = some (.int .i64 l[i])
theorem RowI.lt {w : World} {b : Nat} {l : List Int} (h : RowI w b l) : b < w.heap.size := let ⟨_, h1, _⟩ := h.row; lt_of_block h1
theorem RowI.cell {w : World} {b : Nat} {l : List Int} (h : RowI w b l) {i : Nat} (hi : i < l.length) : w.cell? ⟨b, i, none⟩ = some (.int .i64 l[i]) := by
  obtain ⟨cs, h1, h2, h3⟩ := h.row
  simp only [World.cell?, h1]; simpa using h3 i hi
theorem RowI.free {w : World} {b : Nat} {l : List Int} (h : RowI w b l) (i : Nat) : w.frozen? ⟨b, i, none⟩ = false := by
  obtain ⟨cs, h1, h2, h3⟩ := h.row
  simp [World.frozen?, h1]
theorem RowI.of_block {w w1 : World} {b : Nat} {l : List Int} (h : RowI w b l) (he : w1.heap[b]? = w.heap[b]?) : RowI w1 b l := by
  obtain ⟨cs, h1, h2, h3⟩ := h.row
  exact ⟨cs, he.trans h1, h2, h3⟩
theorem RowI.later {w w1 : World} {b : Nat} {l : List Int} (h : RowI w b l) (hb : Below w.heap.size w w1) : RowI w1 b l := h.of_block (hb.block _ h.lt)
theorem RowI.other {w : World} {b : Nat} {l : List Int} (h : RowI w b l) {p : Addr} (hp : b ≠ p.block) (x : Value) : RowI (w.setCell p x) b l := h.of_block (Below.heap_setCell _ _ _ _ hp)
theorem RowI.set {w : World} {b : Nat} {l : List Int} (h : RowI w b l) {i : Nat} (hi : i < l.length) (x : Int) : RowI (w.setCell ⟨b, i, none⟩ (.int .i64 x)) b (l.set i x) := by
  obtain ⟨cs, h1, h2, h3⟩ := h.row
  refine ⟨cs.setIfInBounds i (.int .i64 x), ?_, by simpa using h2, fun j hj => ?_⟩
  · simp only [World.setCell, Array.getElem?_modify, if_true, h1]; rfl
  · rw [List.length_set] at hj
    rw [Array.getElem?_setIfInBounds, List.getElem_set]
    by_cases hij : i = j
    · subst hij; simp; omega
    · rw [if_neg hij, if_neg hij]; exact h3 j hj
theorem RowI.ints {w : World} {b : Nat} {l : List Int} (h : RowI w b l) (cap : Nat) : Ints w (.slice (some ⟨b, 0, none⟩) l.length cap) l := by
  rcases Nat.eq_zero_or_pos l.length with h0 | h0
  · have : l = [] := List.length_eq_zero_iff.1 h0
    subst this; exact .none _ _
  · exact .some b 0 cap l h0 h.lt fun i hi => by rw [Nat.zero_add]; exact h.cell hi
/-- A row as make lays it. -/
def zeros (n : Nat) : Array Value := madeCells #[.int .i64 0] n
theorem zeros_at {n i : Nat} (h : i < n) : (zeros n)[i]? = some (.int .i64 0) := by
  unfold zeros madeCells
  rw [Array.getElem?_map, Array.getElem?_range, if_pos h]
  simp [Nat.mod_one]
theorem zeros_size (n : Nat) : (zeros n).size = n := size_madeCells _ _
theorem made_run (n : Nat) (hn : n ≤ 1000) (w : World) : (Instr.makeSlice 43 (.int .i64 (n : Int)) (.int .i64 (n : Int))).run Tryz.prog w = .ok (.slice (some ⟨w.heap.size, 0, none⟩) n n) (w.alloc (.cells (zeros n) 3)) := by
  have := run_make (P := Tryz.prog) w 43 3 Tryz.t3 (.int .i64 0) Tryz.underlying43 (by kernel_rfl) (by kernel_rfl) .i64 .i64 n n (by omega) (Int.le_refl _) (by show ((8 : Nat) : Int) * (n : Int) ≤ _; omega) (by omega)
  rw [this]; simp only [zeros, Value.cells, Int.toNat_natCast, show (Tryz.t3).size = 1 from rfl, Nat.mul_one]
theorem made_row (n : Nat) (w : World) : RowI (w.alloc (.cells (zeros n) 3)) w.heap.size (List.replicate n 0) := by
  refine ⟨zeros n, heap_alloc_new _ _, by simp [zeros_size], fun i hi => ?_⟩
  rw [List.length_replicate] at hi
  rw [zeros_at hi, List.getElem_replicate]

theorem one_setCell {w : World} {b : Nat} {x : Value} {t : TypeId} (h : w.heap[b]? = some (.cells #[x] t (0, 0))) (u : Value) :
    (w.setCell ⟨b, 0, none⟩ u).heap[b]? = some (.cells #[u] t (0, 0)) := by
  simp only [World.setCell, Array.getElem?_modify, if_true, h]
  rfl
theorem free_one {w : World} {b : Nat} {x : Value} {t : TypeId} (h : w.heap[b]? = some (.cells #[x] t (0, 0))) : w.frozen? ⟨b, 0, none⟩ = false := by simp [World.frozen?, h]
end Go.Proofs.YtcoljbcjnggagaaGreatDoor
namespace Go.Proofs.YtcoljbcjnggagaaGreatDoor
open Go.RowKit
open WM
set_option linter.unusedVariables false
set_option linter.unusedSimpArgs false

/-- A slice that is nil, or lies somewhere. -/
def NilOr (v : Value) : Prop := v = .slice none 0 0 ∨ ∃ ad n c, v = .slice (some ad) n c
/-- A slice's modules, which may be none. -/
inductive Mods (w : World) : Value → List Md → Prop
  | none (p : Option Addr) (cap : Nat) : Mods w (.slice p 0 cap) []
  | some (b off cap : Nat) (l : List Md) (hpos : 0 < l.length) (hb : b < w.heap.size)
      (h : ∀ i, (h : i < l.length) → w.cell? ⟨b, off + i * 2, Option.none⟩ = Option.some (.int .u8 l[i].c.toNat) ∧
        ∃ v, w.cell? ⟨b, off + i * 2 + 1, Option.none⟩ = Option.some v ∧ Ints w v l[i].a ∧ NilOr v) :
      Mods w (.slice (Option.some ⟨b, off, Option.none⟩) l.length cap) l
theorem Mods.later {w w1 : World} {v : Value} {l : List Md} (h : Mods w v l) (hb : Below w.heap.size w w1) : Mods w1 v l := by
  cases h with
  | none p cap => exact .none p cap
  | some b off cap _ hpos hlt hx =>
    refine .some b off cap l hpos (Nat.lt_of_lt_of_le hlt hb.size) fun i hi => ?_
    obtain ⟨h1, v, h2, h3, h4⟩ := hx i hi
    exact ⟨(hb.cell (p := ⟨b, off + i * 2, Option.none⟩) hlt).trans h1, v, (hb.cell (p := ⟨b, off + i * 2 + 1, Option.none⟩) hlt).trans h2, h3.later hb, h4⟩
theorem Mods.slice {w : World} {v : Value} {l : List Md} (h : Mods w v l) : ∃ p cap, v = .slice p l.length cap := by
  cases h with
  | none p cap => exact ⟨p, cap, rfl⟩
  | some b off cap _ _ _ _ => exact ⟨_, cap, rfl⟩
theorem Mods.at {w : World} {v : Value} {l : List Md} (h : Mods w v l) {k : Nat} (hk : k < l.length) :
    ∃ b off cap p c, v = .slice (Option.some ⟨b, off, Option.none⟩) l.length cap ∧ w.cell? ⟨b, off + k * 2, Option.none⟩ = Option.some (.int .u8 l[k].c.toNat) ∧
      w.cell? ⟨b, off + k * 2 + 1, Option.none⟩ = Option.some (.slice p l[k].a.length c) ∧ Ints w (.slice p l[k].a.length c) l[k].a ∧ b < w.heap.size := by
  cases h with
  | none p cap => simp at hk
  | some b off cap _ _ hb hx =>
    obtain ⟨h1, v, h2, h3, _⟩ := hx k hk
    obtain ⟨p, c, rfl⟩ := h3.slice
    exact ⟨b, off, cap, p, c, rfl, h1, h2, h3, hb⟩
theorem Mods.at2 {w : World} {v : Value} {l : List Md} (h : Mods w v l) {k : Nat} (hk : k < l.length) :
    ∃ b off cap p c, v = .slice (Option.some ⟨b, off, Option.none⟩) l.length cap ∧ w.cell? ⟨b, off + k * 2, Option.none⟩ = Option.some (.int .u8 l[k].c.toNat) ∧
      w.cell? ⟨b, off + k * 2 + 1, Option.none⟩ = Option.some (.slice p l[k].a.length c) ∧ Ints w (.slice p l[k].a.length c) l[k].a ∧ b < w.heap.size ∧ (p = Option.none → l[k].a.length = 0 ∧ c = 0) := by
  cases h with
  | none p cap => simp at hk
  | some b off cap _ _ hb hx =>
    obtain ⟨h1, v, h2, h3, h4⟩ := hx k hk
    obtain ⟨p, c, rfl⟩ := h3.slice
    refine ⟨b, off, cap, p, c, rfl, h1, h2, h3, hb, fun hp => ?_⟩
    rcases h4 with h | ⟨ad, n, c', h⟩
    · simp only [Value.slice.injEq] at h; exact ⟨h.2.1, h.2.2⟩
    · rw [hp] at h; simp at h
end Go.Proofs.YtcoljbcjnggagaaGreatDoor
namespace Go.Proofs.YtcoljbcjnggagaaGreatDoor
open Go.RowKit
open WM
set_option linter.unusedVariables false
set_option linter.unusedSimpArgs false

def nmS : ByteArray := ⟨#[43, 45, 38, 94, 124, 33, 91, 93]⟩
theorem u8_eq {x y : UInt8} : ((x.toNat : Int) == (y.toNat : Int)) = (x == y) := by
  rw [Bool.eq_iff_iff]; simp only [beq_iff_eq]
  constructor
  · intro h; exact UInt8.toNat_inj.1 (by omega)
  · intro h; rw [h]
theorem nm_none {c : UInt8} (h : ∀ i, (hi : i < nmS.size) → (nmS[i]'hi == c) = false) : (c == 43 || c == 45 || c == 38 || c == 94 || c == 124 || c == 33 || c == 91 || c == 93) = false := by
  have e := fun i hi => beq_eq_false_iff_ne.1 (h i hi)
  have h0 := e 0 (by decide)
  have h1 := e 1 (by decide)
  have h2 := e 2 (by decide)
  have h3 := e 3 (by decide)
  have h4 := e 4 (by decide)
  have h5 := e 5 (by decide)
  have h6 := e 6 (by decide)
  have h7 := e 7 (by decide)
  simp only [Bool.or_eq_false_iff, beq_eq_false_iff_ne]
  exact ⟨⟨⟨⟨⟨⟨⟨Ne.symm h0, Ne.symm h1⟩, Ne.symm h2⟩, Ne.symm h3⟩, Ne.symm h4⟩, Ne.symm h5⟩, Ne.symm h6⟩, Ne.symm h7⟩
theorem nm_some {c : UInt8} {i : Nat} (hi : i < nmS.size) (h : (nmS[i]'hi == c) = true) : letB c = true := by
  have h8 : i < 8 := hi
  have e := beq_iff_eq.1 h
  subst e
  have : ∀ i : Fin 8, letB (nmS[i.1]'(by exact i.2)) = true := by decide +kernel
  exact this ⟨i, h8⟩
set_option maxHeartbeats 400000 in
theorem letter_any (c : UInt8) (w : World) : Calls Tryz.prog 92 #[.int .u8 c.toNat] w fun e w' => e = .returned (.bool (letB c)) ∧ w = w' := by
  have hc := c.toNat_lt
  obtain ⟨s, hs⟩ : ∃ s : ByteArray, (⟨#[43, 45, 38, 94, 124, 33, 91, 93]⟩ : ByteArray) = s := ⟨_, rfl⟩
  have hss : nmS = s := hs
  have hs8 : s.size = 8 := by rw [← hs]; rfl
  go_enter Tryz.func92, Tryz.ntmps92
  go_wp2_with fail
  rw [hs]
  go_loop [4] (fun i => ∃ k : Nat, k ≤ 8 ∧ i = .int .i64 k ∧ ∀ j, (hj : j < s.size) → j < k → (s[j]'hj == c) = false) (fun i => 8 - (intOf i).toNat)
  case atStart => exact ⟨0, Nat.zero_le _, rfl, fun j _ h => by omega⟩
  case round =>
    obtain ⟨k, hk, rfl, hno⟩ := hrel
    have HN := Lib.hid hno
    clear hno
    by_cases hlt : k < 8
    · have hks : k < s.size := by omega
      obtain ⟨b, hb⟩ : ∃ b, s[k]'hks = b := ⟨_, rfl⟩
      cases he : (b == c) with
      | true =>
        have HL : Hid (letB c = true) := Lib.hid (by subst hss; exact nm_some hks (by rw [hb]; exact he))
        have e1 : ((s[k].toNat : Int) == (c.toNat : Int)) = true := by rw [u8_eq, hb]; exact he
        clear he hb
        go_wp2_with fail
        go_ret
        exact ⟨ret_bool HL.out.symm, rfl⟩
      | false =>
        have e1 : ((s[k].toNat : Int) == (c.toNat : Int)) = false := by rw [u8_eq, hb]; exact he
        have HG : Hid (∀ j, (hj : j < s.size) → j < k + 1 → (s[j]'hj == c) = false) := Lib.hid (fun j hj h => by
          rcases Nat.lt_or_eq_of_le (Nat.le_of_lt_succ h) with h1 | h1
          · exact HN.out j hj h1
          · subst h1; rw [hb]; exact he)
        clear he hb
        go_wp2_with fail
        go_round
        case rel => exact ⟨k + 1, by omega, by go_num, HG.out⟩
        case measure => simp [intOf]; omega
    · obtain rfl : k = 8 := by omega
      have hno : (c == 43 || c == 45 || c == 38 || c == 94 || c == 124 || c == 33 || c == 91 || c == 93) = false := by
        subst hss; exact nm_none fun i hi => HN.out i hi (by omega)
      have HL : Hid (letB c = ((decide (65 ≤ c.toNat) && decide (c.toNat ≤ 90)) || (decide (97 ≤ c.toNat) && decide (c.toNat ≤ 122)))) := Lib.hid (by unfold letB; rw [hno]; simp)
      clear hno HN hs hss
      by_cases c1 : (65 : Int) ≤ c.toNat
      · by_cases c2 : (c.toNat : Int) ≤ 90
        · go_wp2_with fail
          go_ret
          exact ⟨ret_bool (by rw [HL.out, Bool.eq_iff_iff]; simp only [Bool.or_eq_true, Bool.and_eq_true, decide_eq_true_eq]; first | omega | (simp; omega)), rfl⟩
        · by_cases c3 : (97 : Int) ≤ c.toNat
          · go_wp2_with fail
            go_ret
            exact ⟨ret_bool (by rw [HL.out, Bool.eq_iff_iff]; simp only [Bool.or_eq_true, Bool.and_eq_true, decide_eq_true_eq]; first | omega | (simp; omega)), rfl⟩
          · go_wp2_with fail
            go_ret
            exact ⟨ret_bool (by rw [HL.out, Bool.eq_iff_iff]; simp only [Bool.or_eq_true, Bool.and_eq_true, decide_eq_true_eq]; first | omega | (simp; omega)), rfl⟩
      · by_cases c3 : (97 : Int) ≤ c.toNat
        · go_wp2_with fail
          go_ret
          exact ⟨ret_bool (by rw [HL.out, Bool.eq_iff_iff]; simp only [Bool.or_eq_true, Bool.and_eq_true, decide_eq_true_eq]; first | omega | (simp; omega)), rfl⟩
        · go_wp2_with fail
          go_ret
          exact ⟨ret_bool (by rw [HL.out, Bool.eq_iff_iff]; simp only [Bool.or_eq_true, Bool.and_eq_true, decide_eq_true_eq]; first | omega | (simp; omega)), rfl⟩

/-- A module as a value. -/
def mdV (c : UInt8) (v : Value) : Value := .agg #[.int .u8 c.toNat, v]
theorem fine_let0 {m : Md} (h : letB m.c = false) : fineB m = false := by simp [fineB, h]
theorem fine_len {m : Md} (h : 4 < m.a.length) : fineB m = false := by
  have : decide (m.a.length ≤ 4) = false := decide_eq_false (by omega)
  simp [fineB, this]
theorem fine_bra {m : Md} (h : braB m.c = true) (h2 : 0 < m.a.length) : fineB m = false := by
  have : decide (0 < m.a.length) = true := decide_eq_true h2
  simp [fineB, h, this]
theorem fine_rng {m : Md} {k : Nat} (hk : k < m.a.length) (h : m.a[k] < -1000000000 ∨ 1000000000 < m.a[k]) : fineB m = false := by
  have : rngB m.a = false := by
    cases hr : rngB m.a
    · rfl
    · have := rngB_iff.1 hr _ (List.getElem_mem hk); omega
  simp [fineB, this]
theorem fine_all {m : Md} (h1 : letB m.c = true) (h2 : m.a.length ≤ 4) (h3 : braB m.c = false ∨ m.a.length = 0) (h4 : ∀ j, (h : j < m.a.length) → -1000000000 ≤ m.a[j] ∧ m.a[j] ≤ 1000000000) : fineB m = true := by
  have e2 : decide (m.a.length ≤ 4) = true := decide_eq_true h2
  have e3 : (braB m.c && decide (0 < m.a.length)) = false := by
    rcases h3 with h | h
    · rw [h]; rfl
    · rw [h]; simp
  have e4 : rngB m.a = true := rngB_iff.2 fun x hx => by
    obtain ⟨j, hj, rfl⟩ := List.mem_iff_getElem.1 hx
    exact h4 j hj
  simp [fineB, h1, e2, e3, e4]
set_option maxHeartbeats 800000 in
theorem fine_any (m : Md) (v : Value) (hm : m.a.length ≤ 9223372036854775807) (w : World) (hv : Ints w v m.a) : Calls Tryz.prog 75 #[.agg #[.int .u8 m.c.toNat, v]] w fun e w' => e = .returned (.bool (fineB m)) ∧ Below w.heap.size w w' := by
  obtain ⟨p, cap, rfl⟩ := hv.slice
  have HV := Lib.hid hv
  obtain ⟨W0, hW0⟩ : ∃ W, W = w.alloc (.cells #[.int .u8 m.c.toNat, .slice p m.a.length cap] 45) := ⟨_, rfl⟩
  have N0 : W0.heap[w.heap.size]? = some (.cells #[.int .u8 m.c.toNat, .slice p m.a.length cap] 45 (0, 0)) := by rw [hW0]; exact heap_alloc_new _ _
  have B0 : Below w.heap.size w W0 := by rw [hW0]; exact (Below.refl _ _).alloc (Nat.le_refl _) _
  have HB := Lib.hid B0
  have HV0 := Lib.hid (hv.later B0)
  have q0 := cell_two0 N0
  have q1 := cell_two1 N0
  have l1 := lt_of_block N0
  clear N0 B0 hv
  cases hl : letB m.c with
  | false =>
    have HF := Lib.hid (fine_let0 hl)
    have HC : Hid (∀ w, Calls Tryz.prog 92 #[.int .u8 m.c.toNat] w fun e w' => e = .returned (.bool false) ∧ w = w') := Lib.hid (fun w => by have := letter_any m.c w; rwa [hl] at this)
    clear hl
    go_enter Tryz.func75, Tryz.ntmps75
    go_wp2_with fail
    rw [← hW0]
    clear hW0
    go_wp2_with (go_at_call 92; refine (HC.out _).mono ?_; rintro e w2 ⟨rfl, rfl⟩)
    go_ret
    exact ⟨ret_bool HF.out.symm, HB.out⟩
  | true =>
    have HC : Hid (∀ w, Calls Tryz.prog 92 #[.int .u8 m.c.toNat] w fun e w' => e = .returned (.bool true) ∧ w = w') := Lib.hid (fun w => by have := letter_any m.c w; rwa [hl] at this)
    by_cases h4 : 4 < m.a.length
    · have HF := Lib.hid (fine_len h4)
      have h4' : (4 : Int) < (m.a.length : Int) := by omega
      clear hl
      go_enter Tryz.func75, Tryz.ntmps75
      go_wp2_with fail
      rw [← hW0]
      clear hW0
      go_wp2_with (go_at_call 92; refine (HC.out _).mono ?_; rintro e w2 ⟨rfl, rfl⟩)
      go_ret
      exact ⟨ret_bool HF.out.symm, HB.out⟩
    · have h4' : ¬ (4 : Int) < (m.a.length : Int) := by omega
      have HL := Lib.hid hl
      have walk : ∀ (t1 t2 : Bool), ((m.c.toNat : Int) == 91) = t1 → ((m.c.toNat : Int) == 93) = t2 → braB m.c = (t1 || t2) →
          Calls Tryz.prog 75 #[.agg #[.int .u8 m.c.toNat, .slice p m.a.length cap]] w fun e w' => e = .returned (.bool (fineB m)) ∧ Below w.heap.size w w' := by
        intro t1 t2 e1 e2 hb
        have HBr := Lib.hid hb
        clear hl hb
        by_cases hz : (t1 || t2) = true ∧ 0 < m.a.length
        · have HF := Lib.hid (fine_bra (HBr.out.trans hz.1) hz.2)
          have hz2 : (0 : Int) < (m.a.length : Int) := by omega
          have hz1 := hz.1
          clear hz
          cases t1 with
          | true =>
            go_enter Tryz.func75, Tryz.ntmps75
            go_wp2_with fail
            rw [← hW0]
            clear hW0
            go_wp2_with (go_at_call 92; refine (HC.out _).mono ?_; rintro e w2 ⟨rfl, rfl⟩)
            go_ret
            exact ⟨ret_bool HF.out.symm, HB.out⟩
          | false =>
            have hz3 : t2 = true := hz1
            subst hz3
            go_enter Tryz.func75, Tryz.ntmps75
            go_wp2_with fail
            rw [← hW0]
            clear hW0
            go_wp2_with (go_at_call 92; refine (HC.out _).mono ?_; rintro e w2 ⟨rfl, rfl⟩)
            go_ret
            exact ⟨ret_bool HF.out.symm, HB.out⟩
        · have hz3 : (t1 = false ∧ t2 = false) ∨ m.a.length = 0 := by
            rcases Nat.eq_zero_or_pos m.a.length with h | h
            · exact .inr h
            · left
              cases t1 <;> cases t2 <;> simp_all
          have HZ : Hid (braB m.c = false ∨ m.a.length = 0) := Lib.hid (by
            rcases hz3 with ⟨rfl, rfl⟩ | h
            · exact .inl HBr.out
            · exact .inr h)
          clear hz
          rcases hz3 with ⟨rfl, rfl⟩ | hl0
          · go_enter Tryz.func75, Tryz.ntmps75
            go_wp2_with fail
            rw [← hW0]
            clear hW0
            go_wp2_with (go_at_call 92; refine (HC.out _).mono ?_; rintro e w2 ⟨rfl, rfl⟩)
            go_loop [3] (fun i => ∃ k : Nat, k ≤ m.a.length ∧ i = .int .i64 k ∧ ∀ j, (h : j < m.a.length) → j < k → -1000000000 ≤ m.a[j] ∧ m.a[j] ≤ 1000000000) (fun i => m.a.length - (intOf i).toNat)
            case atStart => exact ⟨0, Nat.zero_le _, rfl, fun j _ h => by omega⟩
            case round =>
              obtain ⟨k, hk, rfl, hok⟩ := hrel
              have HK := Lib.hid hok
              clear hok
              by_cases hlt : k < m.a.length
              · obtain ⟨b, off, cap', hp, e1', lb⟩ := HV0.out.at hlt
                obtain rfl : p = some ⟨b, off, none⟩ := by cases hp; rfl
                obtain ⟨y, hy⟩ : ∃ y, m.a[k] = y := ⟨_, rfl⟩
                have HY : Hid (m.a[k] = y) := Lib.hid hy
                rw [hy] at e1'
                clear hp hy
                have k1 : (k : Int) < (m.a.length : Int) := by omega
                by_cases y1 : y < -1000000000
                · have HF := Lib.hid (fine_rng hlt (.inl (by rw [HY.out]; exact y1)))
                  go_wp2_with fail
                  go_ret
                  exact ⟨ret_bool HF.out.symm, HB.out⟩
                · by_cases y2 : 1000000000 < y
                  · have HF := Lib.hid (fine_rng hlt (.inr (by rw [HY.out]; exact y2)))
                    go_wp2_with fail
                    go_ret
                    exact ⟨ret_bool HF.out.symm, HB.out⟩
                  · have HG : Hid (∀ j, (h : j < m.a.length) → j < k + 1 → -1000000000 ≤ m.a[j] ∧ m.a[j] ≤ 1000000000) := Lib.hid (fun j h hj => by
                      rcases Nat.lt_or_eq_of_le (Nat.le_of_lt_succ hj) with h1 | h1
                      · exact HK.out j h h1
                      · subst h1; rw [HY.out]; omega)
                    go_wp2_with fail
                    go_round
                    case rel => exact ⟨k + 1, by omega, by go_num, HG.out⟩
                    case measure => simp [intOf]; omega
              · obtain rfl : k = m.a.length := by omega
                have HF := Lib.hid (fine_all HL.out (by omega) HZ.out fun j h => HK.out j h h)
                go_wp2_with fail
                go_ret
                exact ⟨ret_bool HF.out.symm, HB.out⟩
          · have hl1 : ¬ (0 : Int) < (m.a.length : Int) := by omega
            clear hl0
            cases t1 with
            | true =>
              go_enter Tryz.func75, Tryz.ntmps75
              go_wp2_with fail
              rw [← hW0]
              clear hW0
              go_wp2_with (go_at_call 92; refine (HC.out _).mono ?_; rintro e w2 ⟨rfl, rfl⟩)
              go_loop [3] (fun i => ∃ k : Nat, k ≤ m.a.length ∧ i = .int .i64 k ∧ ∀ j, (h : j < m.a.length) → j < k → -1000000000 ≤ m.a[j] ∧ m.a[j] ≤ 1000000000) (fun i => m.a.length - (intOf i).toNat)
              case atStart => exact ⟨0, Nat.zero_le _, rfl, fun j _ h => by omega⟩
              case round =>
                obtain ⟨k, hk, rfl, hok⟩ := hrel
                have HK := Lib.hid hok
                clear hok
                by_cases hlt : k < m.a.length
                · exfalso; omega
                · obtain rfl : k = m.a.length := by omega
                  have HF := Lib.hid (fine_all HL.out (by omega) HZ.out fun j h => HK.out j h h)
                  go_wp2_with fail
                  go_ret
                  exact ⟨ret_bool HF.out.symm, HB.out⟩
            | false =>
              cases t2 with
              | true =>
                go_enter Tryz.func75, Tryz.ntmps75
                go_wp2_with fail
                rw [← hW0]
                clear hW0
                go_wp2_with (go_at_call 92; refine (HC.out _).mono ?_; rintro e w2 ⟨rfl, rfl⟩)
                go_loop [3] (fun i => ∃ k : Nat, k ≤ m.a.length ∧ i = .int .i64 k ∧ ∀ j, (h : j < m.a.length) → j < k → -1000000000 ≤ m.a[j] ∧ m.a[j] ≤ 1000000000) (fun i => m.a.length - (intOf i).toNat)
                case atStart => exact ⟨0, Nat.zero_le _, rfl, fun j _ h => by omega⟩
                case round =>
                  obtain ⟨k, hk, rfl, hok⟩ := hrel
                  have HK := Lib.hid hok
                  clear hok
                  by_cases hlt : k < m.a.length
                  · exfalso; omega
                  · obtain rfl : k = m.a.length := by omega
                    have HF := Lib.hid (fine_all HL.out (by omega) HZ.out fun j h => HK.out j h h)
                    go_wp2_with fail
                    go_ret
                    exact ⟨ret_bool HF.out.symm, HB.out⟩
              | false =>
                go_enter Tryz.func75, Tryz.ntmps75
                go_wp2_with fail
                rw [← hW0]
                clear hW0
                go_wp2_with (go_at_call 92; refine (HC.out _).mono ?_; rintro e w2 ⟨rfl, rfl⟩)
                go_loop [3] (fun i => ∃ k : Nat, k ≤ m.a.length ∧ i = .int .i64 k ∧ ∀ j, (h : j < m.a.length) → j < k → -1000000000 ≤ m.a[j] ∧ m.a[j] ≤ 1000000000) (fun i => m.a.length - (intOf i).toNat)
                case atStart => exact ⟨0, Nat.zero_le _, rfl, fun j _ h => by omega⟩
                case round =>
                  obtain ⟨k, hk, rfl, hok⟩ := hrel
                  have HK := Lib.hid hok
                  clear hok
                  by_cases hlt : k < m.a.length
                  · exfalso; omega
                  · obtain rfl : k = m.a.length := by omega
                    have HF := Lib.hid (fine_all HL.out (by omega) HZ.out fun j h => HK.out j h h)
                    go_wp2_with fail
                    go_ret
                    exact ⟨ret_bool HF.out.symm, HB.out⟩
      exact walk _ _ rfl rfl (by
        rw [show (91 : Int) = ((91 : UInt8).toNat : Int) from rfl, show (93 : Int) = ((93 : UInt8).toNat : Int) from rfl, u8_eq, u8_eq]; rfl)

def greatB (l : List Md) : Bool := decide (2100 < l.length) || l.any fun m => decide (10 < m.a.length)
theorem great_no {l : List Md} (h : greatB l = false) : l.length ≤ 2100 ∧ ∀ m ∈ l, m.a.length ≤ 10 := by
  unfold greatB at h
  rw [Bool.or_eq_false_iff, decide_eq_false_iff_not, List.any_eq_false] at h
  refine ⟨by omega, fun m hm => ?_⟩
  have := h.2 m hm
  simpa using this
theorem great_long {l : List Md} (h : 2100 < l.length) : greatB l = true := by simp [greatB, h]
theorem great_args {l : List Md} {k : Nat} (hk : k < l.length) (h : 10 < l[k].a.length) : greatB l = true := by
  unfold greatB
  rw [Bool.or_eq_true]; right
  rw [List.any_eq_true]
  exact ⟨l[k], List.getElem_mem hk, by simpa using h⟩
theorem great_end {l : List Md} (h : l.length ≤ 2100) (h2 : ∀ j, (h : j < l.length) → l[j].a.length ≤ 10) : greatB l = false := by
  unfold greatB
  rw [Bool.or_eq_false_iff, decide_eq_false_iff_not, List.any_eq_false]
  refine ⟨by omega, fun m hm => ?_⟩
  obtain ⟨j, hj, rfl⟩ := List.mem_iff_getElem.1 hm
  have := h2 j hj
  simp; omega
set_option maxHeartbeats 800000 in
theorem great_any (v : Value) (l : List Md) (hmax : l.length ≤ 9223372036854775807) (w : World) (hv : Mods w v l) (hi : ∀ m ∈ l, m.a.length ≤ 9223372036854775807) :
    Calls Tryz.prog 47 #[v] w fun e w' => e = .returned (.bool (greatB l)) ∧ w = w' := by
  obtain ⟨p, cap, rfl⟩ := hv.slice
  have HV := Lib.hid hv
  have HI := Lib.hid hi
  clear hv hi
  by_cases hlen : 2100 < l.length
  · have HG := Lib.hid (great_long hlen)
    have c1 : (2100 : Int) < (l.length : Int) := by omega
    go_enter Tryz.func47, Tryz.ntmps47
    go_wp2_with fail
    go_ret
    exact ⟨ret_bool HG.out.symm, rfl⟩
  · have c1 : ¬ (2100 : Int) < (l.length : Int) := by omega
    go_enter Tryz.func47, Tryz.ntmps47
    go_wp2_with fail
    go_loop [3] (fun i => ∃ k : Nat, k ≤ l.length ∧ i = .int .i64 k ∧ ∀ j, (h : j < l.length) → j < k → l[j].a.length ≤ 10) (fun i => l.length - (intOf i).toNat)
    case atStart => exact ⟨0, Nat.zero_le _, rfl, fun j _ h => by omega⟩
    case round =>
      obtain ⟨k, hk, rfl, hok⟩ := hrel
      have HK := Lib.hid hok
      clear hok
      by_cases hlt : k < l.length
      · obtain ⟨b, off, cap', q, c, hp, e1, e2, _, lb⟩ := HV.out.at hlt
        obtain rfl : p = some ⟨b, off, none⟩ := by cases hp; rfl
        have hin := HI.out l[k] (List.getElem_mem hlt)
        by_cases hg : 10 < l[k].a.length
        · have HF := Lib.hid (great_args hlt hg)
          have c2 : (10 : Int) < (l[k].a.length : Int) := by omega
          clear hp e1
          generalize l[k].a.length = n at e2 hg c2 hin
          go_wp2_with fail
          go_ret
          exact ⟨ret_bool HF.out.symm, rfl⟩
        · have HG : Hid (∀ j, (h : j < l.length) → j < k + 1 → l[j].a.length ≤ 10) := Lib.hid (fun j h hj => by
            rcases Nat.lt_or_eq_of_le (Nat.le_of_lt_succ hj) with h1 | h1
            · exact HK.out j h h1
            · subst h1; omega)
          have c2 : ¬ (10 : Int) < (l[k].a.length : Int) := by omega
          clear hp e1
          generalize l[k].a.length = n at e2 hg c2 hin
          go_wp2_with fail
          go_round
          case rel => exact ⟨k + 1, by omega, by go_num, HG.out⟩
          case measure => simp [intOf]; omega
      · obtain rfl : k = l.length := by omega
        have HF := Lib.hid (great_end (by omega) fun j h => HK.out j h h)
        go_wp2_with fail
        go_ret
        exact ⟨ret_bool HF.out.symm, rfl⟩
end Go.Proofs.YtcoljbcjnggagaaGreatDoor
namespace Go.Proofs.YtcoljbcjnggagaaGreatDoor
open Go.RowKit
open WM
set_option linter.unusedVariables false
set_option linter.unusedSimpArgs false

theorem info_int : (Tryz.prog.info? 3).map (fun i => (i.zero, i.size, i.bytes)) = some (some (.int .i64 0), 1, 8) := by kernel_rfl
theorem info_parts {P : Program} {t : TypeId} {z : Value} {s b : Nat} (h : (P.info? t).map (fun i => (i.zero, i.size, i.bytes)) = some (some z, s, b)) : ∃ i, P.info? t = some i ∧ i.zero = some z ∧ i.size = s ∧ i.bytes = b := by
  cases hi : P.info? t with
  | none => rw [hi] at h; simp at h
  | some i => rw [hi] at h; simp at h; exact ⟨i, rfl, h.1, h.2.1, h.2.2⟩
def valsL (l : List Int) : List Value := l.map (Value.int .i64)
theorem row_of_owned {w : World} {base n : Nat} {v : Value} {l : List Int} (h : w.ownsRow base 3 1 v n (valsL l)) (hn : n ≠ 0) :
    ∃ g cap, v = .slice (some ⟨g, 0, none⟩) l.length cap ∧ base ≤ g ∧ RowI w g l := by
  obtain ⟨h1, h2⟩ := h
  have hl : l.length = n := by simpa [valsL] using h1
  rcases h2 with ⟨_, h0⟩ | ⟨g, cap, cur, hv, hb, hg, hc1, hc2, hsz, htake⟩
  · exact absurd h0 hn
  · refine ⟨g, cap, by rw [hl]; exact hv, hb, cur, hg, by rw [hsz, hl]; omega, fun i hi => ?_⟩
    have e : (cur.toList.take (n * 1))[i]? = (valsL l)[i]? := by rw [htake]
    rw [List.getElem?_take_of_lt (by omega)] at e
    rw [Array.getElem?_toList] at e
    rw [e]; simp [valsL, hi]
theorem grown_step {w wr w1 : World} {v : Value} {n : Nat} {xs : List Value} {e : TypeId} {tmp : Obj} (hB : Below w.heap.size w wr) (hown : wr.ownsRow w.heap.size e 1 v n xs) (hg : (wr.alloc tmp).grownBy w1 v.ownBlock) : Below w.heap.size w w1 :=
  (hB.alloc hB.size tmp).grown hg (by simp; have := hB.size; omega) fun j ej => (hown.lt j ej).1
theorem valsL_app (a b : List Int) : valsL (a ++ b) = valsL a ++ valsL b := by simp [valsL]
theorem ints_of_owned {w : World} {base : Nat} {v : Value} {l : List Int} (h : w.ownsRow base 3 1 v l.length (valsL l)) : Ints w v l := by
  rcases Nat.eq_zero_or_pos l.length with h0 | h0
  · have e : l = [] := List.length_eq_zero_iff.1 h0
    subst e
    rcases h.2 with ⟨hv, _⟩ | ⟨g, cap, cur, hv, _⟩
    · rw [hv]; exact .none _ _
    · rw [hv]; exact .none _ _
  · obtain ⟨g, cap, rfl, _, hr⟩ := row_of_owned h (by omega)
    exact hr.ints cap
end Go.Proofs.YtcoljbcjnggagaaGreatDoor
namespace Go.Proofs.YtcoljbcjnggagaaGreatDoor
open Go.RowKit
open WM
set_option linter.unusedVariables false
set_option linter.unusedSimpArgs false

theorem dep_hi (l : List Md) : ∀ k, k ≤ l.length → dep (l.take k) ≤ k := by
  intro k
  induction k with
  | zero => intro _; simp [dep_nil]
  | succ k ih =>
    intro h
    have h1 := ih (by omega)
    rw [dep_snoc (by omega)]
    rcases dlt_cases l[k] with e | e | e <;> rw [e] <;> omega
/-- How Open ends. -/
def OpEnd (l : List Md) (w : World) (e : Ending) (w' : World) : Prop :=
  Below w.heap.size w w' ∧ ((okB l l.length = false ∧ e = .returned (.tuple #[.slice none 0 0, .bool false])) ∨ (okB l l.length = true ∧ ∃ v, e = .returned (.tuple #[v, .bool true]) ∧ Ints w' v (opnL l l.length)))
/-- Where Open stands. -/
structure OpAt (w : World) (l : List Md) (k : Nat) (v : Value) (wr : World) : Prop where
  hi : k ≤ l.length
  ok : okB l k = true
  own : wr.ownsRow w.heap.size 3 1 v k (valsL (opnL l k))
  below : Below w.heap.size w wr
theorem OpAt.rng {w wr : World} {l : List Md} {k : Nat} {v : Value} (h : OpAt w l k v wr) : 0 ≤ dep (l.take k) ∧ dep (l.take k) ≤ k := by
  refine ⟨?_, dep_hi l k h.hi⟩
  rcases Nat.eq_zero_or_pos k with h0 | h0
  · subst h0; simp [dep_nil]
  · have := okB_iff.1 h.ok (k - 1) (by omega)
    rwa [show k - 1 + 1 = k by omega] at this
set_option maxRecDepth 100000 in
set_option maxHeartbeats 1600000 in
theorem open_any (v : Value) (l : List Md) (hmax : l.length ≤ 2100) (w : World) (hv : Mods w v l) :
    Calls Tryz.prog 76 #[v] w (OpEnd l w) := by
  obtain ⟨p, cap, rfl⟩ := hv.slice
  have HV := Lib.hid hv
  obtain ⟨i0, hi, hz0, hz1, hz2⟩ := info_parts info_int
  have HM : Hid (maxLen = 9223372036854775807) := Lib.hid rfl
  clear hv
  go_enter Tryz.func76, Tryz.ntmps76
  go_wp2_with fail
  go_loopw [4, 5, 6] (fun v n i wr => ∃ k : Nat, i = .int .i64 k ∧ n = .int .i64 (dep (l.take k)) ∧ OpAt w l k v wr) (fun _ _ i _ => l.length - (intOf i).toNat)
  case atStart => exact ⟨0, rfl, by simp [dep_nil], Nat.zero_le _, okB_zero l, World.ownsRow_nil _ _ _ _, Below.refl _ _⟩
  case round =>
    obtain ⟨k, rfl, rfl, hO⟩ := hrel
    have HO := Lib.hid hO
    have n1 := hO.hi
    have n2 := hO.rng
    have hown := hO.own
    have hsz := hO.below.size
    clear hO
    by_cases hlt : k < l.length
    · obtain ⟨b, off, cap', q, c, hp, e1, e2, _, lb⟩ := (HV.out.later (HO.out.below.mono (Nat.le_refl _))).at hlt
      obtain rfl : p = some ⟨b, off, none⟩ := by cases hp; rfl
      have hs := dep_snoc hlt
      have ho := okB_succ l k
      have HS : Hid (valsL (opnL l (k + 1)) = valsL (opnL l k) ++ [.int .i64 (dep (l.take (k + 1)))]) := Lib.hid (by rw [opnL_succ, valsL_app]; rfl)
      have HD : Hid (dep (l.take (k + 1)) = dep (l.take k) + dlt l[k]) := Lib.hid hs
      have HOk : Hid (0 ≤ dep (l.take (k + 1)) → okB l (k + 1) = true) := Lib.hid (fun h => by rw [ho, HO.out.ok]; simpa using h)
      clear hp e2 hs ho
      clear HV
      by_cases c1 : l[k].c = 91
      · have t1 : ((l[k].c.toNat : Int) == 91) = true := by rw [c1]; rfl
        have t2 : ((l[k].c.toNat : Int) == 93) = false := by rw [c1]; rfl
        have HX : Hid (dep (l.take (k + 1)) = dep (l.take k) + 1) := Lib.hid (by rw [HD.out]; unfold dlt; rw [if_pos c1])
        clear c1
        generalize l[k].c.toNat = cn at e1 t1 t2
        obtain ⟨d, hd⟩ : ∃ d, dep (l.take k) = d := ⟨_, rfl⟩
        rw [hd] at HX n2 ⊢
        clear hd
        go_wp2_with (at_builtin; refine wpList_append_own _ rfl _ _ 43 rfl w.heap.size 3 i0 (.int .i64 0) 1 8 Tryz.underlying43 hi hz0 hz1 hz2 rfl (by decide) _ _ _ rfl (hown.alloc _) ⟨wr.heap.size, 0, none⟩ 1 1 [.int .i64 (d + 1)] rfl rfl (cell_one_new _ _ _) (by simp [Value.oneCell']) (by rw [HM.out]; omega) (by omega) (by simp; omega) ?_; intro v' w1 hown' hgrow _)
        go_roundw
        case rel => exact ⟨k + 1, by go_num, by rw [HX.out], hlt, HOk.out (by rw [HX.out]; omega), by rw [HS.out, HX.out]; exact hown', grown_step HO.out.below hown hgrow⟩
        case measure => simp [intOf]; omega
      · by_cases c2 : l[k].c = 93
        · have t1 : ((l[k].c.toNat : Int) == 91) = false := by rw [c2]; rfl
          have t2 : ((l[k].c.toNat : Int) == 93) = true := by rw [c2]; rfl
          have HX : Hid (dep (l.take (k + 1)) = dep (l.take k) - 1) := Lib.hid (by rw [HD.out]; unfold dlt; rw [if_neg c1, if_pos c2]; omega)
          clear c1 c2
          generalize l[k].c.toNat = cn at e1 t1 t2
          obtain ⟨d, hd⟩ : ∃ d, dep (l.take k) = d := ⟨_, rfl⟩
          rw [hd] at HX n2 ⊢
          clear hd
          by_cases hneg : d - 1 < 0
          · have HF : Hid (okB l l.length = false) := Lib.hid (by
              cases h : okB l l.length
              · rfl
              · have := okB_iff.1 h k hlt
                rw [HX.out] at this; omega)
            go_wp2_with fail
            go_ret2
            exact ⟨HO.out.below, .inl ⟨HF.out, rfl⟩⟩
          · have hneg2 : 0 ≤ d - 1 := by omega
            go_wp2_with (at_builtin; refine wpList_append_own _ rfl _ _ 43 rfl w.heap.size 3 i0 (.int .i64 0) 1 8 Tryz.underlying43 hi hz0 hz1 hz2 rfl (by decide) _ _ _ rfl (hown.alloc _) ⟨wr.heap.size, 0, none⟩ 1 1 [.int .i64 (d - 1)] rfl rfl (cell_one_new _ _ _) (by simp [Value.oneCell']) (by rw [HM.out]; omega) (by omega) (by simp; omega) ?_; intro v' w1 hown' hgrow _)
            go_roundw
            case rel => exact ⟨k + 1, by go_num, by rw [HX.out], hlt, HOk.out (by rw [HX.out]; omega), by rw [HS.out, HX.out]; exact hown', grown_step HO.out.below hown hgrow⟩
            case measure => simp [intOf]; omega
        · have t1 : ((l[k].c.toNat : Int) == 91) = false := by
            rw [show (91 : Int) = ((91 : UInt8).toNat : Int) from rfl, u8_eq]; exact beq_eq_false_iff_ne.2 c1
          have t2 : ((l[k].c.toNat : Int) == 93) = false := by
            rw [show (93 : Int) = ((93 : UInt8).toNat : Int) from rfl, u8_eq]; exact beq_eq_false_iff_ne.2 c2
          have HX : Hid (dep (l.take (k + 1)) = dep (l.take k)) := Lib.hid (by rw [HD.out]; unfold dlt; rw [if_neg c1, if_neg c2]; omega)
          clear c1 c2
          generalize l[k].c.toNat = cn at e1 t1 t2
          obtain ⟨d, hd⟩ : ∃ d, dep (l.take k) = d := ⟨_, rfl⟩
          rw [hd] at HX n2 ⊢
          clear hd
          have hneg2 : 0 ≤ d := n2.1
          go_wp2_with (at_builtin; refine wpList_append_own _ rfl _ _ 43 rfl w.heap.size 3 i0 (.int .i64 0) 1 8 Tryz.underlying43 hi hz0 hz1 hz2 rfl (by decide) _ _ _ rfl (hown.alloc _) ⟨wr.heap.size, 0, none⟩ 1 1 [.int .i64 (d)] rfl rfl (cell_one_new _ _ _) (by simp [Value.oneCell']) (by rw [HM.out]; omega) (by omega) (by simp; omega) ?_; intro v' w1 hown' hgrow _)
          go_roundw
          case rel => exact ⟨k + 1, by go_num, by rw [HX.out], hlt, HOk.out (by rw [HX.out]; omega), by rw [HS.out, HX.out]; exact hown', grown_step HO.out.below hown hgrow⟩
          case measure => simp [intOf]; omega
    · obtain rfl : k = l.length := by omega
      have HI := Lib.hid (ints_of_owned (l := opnL l l.length) (by rw [opnL_length]; exact hown))
      go_wp2_with fail
      go_ret2
      exact ⟨HO.out.below, .inr ⟨HO.out.ok, _, rfl, HI.out⟩⟩

theorem bad_at {l : List Md} {k : Nat} (hk : k < l.length) (h : fineB l[k] = false) : l.all fineB = false := by
  rw [List.all_eq_false]
  exact ⟨l[k], List.getElem_mem hk, by rw [h]; simp⟩
theorem good_all {l : List Md} (h : ∀ j, (hj : j < l.length) → fineB l[j] = true) : l.all fineB = true := by
  rw [List.all_eq_true]
  intro m hm
  obtain ⟨j, hj, rfl⟩ := List.mem_iff_getElem.1 hm
  exact h j hj
set_option maxRecDepth 100000 in
set_option maxHeartbeats 1600000 in
theorem check_any (v : Value) (l : List Md) (hmax : l.length ≤ 2100) (hargs : ∀ m ∈ l, m.a.length ≤ 10) (w : World) (hv : Mods w v l) :
    Calls Tryz.prog 48 #[v] w fun e w' => e = .returned (.int .i64 (chk l)) ∧ Below w.heap.size w w' := by
  obtain ⟨p, cap, rfl⟩ := hv.slice
  have HV := Lib.hid hv
  have HA := Lib.hid hargs
  clear hv hargs
  by_cases hlen : 2000 < l.length
  · have HC := Lib.hid (chk_many hlen)
    have c1 : (2000 : Int) < (l.length : Int) := by omega
    go_enter Tryz.func48, Tryz.ntmps48
    go_wp2_with fail
    go_ret
    exact ⟨ret_int HC.out.symm, Below.refl _ _⟩
  · have c1 : ¬ (2000 : Int) < (l.length : Int) := by omega
    go_enter Tryz.func48, Tryz.ntmps48
    go_wp2_with fail
    go_loopw [3] (fun i wr => ∃ k : Nat, k ≤ l.length ∧ i = .int .i64 k ∧ Below w.heap.size w wr ∧ ∀ j, (h : j < l.length) → j < k → fineB l[j] = true) (fun i _ => l.length - (intOf i).toNat)
    case atStart => exact ⟨0, Nat.zero_le _, rfl, Below.refl _ _, fun j _ h => by omega⟩
    case round =>
      obtain ⟨k, hk, rfl, hb, hok⟩ := hrel
      have HK := Lib.hid hok
      have HB := Lib.hid hb
      clear hok hb
      by_cases hlt : k < l.length
      · obtain ⟨b, off, cap', q, c, hp, e1, e2, hin, lb⟩ := (HV.out.later (HB.out.mono (Nat.le_refl _))).at hlt
        obtain rfl : p = some ⟨b, off, none⟩ := by cases hp; rfl
        have HF := Lib.hid (fine_any l[k] _ (by have := HA.out _ (List.getElem_mem hlt); omega) wr hin)
        obtain ⟨t, ht⟩ : ∃ t, fineB l[k] = t := ⟨_, rfl⟩
        have HT := Lib.hid ht
        rw [ht] at HF
        clear hp hin ht
        generalize l[k].c.toNat = cn at e1 HF
        generalize l[k].a.length = an at e2 HF
        cases t with
        | false =>
          have HC := Lib.hid (chk_bad hlen (bad_at hlt HT.out))
          go_wp2_with fail
          refine HF.out.mono ?_
          rintro e w1 ⟨rfl, hb⟩
          have HB1 := Lib.hid (HB.out.trans (hb.mono HB.out.size))
          clear hb
          go_wp2_with fail
          go_ret
          exact ⟨ret_int HC.out.symm, HB1.out⟩
        | true =>
          have HG : Hid (∀ j, (h : j < l.length) → j < k + 1 → fineB l[j] = true) := Lib.hid (fun j h hj => by
            rcases Nat.lt_or_eq_of_le (Nat.le_of_lt_succ hj) with h1 | h1
            · exact HK.out j h h1
            · subst h1; exact HT.out)
          go_wp2_with fail
          refine HF.out.mono ?_
          rintro e w1 ⟨rfl, hb⟩
          have HB1 := Lib.hid (HB.out.trans (hb.mono HB.out.size))
          clear hb
          go_wp2_with fail
          go_roundw
          case rel => exact ⟨k + 1, by omega, by go_num, HB1.out, HG.out⟩
          case measure => simp [intOf]; omega
      · obtain rfl : k = l.length := by omega
        have HGd := Lib.hid (good_all fun j h => HK.out j h h)
        have HO := Lib.hid (open_any _ l hmax wr (HV.out.later (HB.out.mono (Nat.le_refl _))))
        go_wp2_with fail
        refine HO.out.mono ?_
        rintro e w1 ⟨hb, ⟨hno, rfl⟩ | ⟨hyes, v1, rfl, hi⟩⟩
        · have HB1 := Lib.hid (HB.out.trans (hb.mono HB.out.size))
          have HC := Lib.hid (chk_open hlen HGd.out (by rw [hno]; rfl))
          clear hb hno
          go_wp2_with fail
          go_ret
          exact ⟨ret_int HC.out.symm, HB1.out⟩
        · have HB1 := Lib.hid (HB.out.trans (hb.mono HB.out.size))
          have HI := Lib.hid hi
          obtain ⟨p1, cap1, rfl⟩ := hi.slice
          have hlenO : (opnL l l.length).length = l.length := opnL_length _ _
          rw [hlenO] at HI ⊢
          have HY := Lib.hid hyes
          clear hb hyes hi
          by_cases h0 : 0 < l.length
          · obtain ⟨b, off, cap', hp, e1, lb⟩ := HI.out.at (k := l.length - 1) (by rw [hlenO]; omega)
            rw [hlenO] at hp
            obtain rfl : p1 = some ⟨b, off, none⟩ := by cases hp; rfl
            rw [opnL_get (by omega), show l.length - 1 + 1 = l.length by omega, List.take_length] at e1
            have hge := okB_iff.1 HY.out (l.length - 1) (by omega)
            rw [show l.length - 1 + 1 = l.length by omega, List.take_length] at hge
            have n3 : ((l.length : Int) - 1).toNat = l.length - 1 := by omega
            have n4 : (0 : Int) ≤ (l.length : Int) - 1 := by omega
            have n5 : (l.length : Int) - 1 < (l.length : Int) := by omega
            have n6 : (0 : Int) < (l.length : Int) := by omega
            clear hp hlenO
            by_cases hd : dep l = 0
            · have HC : Hid (chk l = 0) := Lib.hid (chk_zero.2 ⟨by omega, HGd.out, HY.out, hd⟩)
              obtain ⟨d, hdd⟩ : ∃ d, dep l = d := ⟨_, rfl⟩
              rw [hdd] at e1 hge hd
              clear hdd
              subst hd
              go_wp2_with fail
              go_ret
              exact ⟨ret_int HC.out.symm, HB1.out⟩
            · have HC := Lib.hid (chk_open hlen HGd.out (by simp [hd]))
              obtain ⟨d, hdd⟩ : ∃ d, dep l = d := ⟨_, rfl⟩
              rw [hdd] at e1 hge hd
              clear hdd
              have hd1 : 0 < d := by omega
              go_wp2_with fail
              go_ret
              exact ⟨ret_int HC.out.symm, HB1.out⟩
          · have hl0 : l = [] := List.length_eq_zero_iff.1 (by omega)
            have HC : Hid (chk l = 0) := Lib.hid (by rw [hl0]; rfl)
            have n6 : ¬ (0 : Int) < (l.length : Int) := by omega
            clear hl0
            go_wp2_with fail
            go_ret
            exact ⟨ret_int HC.out.symm, HB1.out⟩
end Go.Proofs.YtcoljbcjnggagaaGreatDoor
namespace Go.Proofs.YtcoljbcjnggagaaGreatDoor
open Go.RowKit
open WM
set_option linter.unusedVariables false
set_option linter.unusedSimpArgs false

theorem md_ext {a b : Md} (h1 : a.c = b.c) (h2 : a.a = b.a) : a = b := by cases a; cases b; simp_all
theorem u8_ne {x y : UInt8} : ((x.toNat : Int) != (y.toNat : Int)) = !(x == y) := by rw [← u8_eq]; rfl
set_option maxHeartbeats 1600000 in
theorem samemod_any (a b : Md) (v1 v2 : Value) (h1 : a.a.length ≤ 9223372036854775807) (h2 : b.a.length ≤ 9223372036854775807) (w : World) (i1 : Ints w v1 a.a) (i2 : Ints w v2 b.a) :
    Calls Tryz.prog 50 #[.agg #[.int .u8 a.c.toNat, v1], .agg #[.int .u8 b.c.toNat, v2]] w fun e w' => e = .returned (.bool (decide (a = b))) ∧ Below w.heap.size w w' := by
  obtain ⟨p1, cap1, rfl⟩ := i1.slice
  obtain ⟨p2, cap2, rfl⟩ := i2.slice
  obtain ⟨W0, hW0⟩ : ∃ W, W = (w.alloc (.cells #[.int .u8 a.c.toNat, .slice p1 a.a.length cap1] 45)).alloc (.cells #[.int .u8 b.c.toNat, .slice p2 b.a.length cap2] 45) := ⟨_, rfl⟩
  have N1 : W0.heap[w.heap.size]? = some (.cells #[.int .u8 a.c.toNat, .slice p1 a.a.length cap1] 45 (0, 0)) := by rw [hW0]; exact heap_alloc_old (heap_alloc_new _ _) _
  have N2 : W0.heap[w.heap.size + 1]? = some (.cells #[.int .u8 b.c.toNat, .slice p2 b.a.length cap2] 45 (0, 0)) := by
    have := heap_alloc_new (w.alloc (.cells #[.int .u8 a.c.toNat, .slice p1 a.a.length cap1] 45)) (.cells #[.int .u8 b.c.toNat, .slice p2 b.a.length cap2] 45)
    rw [hW0]; simpa using this
  have B0 : Below w.heap.size w W0 := by rw [hW0]; exact ((Below.refl _ _).alloc (Nat.le_refl _) _).alloc (by simp) _
  have HB := Lib.hid B0
  have HI1 := Lib.hid (i1.later B0)
  have HI2 := Lib.hid (i2.later B0)
  have q0 := cell_two0 N1
  have q1 := cell_two1 N1
  have q2 := cell_two0 N2
  have q3 := cell_two1 N2
  have l1 := lt_of_block N1
  have l2 := lt_of_block N2
  clear N1 N2 B0 i1 i2
  by_cases hc : a.c = b.c
  · have t1 : ((a.c.toNat : Int) != (b.c.toNat : Int)) = false := by rw [hc]; simp
    by_cases hl : a.a.length = b.a.length
    · have HC := Lib.hid hc
      obtain ⟨n, hn⟩ : ∃ n, a.a.length = n := ⟨_, rfl⟩
      have hn2 : b.a.length = n := by omega
      have HN1 := Lib.hid hn
      have HN2 := Lib.hid hn2
      rw [hn] at q1 HI1 hW0 h1 ⊢
      rw [hn2] at q3 HI2 hW0 ⊢
      clear hn hn2 hl hc h2
      generalize a.c.toNat = ca at q0 t1 hW0 ⊢
      generalize b.c.toNat = cb at q2 t1 hW0 ⊢
      go_enter Tryz.func50, Tryz.ntmps50
      go_wp2_with fail
      rw [← hW0]
      clear hW0
      go_wp2_with fail
      go_loopw [5] (fun i wr => ∃ k q : Nat, k ≤ n ∧ i = .int .i64 k ∧ wr = W0.drewN q ∧ ∀ j, (hj : j < a.a.length) → (hj2 : j < b.a.length) → j < k → a.a[j] = b.a[j]) (fun i _ => n - (intOf i).toNat)
      case atStart => exact ⟨0, 0, Nat.zero_le _, rfl, rfl, fun j _ _ h => by omega⟩
      case round =>
        obtain ⟨k, q, hk, rfl, rfl, hok⟩ := hrel
        have HK := Lib.hid hok
        clear hok
        by_cases hlt : k < n
        · have ha : k < a.a.length := by rw [HN1.out]; exact hlt
          have hb : k < b.a.length := by rw [HN2.out]; exact hlt
          obtain ⟨b1, o1, c1, hp1, e1, lb1⟩ := HI1.out.at ha
          obtain ⟨b2, o2, c2, hp2, e2, lb2⟩ := HI2.out.at hb
          rw [HN1.out] at hp1
          rw [HN2.out] at hp2
          obtain rfl : p1 = some ⟨b1, o1, none⟩ := by cases hp1; rfl
          obtain rfl : p2 = some ⟨b2, o2, none⟩ := by cases hp2; rfl
          obtain ⟨x, hx⟩ : ∃ x, a.a[k] = x := ⟨_, rfl⟩
          obtain ⟨y, hy⟩ : ∃ y, b.a[k] = y := ⟨_, rfl⟩
          have HX := Lib.hid hx
          have HY := Lib.hid hy
          rw [hx] at e1
          rw [hy] at e2
          have k1 : (k : Int) < (n : Int) := by omega
          clear hx hy hp1 hp2
          by_cases hxy : x = y
          · have HG : Hid (∀ j, (hj : j < a.a.length) → (hj2 : j < b.a.length) → j < k + 1 → a.a[j] = b.a[j]) := Lib.hid (fun j hj hj2 h => by
              rcases Nat.lt_or_eq_of_le (Nat.le_of_lt_succ h) with h1 | h1
              · exact HK.out j hj hj2 h1
              · subst h1; rw [HX.out, HY.out]; exact hxy)
            subst hxy
            go_wp2_with fail
            go_quiet (fail)
            go_wp2_with fail
            go_roundw
            case rel => exact ⟨k + 1, _, by omega, by go_num, rfl, HG.out⟩
            case measure => simp [intOf]; omega
          · have t2 : (x != y) = true := by rw [bne_iff_ne]; exact hxy
            have HF : Hid (decide (a = b) = false) := Lib.hid (decide_eq_false (fun e => by
              have e3 := HX.out
              subst e
              exact hxy (e3.symm.trans HY.out)))
            go_wp2_with fail
            go_quiet (fail)
            go_wp2_with fail
            go_ret
            exact ⟨ret_bool HF.out.symm, below_drewN (below_drewN HB.out _) _⟩
        · obtain rfl : k = n := by omega
          have HF : Hid (decide (a = b) = true) := Lib.hid (decide_eq_true (md_ext HC.out (by
            apply List.ext_getElem (by rw [HN1.out, HN2.out])
            intro j h1 h2; exact HK.out j h1 h2 (by rw [HN1.out] at h1; exact h1))))
          go_wp2_with fail
          go_ret
          exact ⟨ret_bool HF.out.symm, below_drewN HB.out _⟩
    · have t2 : ((a.a.length : Int) != (b.a.length : Int)) = true := by rw [bne_iff_ne]; omega
      have HF : Hid (decide (a = b) = false) := Lib.hid (decide_eq_false (fun e => hl (by rw [e])))
      clear hc hl
      go_enter Tryz.func50, Tryz.ntmps50
      go_wp2_with fail
      rw [← hW0]
      clear hW0
      go_wp2_with fail
      go_ret
      exact ⟨ret_bool HF.out.symm, HB.out⟩
  · have t1 : ((a.c.toNat : Int) != (b.c.toNat : Int)) = true := by rw [u8_ne]; simp [hc]
    have HF : Hid (decide (a = b) = false) := Lib.hid (decide_eq_false (fun e => hc (by rw [e])))
    clear hc
    go_enter Tryz.func50, Tryz.ntmps50
    go_wp2_with fail
    rw [← hW0]
    clear hW0
    go_wp2_with fail
    go_ret
    exact ⟨ret_bool HF.out.symm, HB.out⟩

theorem same_at {a b : List Md} {k : Nat} (h1 : k < a.length) (h2 : k < b.length) (h : a[k] ≠ b[k]) : decide (a = b) = false := decide_eq_false (fun e => by subst e; exact h rfl)
set_option maxHeartbeats 1600000 in
theorem same_any (v1 v2 : Value) (a b : List Md) (h1 : a.length ≤ 9223372036854775807) (h2 : b.length ≤ 9223372036854775807) (g1 : ∀ m ∈ a, m.a.length ≤ 9223372036854775807) (g2 : ∀ m ∈ b, m.a.length ≤ 9223372036854775807)
    (w : World) (i1 : Mods w v1 a) (i2 : Mods w v2 b) :
    Calls Tryz.prog 21 #[v1, v2] w fun e w' => e = .returned (.bool (decide (a = b))) ∧ Below w.heap.size w w' := by
  obtain ⟨p1, cap1, rfl⟩ := i1.slice
  obtain ⟨p2, cap2, rfl⟩ := i2.slice
  have HI1 := Lib.hid i1
  have HI2 := Lib.hid i2
  have HG1 := Lib.hid g1
  have HG2 := Lib.hid g2
  clear i1 i2 g1 g2
  by_cases hl : a.length = b.length
  · obtain ⟨n, hn⟩ : ∃ n, a.length = n := ⟨_, rfl⟩
    have hn2 : b.length = n := by omega
    have HN1 := Lib.hid hn
    have HN2 := Lib.hid hn2
    rw [hn] at HI1 h1 ⊢
    rw [hn2] at HI2 ⊢
    clear hn hn2 hl h2
    go_enter Tryz.func21, Tryz.ntmps21
    go_wp2_with fail
    go_loopw [5] (fun i wr => ∃ k : Nat, k ≤ n ∧ i = .int .i64 k ∧ Below w.heap.size w wr ∧ ∀ j, (hj : j < a.length) → (hj2 : j < b.length) → j < k → a[j] = b[j]) (fun i _ => n - (intOf i).toNat)
    case atStart => exact ⟨0, Nat.zero_le _, rfl, Below.refl _ _, fun j _ _ h => by omega⟩
    case round =>
      obtain ⟨k, hk, rfl, hb, hok⟩ := hrel
      have HK := Lib.hid hok
      have HB := Lib.hid hb
      clear hok hb
      by_cases hlt : k < n
      · have ha : k < a.length := by rw [HN1.out]; exact hlt
        have hb : k < b.length := by rw [HN2.out]; exact hlt
        obtain ⟨b1, o1, c1, q1, d1, hp1, e1, f1, j1, lb1⟩ := (HI1.out.later (HB.out.mono (Nat.le_refl _))).at ha
        obtain ⟨b2, o2, c2, q2, d2, hp2, e2, f2, j2, lb2⟩ := (HI2.out.later (HB.out.mono (Nat.le_refl _))).at hb
        rw [HN1.out] at hp1
        rw [HN2.out] at hp2
        obtain rfl : p1 = some ⟨b1, o1, none⟩ := by cases hp1; rfl
        obtain rfl : p2 = some ⟨b2, o2, none⟩ := by cases hp2; rfl
        have k1 : (k : Int) < (n : Int) := by omega
        have hx1 := HG1.out _ (List.getElem_mem ha)
        have hx2 := HG2.out _ (List.getElem_mem hb)
        have HC : Hid (∀ (d : Nat) (os : Array Obj), Calls Tryz.prog 50 #[.agg #[.int .u8 a[k].c.toNat, .slice q1 a[k].a.length d1], .agg #[.int .u8 b[k].c.toNat, .slice q2 b[k].a.length d2]] («Sort».grow (redrawn wr d) os) fun e w' =>
            e = .returned (.bool (decide (a[k] = b[k]))) ∧ Below («Sort».grow (redrawn wr d) os).heap.size («Sort».grow (redrawn wr d) os) w') :=
          Lib.hid (fun d os => samemod_any a[k] b[k] _ _ hx1 hx2 _ (j1.later (below_regrown wr d os)) (j2.later (below_regrown wr d os)))
        obtain ⟨t, ht⟩ : ∃ t, decide (a[k] = b[k]) = t := ⟨_, rfl⟩
        have HT := Lib.hid ht
        rw [ht] at HC
        clear hp1 hp2 j1 j2 ht hx1 hx2
        generalize a[k].c.toNat = ca at e1 HC
        generalize b[k].c.toNat = cb at e2 HC
        generalize a[k].a.length = la at f1 HC
        generalize b[k].a.length = lb at f2 HC
        have r1 := fun d os => cell_regrown e1 d os
        have r2 := fun d os => cell_regrown f1 d os
        have r3 := fun d os => cell_regrown e2 d os
        have r4 := fun d os => cell_regrown f2 d os
        go_wp2_with fail
        refine wp_region_quiet_below (by kernel_rfl) (by kernel_rfl) ?_
        repeat (any_goals (first | go_big_quiet_step ((go_at_call 50; exact Calls.regrown_of (HC.out _ _))) | quiet_step ((go_at_call 50; exact Calls.regrown_of (HC.out _ _)))))
        refine wpQuiet_nil ?_
        intro _ hw'
        obtain ⟨⟨dq, osq⟩, hw''⟩ := hw'
        subst hw''
        have HB2 : Hid (Below w.heap.size w («Sort».grow (redrawn wr dq) osq)) := Lib.hid (HB.out.trans ((below_regrown wr dq osq).mono HB.out.size))
        cases t with
        | true =>
          have HG : Hid (∀ j, (hj : j < a.length) → (hj2 : j < b.length) → j < k + 1 → a[j] = b[j]) := Lib.hid (fun j hj hj2 h => by
            rcases Nat.lt_or_eq_of_le (Nat.le_of_lt_succ h) with h1 | h1
            · exact HK.out j hj hj2 h1
            · subst h1; exact of_decide_eq_true HT.out)
          go_wp2_with fail
          go_roundw
          case rel => exact ⟨k + 1, by omega, by go_num, HB2.out, HG.out⟩
          case measure => simp [intOf]; omega
        | false =>
          have HF := Lib.hid (same_at ha hb (of_decide_eq_false HT.out))
          go_wp2_with fail
          go_ret
          exact ⟨ret_bool HF.out.symm, HB2.out⟩
      · obtain rfl : k = n := by omega
        have HF : Hid (decide (a = b) = true) := Lib.hid (decide_eq_true (by
          apply List.ext_getElem (by rw [HN1.out, HN2.out])
          intro j h1 h2; exact HK.out j h1 h2 (by rw [HN1.out] at h1; exact h1)))
        go_wp2_with fail
        go_ret
        exact ⟨ret_bool HF.out.symm, HB.out⟩
  · have t2 : ((a.length : Int) != (b.length : Int)) = true := by rw [bne_iff_ne]; omega
    have HF : Hid (decide (a = b) = false) := Lib.hid (decide_eq_false (fun e => hl (by rw [e])))
    clear hl
    go_enter Tryz.func21, Tryz.ntmps21
    go_wp2_with fail
    go_ret
    exact ⟨ret_bool HF.out.symm, Below.refl _ _⟩
end Go.Proofs.YtcoljbcjnggagaaGreatDoor
