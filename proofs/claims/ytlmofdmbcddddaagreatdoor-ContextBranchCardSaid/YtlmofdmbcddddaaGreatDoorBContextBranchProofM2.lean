/-
  Texts of the proof, merged: BWordInts, BWordMem, BWordRefA, BWordOwn, BWordRefB, BWordRefC, BWordEnv, BWordPrA.
-/
import Derived.Test.YtlmofdmbcddddaaGreatDoorBContextBranchProofM1
import Derived.Test.YtlmofdmbcddddaaGreatDoorChecked
import Derived.WalkKit
import Derived.WalkSmall
import Derived.Lib.Hide
import Derived.Laws.MakeOwn
import Derived.Laws.AppendOwn
import Derived.OwnWalk
import Derived.Maps.AppendAt
import Derived.BigQuiet
import Derived.BigRegion
import Derived.Deep.QuietTactic
import Derived.Lib.QuietBelow
import Derived.Lib.LaidTab
import Derived.Lib.AtoiErrMem
import Derived.Lib.AppendIntMem
import Derived.LaidLaws
import Derived.Test.YtlmofdmbcddddaaGreatDoorShelfI
import Derived.Lib.IndexLaws
namespace Go.Proofs.YtlmofdmbcddddaaGreatDoor
open Go.RowKit
set_option linter.unusedVariables false
set_option linter.unusedSimpArgs false

/-- A string's bytes as a list, and a list as a string. -/
def lA (s : ByteArray) : List UInt8 := s.data.toList
def bA (l : List UInt8) : ByteArray := ⟨l.toArray⟩
theorem lA_bA (l : List UInt8) : lA (bA l) = l := by simp [lA, bA]
theorem bA_lA (s : ByteArray) : bA (lA s) = s := rfl
theorem lA_len (s : ByteArray) : (lA s).length = s.size := by simp only [lA, Array.length_toList]; rfl
theorem lA_get (s : ByteArray) (k : Nat) (h : k < s.size) (h' : k < (lA s).length) : (lA s)[k]'h' = s[k]'h := rfl
theorem lA_inj {a b : ByteArray} (h : lA a = lA b) : a = b := ByteArray.ext (Array.toList_inj.1 h)
theorem lA_snoc (s : ByteArray) (k : Nat) (h : k < s.size) : (lA s).take (k + 1) = (lA s).take k ++ [s[k]] := by
  have hl : k < (lA s).length := by rw [lA_len]; exact h
  rw [List.take_add_one, List.getElem?_eq_getElem hl, lA_get s k h hl]; rfl
theorem lA_all (s : ByteArray) : (lA s).take s.size = lA s := by rw [← lA_len]; exact List.take_length
theorem ret_bool {a b : Bool} (h : a = b) : Ending.returned (.bool a) = .returned (.bool b) := by rw [h]
theorem ret_int {k : IntKind} {a b : Int} (h : a = b) : Ending.returned (.int k a) = .returned (.int k b) := by rw [h]
theorem ret_str {a b : ByteArray} (h : a = b) : Ending.returned (.string a) = .returned (.string b) := by rw [h]

/-- A slice's numbers, which may be none. -/
inductive Ints (w : World) : Value → List Int → Prop
  | none (p : Option Addr) (cap : Nat) : Ints w (.slice p 0 cap) []
  | some (b off cap : Nat) (l : List Int) (hpos : 0 < l.length) (hb : b < w.heap.size)
      (h : ∀ i, (h : i < l.length) → w.cell? ⟨b, off + i, Option.none⟩ = Option.some (.int .i64 l[i])) :
      Ints w (.slice (Option.some ⟨b, off, Option.none⟩) l.length cap) l
theorem Ints.later {w w1 : World} {v : Value} {l : List Int} (h : Ints w v l) (hb : Below w.heap.size w w1) : Ints w1 v l := by
  cases h with
  | none p cap => exact .none p cap
  | some b off cap _ hpos hlt hx =>
    exact .some b off cap l hpos (Nat.lt_of_lt_of_le hlt hb.size) fun i hi => (hb.cell (p := ⟨b, off + i, Option.none⟩) hlt).trans (hx i hi)
theorem Ints.slice {w : World} {v : Value} {l : List Int} (h : Ints w v l) : ∃ p cap, v = .slice p l.length cap := by
  cases h with
  | none p cap => exact ⟨p, cap, rfl⟩
  | some b off cap _ _ _ _ => exact ⟨_, cap, rfl⟩

theorem Ints.at {w : World} {v : Value} {l : List Int} (h : Ints w v l) {k : Nat} (hk : k < l.length) :
    ∃ b off cap, v = .slice (Option.some ⟨b, off, Option.none⟩) l.length cap ∧ w.cell? ⟨b, off + k, Option.none⟩ = Option.some (.int .i64 l[k]) ∧ b < w.heap.size := by
  cases h with
  | none p cap => simp at hk
  | some b off cap _ _ hb hx => exact ⟨b, off, cap, rfl, hx k hk, hb⟩
/-- A row of numbers of the call's own. -/
structure RowI (w : World) (b : Nat) (l : List Int) : Prop where
  row : ∃ cs : Array Value, w.heap[b]? = some (.cells cs 3 (0, 0)) ∧ l.length ≤ cs.size ∧ ∀ i, (h : i < l.length) → cs[i]? = some (.int .i64 l[i])
theorem RowI.lt {w : World} {b : Nat} {l : List Int} (h : RowI w b l) : b < w.heap.size := let ⟨_, h1, _⟩ := h.row; lt_of_block h1
theorem RowI.cell {w : World} {b : Nat} {l : List Int} (h : RowI w b l) {i : Nat} (hi : i < l.length) : w.cell? ⟨b, i, none⟩ = some (.int .i64 l[i]) := by
  obtain ⟨cs, h1, h2, h3⟩ := h.row
  simp only [World.cell?, h1]; simpa using h3 i hi
theorem RowI.free {w : World} {b : Nat} {l : List Int} (h : RowI w b l) (i : Nat) : w.frozen? ⟨b, i, none⟩ = false := by
  obtain ⟨cs, h1, h2, h3⟩ := h.row
  simp [World.frozen?, h1]
theorem RowI.of_block {w w1 : World} {b : Nat} {l : List Int} (h : RowI w b l) (he : w1.heap[b]? = w.heap[b]?) : RowI w1 b l := by
  obtain ⟨cs, h1, h2, h3⟩ := h.row
  exact ⟨cs, he.trans h1, h2, h3⟩
theorem RowI.later {w w1 : World} {b : Nat} {l : List Int} (h : RowI w b l) (hb : Below w.heap.size w w1) : RowI w1 b l := h.of_block (hb.block _ h.lt)
theorem RowI.other {w : World} {b : Nat} {l : List Int} (h : RowI w b l) {p : Addr} (hp : b ≠ p.block) (x : Value) : RowI (w.setCell p x) b l := h.of_block (Below.heap_setCell _ _ _ _ hp)
theorem RowI.set {w : World} {b : Nat} {l : List Int} (h : RowI w b l) {i : Nat} (hi : i < l.length) (x : Int) : RowI (w.setCell ⟨b, i, none⟩ (.int .i64 x)) b (l.set i x) := by
  obtain ⟨cs, h1, h2, h3⟩ := h.row
  refine ⟨cs.setIfInBounds i (.int .i64 x), ?_, by simpa using h2, fun j hj => ?_⟩
  · simp only [World.setCell, Array.getElem?_modify, if_true, h1]; rfl
  · rw [List.length_set] at hj
    rw [Array.getElem?_setIfInBounds, List.getElem_set]
    by_cases hij : i = j
    · subst hij; simp; omega
    · rw [if_neg hij, if_neg hij]; exact h3 j hj
theorem RowI.ints {w : World} {b : Nat} {l : List Int} (h : RowI w b l) (cap : Nat) : Ints w (.slice (some ⟨b, 0, none⟩) l.length cap) l := by
  rcases Nat.eq_zero_or_pos l.length with h0 | h0
  · have : l = [] := List.length_eq_zero_iff.1 h0
    subst this; exact .none _ _
  · exact .some b 0 cap l h0 h.lt fun i hi => by rw [Nat.zero_add]; exact h.cell hi
/-- A row as make lays it. -/
def zeros (n : Nat) : Array Value := madeCells #[.int .i64 0] n
theorem zeros_at {n i : Nat} (h : i < n) : (zeros n)[i]? = some (.int .i64 0) := by
  unfold zeros madeCells
  rw [Array.getElem?_map, Array.getElem?_range, if_pos h]
  simp [Nat.mod_one]
theorem zeros_size (n : Nat) : (zeros n).size = n := size_madeCells _ _
theorem made_run (n : Nat) (hn : n ≤ 1000) (w : World) : (Instr.makeSlice 25 (.int .i64 (n : Int)) (.int .i64 (n : Int))).run Tryz.prog w = .ok (.slice (some ⟨w.heap.size, 0, none⟩) n n) (w.alloc (.cells (zeros n) 3)) := by
  have := run_make (P := Tryz.prog) w 25 3 Tryz.t3 (.int .i64 0) Tryz.underlying25 (by kernel_rfl) (by kernel_rfl) .i64 .i64 n n (by omega) (Int.le_refl _) (by show ((8 : Nat) : Int) * (n : Int) ≤ _; omega) (by omega)
  rw [this]; simp only [zeros, Value.cells, Int.toNat_natCast, show (Tryz.t3).size = 1 from rfl, Nat.mul_one]
theorem made_row (n : Nat) (w : World) : RowI (w.alloc (.cells (zeros n) 3)) w.heap.size (List.replicate n 0) := by
  refine ⟨zeros n, heap_alloc_new _ _, by simp [zeros_size], fun i hi => ?_⟩
  rw [List.length_replicate] at hi
  rw [zeros_at hi, List.getElem_replicate]

theorem one_setCell {w : World} {b : Nat} {x : Value} {t : TypeId} (h : w.heap[b]? = some (.cells #[x] t (0, 0))) (u : Value) :
    (w.setCell ⟨b, 0, none⟩ u).heap[b]? = some (.cells #[u] t (0, 0)) := by
  simp only [World.setCell, Array.getElem?_modify, if_true, h]
  rfl
theorem free_one {w : World} {b : Nat} {x : Value} {t : TypeId} (h : w.heap[b]? = some (.cells #[x] t (0, 0))) : w.frozen? ⟨b, 0, none⟩ = false := by simp [World.frozen?, h]
end Go.Proofs.YtlmofdmbcddddaaGreatDoor
namespace Go.Proofs.YtlmofdmbcddddaaGreatDoor
open Go.RowKit
open WM
set_option linter.unusedVariables false
set_option linter.unusedSimpArgs false

/-- A slice that is nil, or lies somewhere. -/
def NilOr (v : Value) : Prop := v = .slice none 0 0 ∨ ∃ ad n c, v = .slice (some ad) n c
/-- A slice's modules, which may be none. -/
inductive Mods (w : World) : Value → List Md → Prop
  | none (p : Option Addr) (cap : Nat) : Mods w (.slice p 0 cap) []
  | some (b off cap : Nat) (l : List Md) (hpos : 0 < l.length) (hb : b < w.heap.size)
      (h : ∀ i, (h : i < l.length) → w.cell? ⟨b, off + i * 2, Option.none⟩ = Option.some (.int .u8 l[i].c.toNat) ∧
        ∃ v, w.cell? ⟨b, off + i * 2 + 1, Option.none⟩ = Option.some v ∧ Ints w v l[i].a ∧ NilOr v) :
      Mods w (.slice (Option.some ⟨b, off, Option.none⟩) l.length cap) l
theorem Mods.later {w w1 : World} {v : Value} {l : List Md} (h : Mods w v l) (hb : Below w.heap.size w w1) : Mods w1 v l := by
  cases h with
  | none p cap => exact .none p cap
  | some b off cap _ hpos hlt hx =>
    refine .some b off cap l hpos (Nat.lt_of_lt_of_le hlt hb.size) fun i hi => ?_
    obtain ⟨h1, v, h2, h3, h4⟩ := hx i hi
    exact ⟨(hb.cell (p := ⟨b, off + i * 2, Option.none⟩) hlt).trans h1, v, (hb.cell (p := ⟨b, off + i * 2 + 1, Option.none⟩) hlt).trans h2, h3.later hb, h4⟩
theorem Mods.slice {w : World} {v : Value} {l : List Md} (h : Mods w v l) : ∃ p cap, v = .slice p l.length cap := by
  cases h with
  | none p cap => exact ⟨p, cap, rfl⟩
  | some b off cap _ _ _ _ => exact ⟨_, cap, rfl⟩
theorem Mods.at {w : World} {v : Value} {l : List Md} (h : Mods w v l) {k : Nat} (hk : k < l.length) :
    ∃ b off cap p c, v = .slice (Option.some ⟨b, off, Option.none⟩) l.length cap ∧ w.cell? ⟨b, off + k * 2, Option.none⟩ = Option.some (.int .u8 l[k].c.toNat) ∧
      w.cell? ⟨b, off + k * 2 + 1, Option.none⟩ = Option.some (.slice p l[k].a.length c) ∧ Ints w (.slice p l[k].a.length c) l[k].a ∧ b < w.heap.size := by
  cases h with
  | none p cap => simp at hk
  | some b off cap _ _ hb hx =>
    obtain ⟨h1, v, h2, h3, _⟩ := hx k hk
    obtain ⟨p, c, rfl⟩ := h3.slice
    exact ⟨b, off, cap, p, c, rfl, h1, h2, h3, hb⟩
theorem Mods.at2 {w : World} {v : Value} {l : List Md} (h : Mods w v l) {k : Nat} (hk : k < l.length) :
    ∃ b off cap p c, v = .slice (Option.some ⟨b, off, Option.none⟩) l.length cap ∧ w.cell? ⟨b, off + k * 2, Option.none⟩ = Option.some (.int .u8 l[k].c.toNat) ∧
      w.cell? ⟨b, off + k * 2 + 1, Option.none⟩ = Option.some (.slice p l[k].a.length c) ∧ Ints w (.slice p l[k].a.length c) l[k].a ∧ b < w.heap.size ∧ (p = Option.none → l[k].a.length = 0 ∧ c = 0) := by
  cases h with
  | none p cap => simp at hk
  | some b off cap _ _ hb hx =>
    obtain ⟨h1, v, h2, h3, h4⟩ := hx k hk
    obtain ⟨p, c, rfl⟩ := h3.slice
    refine ⟨b, off, cap, p, c, rfl, h1, h2, h3, hb, fun hp => ?_⟩
    rcases h4 with h | ⟨ad, n, c', h⟩
    · simp only [Value.slice.injEq] at h; exact ⟨h.2.1, h.2.2⟩
    · rw [hp] at h; simp at h
end Go.Proofs.YtlmofdmbcddddaaGreatDoor
namespace Go.Proofs.YtlmofdmbcddddaaGreatDoor
open Go.RowKit
open WM
set_option linter.unusedVariables false
set_option linter.unusedSimpArgs false

def nmS : ByteArray := ⟨#[43, 45, 38, 94, 124, 33, 91, 93]⟩
theorem u8_eq {x y : UInt8} : ((x.toNat : Int) == (y.toNat : Int)) = (x == y) := by
  rw [Bool.eq_iff_iff]; simp only [beq_iff_eq]
  constructor
  · intro h; exact UInt8.toNat_inj.1 (by omega)
  · intro h; rw [h]
theorem nm_none {c : UInt8} (h : ∀ i, (hi : i < nmS.size) → (nmS[i]'hi == c) = false) : (c == 43 || c == 45 || c == 38 || c == 94 || c == 124 || c == 33 || c == 91 || c == 93) = false := by
  have e := fun i hi => beq_eq_false_iff_ne.1 (h i hi)
  have h0 := e 0 (by decide)
  have h1 := e 1 (by decide)
  have h2 := e 2 (by decide)
  have h3 := e 3 (by decide)
  have h4 := e 4 (by decide)
  have h5 := e 5 (by decide)
  have h6 := e 6 (by decide)
  have h7 := e 7 (by decide)
  simp only [Bool.or_eq_false_iff, beq_eq_false_iff_ne]
  exact ⟨⟨⟨⟨⟨⟨⟨Ne.symm h0, Ne.symm h1⟩, Ne.symm h2⟩, Ne.symm h3⟩, Ne.symm h4⟩, Ne.symm h5⟩, Ne.symm h6⟩, Ne.symm h7⟩
theorem nm_some {c : UInt8} {i : Nat} (hi : i < nmS.size) (h : (nmS[i]'hi == c) = true) : letB c = true := by
  have h8 : i < 8 := hi
  have e := beq_iff_eq.1 h
  subst e
  have : ∀ i : Fin 8, letB (nmS[i.1]'(by exact i.2)) = true := by decide +kernel
  exact this ⟨i, h8⟩
set_option maxHeartbeats 400000 in
theorem letter_any (c : UInt8) (w : World) : Calls Tryz.prog 33 #[.int .u8 c.toNat] w fun e w' => e = .returned (.bool (letB c)) ∧ w = w' := by
  have hc := c.toNat_lt
  obtain ⟨s, hs⟩ : ∃ s : ByteArray, (⟨#[43, 45, 38, 94, 124, 33, 91, 93]⟩ : ByteArray) = s := ⟨_, rfl⟩
  have hss : nmS = s := hs
  have hs8 : s.size = 8 := by rw [← hs]; rfl
  go_enter Tryz.func33, Tryz.ntmps33
  go_wp2_with fail
  rw [hs]
  go_loop [4] (fun i => ∃ k : Nat, k ≤ 8 ∧ i = .int .i64 k ∧ ∀ j, (hj : j < s.size) → j < k → (s[j]'hj == c) = false) (fun i => 8 - (intOf i).toNat)
  case atStart => exact ⟨0, Nat.zero_le _, rfl, fun j _ h => by omega⟩
  case round =>
    obtain ⟨k, hk, rfl, hno⟩ := hrel
    have HN := Lib.hid hno
    clear hno
    by_cases hlt : k < 8
    · have hks : k < s.size := by omega
      obtain ⟨b, hb⟩ : ∃ b, s[k]'hks = b := ⟨_, rfl⟩
      cases he : (b == c) with
      | true =>
        have HL : Hid (letB c = true) := Lib.hid (by subst hss; exact nm_some hks (by rw [hb]; exact he))
        have e1 : ((s[k].toNat : Int) == (c.toNat : Int)) = true := by rw [u8_eq, hb]; exact he
        clear he hb
        go_wp2_with fail
        go_ret
        exact ⟨ret_bool HL.out.symm, rfl⟩
      | false =>
        have e1 : ((s[k].toNat : Int) == (c.toNat : Int)) = false := by rw [u8_eq, hb]; exact he
        have HG : Hid (∀ j, (hj : j < s.size) → j < k + 1 → (s[j]'hj == c) = false) := Lib.hid (fun j hj h => by
          rcases Nat.lt_or_eq_of_le (Nat.le_of_lt_succ h) with h1 | h1
          · exact HN.out j hj h1
          · subst h1; rw [hb]; exact he)
        clear he hb
        go_wp2_with fail
        go_round
        case rel => exact ⟨k + 1, by omega, by go_num, HG.out⟩
        case measure => simp [intOf]; omega
    · obtain rfl : k = 8 := by omega
      have hno : (c == 43 || c == 45 || c == 38 || c == 94 || c == 124 || c == 33 || c == 91 || c == 93) = false := by
        subst hss; exact nm_none fun i hi => HN.out i hi (by omega)
      have HL : Hid (letB c = ((decide (65 ≤ c.toNat) && decide (c.toNat ≤ 90)) || (decide (97 ≤ c.toNat) && decide (c.toNat ≤ 122)))) := Lib.hid (by unfold letB; rw [hno]; simp)
      clear hno HN hs hss
      by_cases c1 : (65 : Int) ≤ c.toNat
      · by_cases c2 : (c.toNat : Int) ≤ 90
        · go_wp2_with fail
          go_ret
          exact ⟨ret_bool (by rw [HL.out, Bool.eq_iff_iff]; simp only [Bool.or_eq_true, Bool.and_eq_true, decide_eq_true_eq]; first | omega | (simp; omega)), rfl⟩
        · by_cases c3 : (97 : Int) ≤ c.toNat
          · go_wp2_with fail
            go_ret
            exact ⟨ret_bool (by rw [HL.out, Bool.eq_iff_iff]; simp only [Bool.or_eq_true, Bool.and_eq_true, decide_eq_true_eq]; first | omega | (simp; omega)), rfl⟩
          · go_wp2_with fail
            go_ret
            exact ⟨ret_bool (by rw [HL.out, Bool.eq_iff_iff]; simp only [Bool.or_eq_true, Bool.and_eq_true, decide_eq_true_eq]; first | omega | (simp; omega)), rfl⟩
      · by_cases c3 : (97 : Int) ≤ c.toNat
        · go_wp2_with fail
          go_ret
          exact ⟨ret_bool (by rw [HL.out, Bool.eq_iff_iff]; simp only [Bool.or_eq_true, Bool.and_eq_true, decide_eq_true_eq]; first | omega | (simp; omega)), rfl⟩
        · go_wp2_with fail
          go_ret
          exact ⟨ret_bool (by rw [HL.out, Bool.eq_iff_iff]; simp only [Bool.or_eq_true, Bool.and_eq_true, decide_eq_true_eq]; first | omega | (simp; omega)), rfl⟩

/-- A module as a value. -/
def mdV (c : UInt8) (v : Value) : Value := .agg #[.int .u8 c.toNat, v]
theorem fine_let0 {m : Md} (h : letB m.c = false) : fineB m = false := by simp [fineB, h]
theorem fine_len {m : Md} (h : 4 < m.a.length) : fineB m = false := by
  have : decide (m.a.length ≤ 4) = false := decide_eq_false (by omega)
  simp [fineB, this]
theorem fine_bra {m : Md} (h : braB m.c = true) (h2 : 0 < m.a.length) : fineB m = false := by
  have : decide (0 < m.a.length) = true := decide_eq_true h2
  simp [fineB, h, this]
theorem fine_rng {m : Md} {k : Nat} (hk : k < m.a.length) (h : m.a[k] < -1000000000 ∨ 1000000000 < m.a[k]) : fineB m = false := by
  have : rngB m.a = false := by
    cases hr : rngB m.a
    · rfl
    · have := rngB_iff.1 hr _ (List.getElem_mem hk); omega
  simp [fineB, this]
theorem fine_all {m : Md} (h1 : letB m.c = true) (h2 : m.a.length ≤ 4) (h3 : braB m.c = false ∨ m.a.length = 0) (h4 : ∀ j, (h : j < m.a.length) → -1000000000 ≤ m.a[j] ∧ m.a[j] ≤ 1000000000) : fineB m = true := by
  have e2 : decide (m.a.length ≤ 4) = true := decide_eq_true h2
  have e3 : (braB m.c && decide (0 < m.a.length)) = false := by
    rcases h3 with h | h
    · rw [h]; rfl
    · rw [h]; simp
  have e4 : rngB m.a = true := rngB_iff.2 fun x hx => by
    obtain ⟨j, hj, rfl⟩ := List.mem_iff_getElem.1 hx
    exact h4 j hj
  simp [fineB, h1, e2, e3, e4]
set_option maxHeartbeats 800000 in
theorem fine_any (m : Md) (v : Value) (hm : m.a.length ≤ 9223372036854775807) (w : World) (hv : Ints w v m.a) : Calls Tryz.prog 22 #[.agg #[.int .u8 m.c.toNat, v]] w fun e w' => e = .returned (.bool (fineB m)) ∧ Below w.heap.size w w' := by
  obtain ⟨p, cap, rfl⟩ := hv.slice
  have HV := Lib.hid hv
  obtain ⟨W0, hW0⟩ : ∃ W, W = w.alloc (.cells #[.int .u8 m.c.toNat, .slice p m.a.length cap] 27) := ⟨_, rfl⟩
  have N0 : W0.heap[w.heap.size]? = some (.cells #[.int .u8 m.c.toNat, .slice p m.a.length cap] 27 (0, 0)) := by rw [hW0]; exact heap_alloc_new _ _
  have B0 : Below w.heap.size w W0 := by rw [hW0]; exact (Below.refl _ _).alloc (Nat.le_refl _) _
  have HB := Lib.hid B0
  have HV0 := Lib.hid (hv.later B0)
  have q0 := cell_two0 N0
  have q1 := cell_two1 N0
  have l1 := lt_of_block N0
  clear N0 B0 hv
  cases hl : letB m.c with
  | false =>
    have HF := Lib.hid (fine_let0 hl)
    have HC : Hid (∀ w, Calls Tryz.prog 33 #[.int .u8 m.c.toNat] w fun e w' => e = .returned (.bool false) ∧ w = w') := Lib.hid (fun w => by have := letter_any m.c w; rwa [hl] at this)
    clear hl
    go_enter Tryz.func22, Tryz.ntmps22
    go_wp2_with fail
    rw [← hW0]
    clear hW0
    go_wp2_with (go_at_call 33; refine (HC.out _).mono ?_; rintro e w2 ⟨rfl, rfl⟩)
    go_ret
    exact ⟨ret_bool HF.out.symm, HB.out⟩
  | true =>
    have HC : Hid (∀ w, Calls Tryz.prog 33 #[.int .u8 m.c.toNat] w fun e w' => e = .returned (.bool true) ∧ w = w') := Lib.hid (fun w => by have := letter_any m.c w; rwa [hl] at this)
    by_cases h4 : 4 < m.a.length
    · have HF := Lib.hid (fine_len h4)
      have h4' : (4 : Int) < (m.a.length : Int) := by omega
      clear hl
      go_enter Tryz.func22, Tryz.ntmps22
      go_wp2_with fail
      rw [← hW0]
      clear hW0
      go_wp2_with (go_at_call 33; refine (HC.out _).mono ?_; rintro e w2 ⟨rfl, rfl⟩)
      go_ret
      exact ⟨ret_bool HF.out.symm, HB.out⟩
    · have h4' : ¬ (4 : Int) < (m.a.length : Int) := by omega
      have HL := Lib.hid hl
      have walk : ∀ (t1 t2 : Bool), ((m.c.toNat : Int) == 91) = t1 → ((m.c.toNat : Int) == 93) = t2 → braB m.c = (t1 || t2) →
          Calls Tryz.prog 22 #[.agg #[.int .u8 m.c.toNat, .slice p m.a.length cap]] w fun e w' => e = .returned (.bool (fineB m)) ∧ Below w.heap.size w w' := by
        intro t1 t2 e1 e2 hb
        have HBr := Lib.hid hb
        clear hl hb
        by_cases hz : (t1 || t2) = true ∧ 0 < m.a.length
        · have HF := Lib.hid (fine_bra (HBr.out.trans hz.1) hz.2)
          have hz2 : (0 : Int) < (m.a.length : Int) := by omega
          have hz1 := hz.1
          clear hz
          cases t1 with
          | true =>
            go_enter Tryz.func22, Tryz.ntmps22
            go_wp2_with fail
            rw [← hW0]
            clear hW0
            go_wp2_with (go_at_call 33; refine (HC.out _).mono ?_; rintro e w2 ⟨rfl, rfl⟩)
            go_ret
            exact ⟨ret_bool HF.out.symm, HB.out⟩
          | false =>
            have hz3 : t2 = true := hz1
            subst hz3
            go_enter Tryz.func22, Tryz.ntmps22
            go_wp2_with fail
            rw [← hW0]
            clear hW0
            go_wp2_with (go_at_call 33; refine (HC.out _).mono ?_; rintro e w2 ⟨rfl, rfl⟩)
            go_ret
            exact ⟨ret_bool HF.out.symm, HB.out⟩
        · have hz3 : (t1 = false ∧ t2 = false) ∨ m.a.length = 0 := by
            rcases Nat.eq_zero_or_pos m.a.length with h | h
            · exact .inr h
            · left
              cases t1 <;> cases t2 <;> simp_all
          have HZ : Hid (braB m.c = false ∨ m.a.length = 0) := Lib.hid (by
            rcases hz3 with ⟨rfl, rfl⟩ | h
            · exact .inl HBr.out
            · exact .inr h)
          clear hz
          rcases hz3 with ⟨rfl, rfl⟩ | hl0
          · go_enter Tryz.func22, Tryz.ntmps22
            go_wp2_with fail
            rw [← hW0]
            clear hW0
            go_wp2_with (go_at_call 33; refine (HC.out _).mono ?_; rintro e w2 ⟨rfl, rfl⟩)
            go_loop [3] (fun i => ∃ k : Nat, k ≤ m.a.length ∧ i = .int .i64 k ∧ ∀ j, (h : j < m.a.length) → j < k → -1000000000 ≤ m.a[j] ∧ m.a[j] ≤ 1000000000) (fun i => m.a.length - (intOf i).toNat)
            case atStart => exact ⟨0, Nat.zero_le _, rfl, fun j _ h => by omega⟩
            case round =>
              obtain ⟨k, hk, rfl, hok⟩ := hrel
              have HK := Lib.hid hok
              clear hok
              by_cases hlt : k < m.a.length
              · obtain ⟨b, off, cap', hp, e1', lb⟩ := HV0.out.at hlt
                obtain rfl : p = some ⟨b, off, none⟩ := by cases hp; rfl
                obtain ⟨y, hy⟩ : ∃ y, m.a[k] = y := ⟨_, rfl⟩
                have HY : Hid (m.a[k] = y) := Lib.hid hy
                rw [hy] at e1'
                clear hp hy
                have k1 : (k : Int) < (m.a.length : Int) := by omega
                by_cases y1 : y < -1000000000
                · have HF := Lib.hid (fine_rng hlt (.inl (by rw [HY.out]; exact y1)))
                  go_wp2_with fail
                  go_ret
                  exact ⟨ret_bool HF.out.symm, HB.out⟩
                · by_cases y2 : 1000000000 < y
                  · have HF := Lib.hid (fine_rng hlt (.inr (by rw [HY.out]; exact y2)))
                    go_wp2_with fail
                    go_ret
                    exact ⟨ret_bool HF.out.symm, HB.out⟩
                  · have HG : Hid (∀ j, (h : j < m.a.length) → j < k + 1 → -1000000000 ≤ m.a[j] ∧ m.a[j] ≤ 1000000000) := Lib.hid (fun j h hj => by
                      rcases Nat.lt_or_eq_of_le (Nat.le_of_lt_succ hj) with h1 | h1
                      · exact HK.out j h h1
                      · subst h1; rw [HY.out]; omega)
                    go_wp2_with fail
                    go_round
                    case rel => exact ⟨k + 1, by omega, by go_num, HG.out⟩
                    case measure => simp [intOf]; omega
              · obtain rfl : k = m.a.length := by omega
                have HF := Lib.hid (fine_all HL.out (by omega) HZ.out fun j h => HK.out j h h)
                go_wp2_with fail
                go_ret
                exact ⟨ret_bool HF.out.symm, HB.out⟩
          · have hl1 : ¬ (0 : Int) < (m.a.length : Int) := by omega
            clear hl0
            cases t1 with
            | true =>
              go_enter Tryz.func22, Tryz.ntmps22
              go_wp2_with fail
              rw [← hW0]
              clear hW0
              go_wp2_with (go_at_call 33; refine (HC.out _).mono ?_; rintro e w2 ⟨rfl, rfl⟩)
              go_loop [3] (fun i => ∃ k : Nat, k ≤ m.a.length ∧ i = .int .i64 k ∧ ∀ j, (h : j < m.a.length) → j < k → -1000000000 ≤ m.a[j] ∧ m.a[j] ≤ 1000000000) (fun i => m.a.length - (intOf i).toNat)
              case atStart => exact ⟨0, Nat.zero_le _, rfl, fun j _ h => by omega⟩
              case round =>
                obtain ⟨k, hk, rfl, hok⟩ := hrel
                have HK := Lib.hid hok
                clear hok
                by_cases hlt : k < m.a.length
                · exfalso; omega
                · obtain rfl : k = m.a.length := by omega
                  have HF := Lib.hid (fine_all HL.out (by omega) HZ.out fun j h => HK.out j h h)
                  go_wp2_with fail
                  go_ret
                  exact ⟨ret_bool HF.out.symm, HB.out⟩
            | false =>
              cases t2 with
              | true =>
                go_enter Tryz.func22, Tryz.ntmps22
                go_wp2_with fail
                rw [← hW0]
                clear hW0
                go_wp2_with (go_at_call 33; refine (HC.out _).mono ?_; rintro e w2 ⟨rfl, rfl⟩)
                go_loop [3] (fun i => ∃ k : Nat, k ≤ m.a.length ∧ i = .int .i64 k ∧ ∀ j, (h : j < m.a.length) → j < k → -1000000000 ≤ m.a[j] ∧ m.a[j] ≤ 1000000000) (fun i => m.a.length - (intOf i).toNat)
                case atStart => exact ⟨0, Nat.zero_le _, rfl, fun j _ h => by omega⟩
                case round =>
                  obtain ⟨k, hk, rfl, hok⟩ := hrel
                  have HK := Lib.hid hok
                  clear hok
                  by_cases hlt : k < m.a.length
                  · exfalso; omega
                  · obtain rfl : k = m.a.length := by omega
                    have HF := Lib.hid (fine_all HL.out (by omega) HZ.out fun j h => HK.out j h h)
                    go_wp2_with fail
                    go_ret
                    exact ⟨ret_bool HF.out.symm, HB.out⟩
              | false =>
                go_enter Tryz.func22, Tryz.ntmps22
                go_wp2_with fail
                rw [← hW0]
                clear hW0
                go_wp2_with (go_at_call 33; refine (HC.out _).mono ?_; rintro e w2 ⟨rfl, rfl⟩)
                go_loop [3] (fun i => ∃ k : Nat, k ≤ m.a.length ∧ i = .int .i64 k ∧ ∀ j, (h : j < m.a.length) → j < k → -1000000000 ≤ m.a[j] ∧ m.a[j] ≤ 1000000000) (fun i => m.a.length - (intOf i).toNat)
                case atStart => exact ⟨0, Nat.zero_le _, rfl, fun j _ h => by omega⟩
                case round =>
                  obtain ⟨k, hk, rfl, hok⟩ := hrel
                  have HK := Lib.hid hok
                  clear hok
                  by_cases hlt : k < m.a.length
                  · exfalso; omega
                  · obtain rfl : k = m.a.length := by omega
                    have HF := Lib.hid (fine_all HL.out (by omega) HZ.out fun j h => HK.out j h h)
                    go_wp2_with fail
                    go_ret
                    exact ⟨ret_bool HF.out.symm, HB.out⟩
      exact walk _ _ rfl rfl (by
        rw [show (91 : Int) = ((91 : UInt8).toNat : Int) from rfl, show (93 : Int) = ((93 : UInt8).toNat : Int) from rfl, u8_eq, u8_eq]; rfl)

def greatB (l : List Md) : Bool := decide (2100 < l.length) || l.any fun m => decide (10 < m.a.length)
theorem great_no {l : List Md} (h : greatB l = false) : l.length ≤ 2100 ∧ ∀ m ∈ l, m.a.length ≤ 10 := by
  unfold greatB at h
  rw [Bool.or_eq_false_iff, decide_eq_false_iff_not, List.any_eq_false] at h
  refine ⟨by omega, fun m hm => ?_⟩
  have := h.2 m hm
  simpa using this
theorem great_long {l : List Md} (h : 2100 < l.length) : greatB l = true := by simp [greatB, h]
theorem great_args {l : List Md} {k : Nat} (hk : k < l.length) (h : 10 < l[k].a.length) : greatB l = true := by
  unfold greatB
  rw [Bool.or_eq_true]; right
  rw [List.any_eq_true]
  exact ⟨l[k], List.getElem_mem hk, by simpa using h⟩
theorem great_end {l : List Md} (h : l.length ≤ 2100) (h2 : ∀ j, (h : j < l.length) → l[j].a.length ≤ 10) : greatB l = false := by
  unfold greatB
  rw [Bool.or_eq_false_iff, decide_eq_false_iff_not, List.any_eq_false]
  refine ⟨by omega, fun m hm => ?_⟩
  obtain ⟨j, hj, rfl⟩ := List.mem_iff_getElem.1 hm
  have := h2 j hj
  simp; omega
set_option maxHeartbeats 800000 in
theorem great_any (v : Value) (l : List Md) (hmax : l.length ≤ 9223372036854775807) (w : World) (hv : Mods w v l) (hi : ∀ m ∈ l, m.a.length ≤ 9223372036854775807) :
    Calls Tryz.prog 11 #[v] w fun e w' => e = .returned (.bool (greatB l)) ∧ w = w' := by
  obtain ⟨p, cap, rfl⟩ := hv.slice
  have HV := Lib.hid hv
  have HI := Lib.hid hi
  clear hv hi
  by_cases hlen : 2100 < l.length
  · have HG := Lib.hid (great_long hlen)
    have c1 : (2100 : Int) < (l.length : Int) := by omega
    go_enter Tryz.func11, Tryz.ntmps11
    go_wp2_with fail
    go_ret
    exact ⟨ret_bool HG.out.symm, rfl⟩
  · have c1 : ¬ (2100 : Int) < (l.length : Int) := by omega
    go_enter Tryz.func11, Tryz.ntmps11
    go_wp2_with fail
    go_loop [3] (fun i => ∃ k : Nat, k ≤ l.length ∧ i = .int .i64 k ∧ ∀ j, (h : j < l.length) → j < k → l[j].a.length ≤ 10) (fun i => l.length - (intOf i).toNat)
    case atStart => exact ⟨0, Nat.zero_le _, rfl, fun j _ h => by omega⟩
    case round =>
      obtain ⟨k, hk, rfl, hok⟩ := hrel
      have HK := Lib.hid hok
      clear hok
      by_cases hlt : k < l.length
      · obtain ⟨b, off, cap', q, c, hp, e1, e2, _, lb⟩ := HV.out.at hlt
        obtain rfl : p = some ⟨b, off, none⟩ := by cases hp; rfl
        have hin := HI.out l[k] (List.getElem_mem hlt)
        by_cases hg : 10 < l[k].a.length
        · have HF := Lib.hid (great_args hlt hg)
          have c2 : (10 : Int) < (l[k].a.length : Int) := by omega
          clear hp e1
          generalize l[k].a.length = n at e2 hg c2 hin
          go_wp2_with fail
          go_ret
          exact ⟨ret_bool HF.out.symm, rfl⟩
        · have HG : Hid (∀ j, (h : j < l.length) → j < k + 1 → l[j].a.length ≤ 10) := Lib.hid (fun j h hj => by
            rcases Nat.lt_or_eq_of_le (Nat.le_of_lt_succ hj) with h1 | h1
            · exact HK.out j h h1
            · subst h1; omega)
          have c2 : ¬ (10 : Int) < (l[k].a.length : Int) := by omega
          clear hp e1
          generalize l[k].a.length = n at e2 hg c2 hin
          go_wp2_with fail
          go_round
          case rel => exact ⟨k + 1, by omega, by go_num, HG.out⟩
          case measure => simp [intOf]; omega
      · obtain rfl : k = l.length := by omega
        have HF := Lib.hid (great_end (by omega) fun j h => HK.out j h h)
        go_wp2_with fail
        go_ret
        exact ⟨ret_bool HF.out.symm, rfl⟩
end Go.Proofs.YtlmofdmbcddddaaGreatDoor
namespace Go.Proofs.YtlmofdmbcddddaaGreatDoor
open Go.RowKit
open WM
set_option linter.unusedVariables false
set_option linter.unusedSimpArgs false

theorem info_int : (Tryz.prog.info? 3).map (fun i => (i.zero, i.size, i.bytes)) = some (some (.int .i64 0), 1, 8) := by kernel_rfl
theorem info_parts {P : Program} {t : TypeId} {z : Value} {s b : Nat} (h : (P.info? t).map (fun i => (i.zero, i.size, i.bytes)) = some (some z, s, b)) : ∃ i, P.info? t = some i ∧ i.zero = some z ∧ i.size = s ∧ i.bytes = b := by
  cases hi : P.info? t with
  | none => rw [hi] at h; simp at h
  | some i => rw [hi] at h; simp at h; exact ⟨i, rfl, h.1, h.2.1, h.2.2⟩
def valsL (l : List Int) : List Value := l.map (Value.int .i64)
theorem row_of_owned {w : World} {base n : Nat} {v : Value} {l : List Int} (h : w.ownsRow base 3 1 v n (valsL l)) (hn : n ≠ 0) :
    ∃ g cap, v = .slice (some ⟨g, 0, none⟩) l.length cap ∧ base ≤ g ∧ RowI w g l := by
  obtain ⟨h1, h2⟩ := h
  have hl : l.length = n := by simpa [valsL] using h1
  rcases h2 with ⟨_, h0⟩ | ⟨g, cap, cur, hv, hb, hg, hc1, hc2, hsz, htake⟩
  · exact absurd h0 hn
  · refine ⟨g, cap, by rw [hl]; exact hv, hb, cur, hg, by rw [hsz, hl]; omega, fun i hi => ?_⟩
    have e : (cur.toList.take (n * 1))[i]? = (valsL l)[i]? := by rw [htake]
    rw [List.getElem?_take_of_lt (by omega)] at e
    rw [Array.getElem?_toList] at e
    rw [e]; simp [valsL, hi]
theorem grown_step {w wr w1 : World} {v : Value} {n : Nat} {xs : List Value} {e : TypeId} {tmp : Obj} (hB : Below w.heap.size w wr) (hown : wr.ownsRow w.heap.size e 1 v n xs) (hg : (wr.alloc tmp).grownBy w1 v.ownBlock) : Below w.heap.size w w1 :=
  (hB.alloc hB.size tmp).grown hg (by simp; have := hB.size; omega) fun j ej => (hown.lt j ej).1
theorem valsL_app (a b : List Int) : valsL (a ++ b) = valsL a ++ valsL b := by simp [valsL]
theorem ints_of_owned {w : World} {base : Nat} {v : Value} {l : List Int} (h : w.ownsRow base 3 1 v l.length (valsL l)) : Ints w v l := by
  rcases Nat.eq_zero_or_pos l.length with h0 | h0
  · have e : l = [] := List.length_eq_zero_iff.1 h0
    subst e
    rcases h.2 with ⟨hv, _⟩ | ⟨g, cap, cur, hv, _⟩
    · rw [hv]; exact .none _ _
    · rw [hv]; exact .none _ _
  · obtain ⟨g, cap, rfl, _, hr⟩ := row_of_owned h (by omega)
    exact hr.ints cap
end Go.Proofs.YtlmofdmbcddddaaGreatDoor
namespace Go.Proofs.YtlmofdmbcddddaaGreatDoor
open Go.RowKit
open WM
set_option linter.unusedVariables false
set_option linter.unusedSimpArgs false

theorem dep_hi (l : List Md) : ∀ k, k ≤ l.length → dep (l.take k) ≤ k := by
  intro k
  induction k with
  | zero => intro _; simp [dep_nil]
  | succ k ih =>
    intro h
    have h1 := ih (by omega)
    rw [dep_snoc (by omega)]
    rcases dlt_cases l[k] with e | e | e <;> rw [e] <;> omega
/-- How Open ends. -/
def OpEnd (l : List Md) (w : World) (e : Ending) (w' : World) : Prop :=
  Below w.heap.size w w' ∧ ((okB l l.length = false ∧ e = .returned (.tuple #[.slice none 0 0, .bool false])) ∨ (okB l l.length = true ∧ ∃ v, e = .returned (.tuple #[v, .bool true]) ∧ Ints w' v (opnL l l.length)))
/-- Where Open stands. -/
structure OpAt (w : World) (l : List Md) (k : Nat) (v : Value) (wr : World) : Prop where
  hi : k ≤ l.length
  ok : okB l k = true
  own : wr.ownsRow w.heap.size 3 1 v k (valsL (opnL l k))
  below : Below w.heap.size w wr
theorem OpAt.rng {w wr : World} {l : List Md} {k : Nat} {v : Value} (h : OpAt w l k v wr) : 0 ≤ dep (l.take k) ∧ dep (l.take k) ≤ k := by
  refine ⟨?_, dep_hi l k h.hi⟩
  rcases Nat.eq_zero_or_pos k with h0 | h0
  · subst h0; simp [dep_nil]
  · have := okB_iff.1 h.ok (k - 1) (by omega)
    rwa [show k - 1 + 1 = k by omega] at this
set_option maxRecDepth 100000 in
set_option maxHeartbeats 1600000 in
theorem open_any (v : Value) (l : List Md) (hmax : l.length ≤ 2100) (w : World) (hv : Mods w v l) :
    Calls Tryz.prog 23 #[v] w (OpEnd l w) := by
  obtain ⟨p, cap, rfl⟩ := hv.slice
  have HV := Lib.hid hv
  obtain ⟨i0, hi, hz0, hz1, hz2⟩ := info_parts info_int
  have HM : Hid (maxLen = 9223372036854775807) := Lib.hid rfl
  clear hv
  go_enter Tryz.func23, Tryz.ntmps23
  go_wp2_with fail
  go_loopw [4, 5, 6] (fun v n i wr => ∃ k : Nat, i = .int .i64 k ∧ n = .int .i64 (dep (l.take k)) ∧ OpAt w l k v wr) (fun _ _ i _ => l.length - (intOf i).toNat)
  case atStart => exact ⟨0, rfl, by simp [dep_nil], Nat.zero_le _, okB_zero l, World.ownsRow_nil _ _ _ _, Below.refl _ _⟩
  case round =>
    obtain ⟨k, rfl, rfl, hO⟩ := hrel
    have HO := Lib.hid hO
    have n1 := hO.hi
    have n2 := hO.rng
    have hown := hO.own
    have hsz := hO.below.size
    clear hO
    by_cases hlt : k < l.length
    · obtain ⟨b, off, cap', q, c, hp, e1, e2, _, lb⟩ := (HV.out.later (HO.out.below.mono (Nat.le_refl _))).at hlt
      obtain rfl : p = some ⟨b, off, none⟩ := by cases hp; rfl
      have hs := dep_snoc hlt
      have ho := okB_succ l k
      have HS : Hid (valsL (opnL l (k + 1)) = valsL (opnL l k) ++ [.int .i64 (dep (l.take (k + 1)))]) := Lib.hid (by rw [opnL_succ, valsL_app]; rfl)
      have HD : Hid (dep (l.take (k + 1)) = dep (l.take k) + dlt l[k]) := Lib.hid hs
      have HOk : Hid (0 ≤ dep (l.take (k + 1)) → okB l (k + 1) = true) := Lib.hid (fun h => by rw [ho, HO.out.ok]; simpa using h)
      clear hp e2 hs ho
      clear HV
      by_cases c1 : l[k].c = 91
      · have t1 : ((l[k].c.toNat : Int) == 91) = true := by rw [c1]; rfl
        have t2 : ((l[k].c.toNat : Int) == 93) = false := by rw [c1]; rfl
        have HX : Hid (dep (l.take (k + 1)) = dep (l.take k) + 1) := Lib.hid (by rw [HD.out]; unfold dlt; rw [if_pos c1])
        clear c1
        generalize l[k].c.toNat = cn at e1 t1 t2
        obtain ⟨d, hd⟩ : ∃ d, dep (l.take k) = d := ⟨_, rfl⟩
        rw [hd] at HX n2 ⊢
        clear hd
        go_wp2_with (at_builtin; refine wpList_append_own _ rfl _ _ 25 rfl w.heap.size 3 i0 (.int .i64 0) 1 8 Tryz.underlying25 hi hz0 hz1 hz2 rfl (by decide) _ _ _ rfl (hown.alloc _) ⟨wr.heap.size, 0, none⟩ 1 1 [.int .i64 (d + 1)] rfl rfl (cell_one_new _ _ _) (by simp [Value.oneCell']) (by rw [HM.out]; omega) (by omega) (by simp; omega) ?_; intro v' w1 hown' hgrow _)
        go_roundw
        case rel => exact ⟨k + 1, by go_num, by rw [HX.out], hlt, HOk.out (by rw [HX.out]; omega), by rw [HS.out, HX.out]; exact hown', grown_step HO.out.below hown hgrow⟩
        case measure => simp [intOf]; omega
      · by_cases c2 : l[k].c = 93
        · have t1 : ((l[k].c.toNat : Int) == 91) = false := by rw [c2]; rfl
          have t2 : ((l[k].c.toNat : Int) == 93) = true := by rw [c2]; rfl
          have HX : Hid (dep (l.take (k + 1)) = dep (l.take k) - 1) := Lib.hid (by rw [HD.out]; unfold dlt; rw [if_neg c1, if_pos c2]; omega)
          clear c1 c2
          generalize l[k].c.toNat = cn at e1 t1 t2
          obtain ⟨d, hd⟩ : ∃ d, dep (l.take k) = d := ⟨_, rfl⟩
          rw [hd] at HX n2 ⊢
          clear hd
          by_cases hneg : d - 1 < 0
          · have HF : Hid (okB l l.length = false) := Lib.hid (by
              cases h : okB l l.length
              · rfl
              · have := okB_iff.1 h k hlt
                rw [HX.out] at this; omega)
            go_wp2_with fail
            go_ret2
            exact ⟨HO.out.below, .inl ⟨HF.out, rfl⟩⟩
          · have hneg2 : 0 ≤ d - 1 := by omega
            go_wp2_with (at_builtin; refine wpList_append_own _ rfl _ _ 25 rfl w.heap.size 3 i0 (.int .i64 0) 1 8 Tryz.underlying25 hi hz0 hz1 hz2 rfl (by decide) _ _ _ rfl (hown.alloc _) ⟨wr.heap.size, 0, none⟩ 1 1 [.int .i64 (d - 1)] rfl rfl (cell_one_new _ _ _) (by simp [Value.oneCell']) (by rw [HM.out]; omega) (by omega) (by simp; omega) ?_; intro v' w1 hown' hgrow _)
            go_roundw
            case rel => exact ⟨k + 1, by go_num, by rw [HX.out], hlt, HOk.out (by rw [HX.out]; omega), by rw [HS.out, HX.out]; exact hown', grown_step HO.out.below hown hgrow⟩
            case measure => simp [intOf]; omega
        · have t1 : ((l[k].c.toNat : Int) == 91) = false := by
            rw [show (91 : Int) = ((91 : UInt8).toNat : Int) from rfl, u8_eq]; exact beq_eq_false_iff_ne.2 c1
          have t2 : ((l[k].c.toNat : Int) == 93) = false := by
            rw [show (93 : Int) = ((93 : UInt8).toNat : Int) from rfl, u8_eq]; exact beq_eq_false_iff_ne.2 c2
          have HX : Hid (dep (l.take (k + 1)) = dep (l.take k)) := Lib.hid (by rw [HD.out]; unfold dlt; rw [if_neg c1, if_neg c2]; omega)
          clear c1 c2
          generalize l[k].c.toNat = cn at e1 t1 t2
          obtain ⟨d, hd⟩ : ∃ d, dep (l.take k) = d := ⟨_, rfl⟩
          rw [hd] at HX n2 ⊢
          clear hd
          have hneg2 : 0 ≤ d := n2.1
          go_wp2_with (at_builtin; refine wpList_append_own _ rfl _ _ 25 rfl w.heap.size 3 i0 (.int .i64 0) 1 8 Tryz.underlying25 hi hz0 hz1 hz2 rfl (by decide) _ _ _ rfl (hown.alloc _) ⟨wr.heap.size, 0, none⟩ 1 1 [.int .i64 (d)] rfl rfl (cell_one_new _ _ _) (by simp [Value.oneCell']) (by rw [HM.out]; omega) (by omega) (by simp; omega) ?_; intro v' w1 hown' hgrow _)
          go_roundw
          case rel => exact ⟨k + 1, by go_num, by rw [HX.out], hlt, HOk.out (by rw [HX.out]; omega), by rw [HS.out, HX.out]; exact hown', grown_step HO.out.below hown hgrow⟩
          case measure => simp [intOf]; omega
    · obtain rfl : k = l.length := by omega
      have HI := Lib.hid (ints_of_owned (l := opnL l l.length) (by rw [opnL_length]; exact hown))
      go_wp2_with fail
      go_ret2
      exact ⟨HO.out.below, .inr ⟨HO.out.ok, _, rfl, HI.out⟩⟩

theorem bad_at {l : List Md} {k : Nat} (hk : k < l.length) (h : fineB l[k] = false) : l.all fineB = false := by
  rw [List.all_eq_false]
  exact ⟨l[k], List.getElem_mem hk, by rw [h]; simp⟩
theorem good_all {l : List Md} (h : ∀ j, (hj : j < l.length) → fineB l[j] = true) : l.all fineB = true := by
  rw [List.all_eq_true]
  intro m hm
  obtain ⟨j, hj, rfl⟩ := List.mem_iff_getElem.1 hm
  exact h j hj
set_option maxRecDepth 100000 in
set_option maxHeartbeats 1600000 in
theorem check_any (v : Value) (l : List Md) (hmax : l.length ≤ 2100) (hargs : ∀ m ∈ l, m.a.length ≤ 10) (w : World) (hv : Mods w v l) :
    Calls Tryz.prog 12 #[v] w fun e w' => e = .returned (.int .i64 (chk l)) ∧ Below w.heap.size w w' := by
  obtain ⟨p, cap, rfl⟩ := hv.slice
  have HV := Lib.hid hv
  have HA := Lib.hid hargs
  clear hv hargs
  by_cases hlen : 2000 < l.length
  · have HC := Lib.hid (chk_many hlen)
    have c1 : (2000 : Int) < (l.length : Int) := by omega
    go_enter Tryz.func12, Tryz.ntmps12
    go_wp2_with fail
    go_ret
    exact ⟨ret_int HC.out.symm, Below.refl _ _⟩
  · have c1 : ¬ (2000 : Int) < (l.length : Int) := by omega
    go_enter Tryz.func12, Tryz.ntmps12
    go_wp2_with fail
    go_loopw [3] (fun i wr => ∃ k : Nat, k ≤ l.length ∧ i = .int .i64 k ∧ Below w.heap.size w wr ∧ ∀ j, (h : j < l.length) → j < k → fineB l[j] = true) (fun i _ => l.length - (intOf i).toNat)
    case atStart => exact ⟨0, Nat.zero_le _, rfl, Below.refl _ _, fun j _ h => by omega⟩
    case round =>
      obtain ⟨k, hk, rfl, hb, hok⟩ := hrel
      have HK := Lib.hid hok
      have HB := Lib.hid hb
      clear hok hb
      by_cases hlt : k < l.length
      · obtain ⟨b, off, cap', q, c, hp, e1, e2, hin, lb⟩ := (HV.out.later (HB.out.mono (Nat.le_refl _))).at hlt
        obtain rfl : p = some ⟨b, off, none⟩ := by cases hp; rfl
        have HF := Lib.hid (fine_any l[k] _ (by have := HA.out _ (List.getElem_mem hlt); omega) wr hin)
        obtain ⟨t, ht⟩ : ∃ t, fineB l[k] = t := ⟨_, rfl⟩
        have HT := Lib.hid ht
        rw [ht] at HF
        clear hp hin ht
        generalize l[k].c.toNat = cn at e1 HF
        generalize l[k].a.length = an at e2 HF
        cases t with
        | false =>
          have HC := Lib.hid (chk_bad hlen (bad_at hlt HT.out))
          go_wp2_with fail
          refine HF.out.mono ?_
          rintro e w1 ⟨rfl, hb⟩
          have HB1 := Lib.hid (HB.out.trans (hb.mono HB.out.size))
          clear hb
          go_wp2_with fail
          go_ret
          exact ⟨ret_int HC.out.symm, HB1.out⟩
        | true =>
          have HG : Hid (∀ j, (h : j < l.length) → j < k + 1 → fineB l[j] = true) := Lib.hid (fun j h hj => by
            rcases Nat.lt_or_eq_of_le (Nat.le_of_lt_succ hj) with h1 | h1
            · exact HK.out j h h1
            · subst h1; exact HT.out)
          go_wp2_with fail
          refine HF.out.mono ?_
          rintro e w1 ⟨rfl, hb⟩
          have HB1 := Lib.hid (HB.out.trans (hb.mono HB.out.size))
          clear hb
          go_wp2_with fail
          go_roundw
          case rel => exact ⟨k + 1, by omega, by go_num, HB1.out, HG.out⟩
          case measure => simp [intOf]; omega
      · obtain rfl : k = l.length := by omega
        have HGd := Lib.hid (good_all fun j h => HK.out j h h)
        have HO := Lib.hid (open_any _ l hmax wr (HV.out.later (HB.out.mono (Nat.le_refl _))))
        go_wp2_with fail
        refine HO.out.mono ?_
        rintro e w1 ⟨hb, ⟨hno, rfl⟩ | ⟨hyes, v1, rfl, hi⟩⟩
        · have HB1 := Lib.hid (HB.out.trans (hb.mono HB.out.size))
          have HC := Lib.hid (chk_open hlen HGd.out (by rw [hno]; rfl))
          clear hb hno
          go_wp2_with fail
          go_ret
          exact ⟨ret_int HC.out.symm, HB1.out⟩
        · have HB1 := Lib.hid (HB.out.trans (hb.mono HB.out.size))
          have HI := Lib.hid hi
          obtain ⟨p1, cap1, rfl⟩ := hi.slice
          have hlenO : (opnL l l.length).length = l.length := opnL_length _ _
          rw [hlenO] at HI ⊢
          have HY := Lib.hid hyes
          clear hb hyes hi
          by_cases h0 : 0 < l.length
          · obtain ⟨b, off, cap', hp, e1, lb⟩ := HI.out.at (k := l.length - 1) (by rw [hlenO]; omega)
            rw [hlenO] at hp
            obtain rfl : p1 = some ⟨b, off, none⟩ := by cases hp; rfl
            rw [opnL_get (by omega), show l.length - 1 + 1 = l.length by omega, List.take_length] at e1
            have hge := okB_iff.1 HY.out (l.length - 1) (by omega)
            rw [show l.length - 1 + 1 = l.length by omega, List.take_length] at hge
            have n3 : ((l.length : Int) - 1).toNat = l.length - 1 := by omega
            have n4 : (0 : Int) ≤ (l.length : Int) - 1 := by omega
            have n5 : (l.length : Int) - 1 < (l.length : Int) := by omega
            have n6 : (0 : Int) < (l.length : Int) := by omega
            clear hp hlenO
            by_cases hd : dep l = 0
            · have HC : Hid (chk l = 0) := Lib.hid (chk_zero.2 ⟨by omega, HGd.out, HY.out, hd⟩)
              obtain ⟨d, hdd⟩ : ∃ d, dep l = d := ⟨_, rfl⟩
              rw [hdd] at e1 hge hd
              clear hdd
              subst hd
              go_wp2_with fail
              go_ret
              exact ⟨ret_int HC.out.symm, HB1.out⟩
            · have HC := Lib.hid (chk_open hlen HGd.out (by simp [hd]))
              obtain ⟨d, hdd⟩ : ∃ d, dep l = d := ⟨_, rfl⟩
              rw [hdd] at e1 hge hd
              clear hdd
              have hd1 : 0 < d := by omega
              go_wp2_with fail
              go_ret
              exact ⟨ret_int HC.out.symm, HB1.out⟩
          · have hl0 : l = [] := List.length_eq_zero_iff.1 (by omega)
            have HC : Hid (chk l = 0) := Lib.hid (by rw [hl0]; rfl)
            have n6 : ¬ (0 : Int) < (l.length : Int) := by omega
            clear hl0
            go_wp2_with fail
            go_ret
            exact ⟨ret_int HC.out.symm, HB1.out⟩
end Go.Proofs.YtlmofdmbcddddaaGreatDoor
namespace Go.Proofs.YtlmofdmbcddddaaGreatDoor
open Go.RowKit
open WM
set_option linter.unusedVariables false
set_option linter.unusedSimpArgs false

theorem md_ext {a b : Md} (h1 : a.c = b.c) (h2 : a.a = b.a) : a = b := by cases a; cases b; simp_all
theorem u8_ne {x y : UInt8} : ((x.toNat : Int) != (y.toNat : Int)) = !(x == y) := by rw [← u8_eq]; rfl
theorem same_at {a b : List Md} {k : Nat} (h1 : k < a.length) (h2 : k < b.length) (h : a[k] ≠ b[k]) : decide (a = b) = false := decide_eq_false (fun e => by subst e; exact h rfl)
end Go.Proofs.YtlmofdmbcddddaaGreatDoor
namespace Go.Proofs.YtlmofdmbcddddaaGreatDoor
open Go.RowKit
open WM
set_option linter.unusedVariables false
set_option linter.unusedSimpArgs false

/-- The table of powers of ten that the library's decimals are made with. -/
def Tab (w : World) : Prop := Lib.TabIs Tryz.prog w "internal/strconv.uint64pow10" .u64 Lib.pow10Tab
theorem tab_named : Tryz.prog.globalNamed "internal/strconv.uint64pow10" = some 3 := by kernel_rfl
theorem syn_named : Tryz.prog.globalNamed "strconv.ErrSyntax" = some 1 := by kernel_rfl
theorem rge_named : Tryz.prog.globalNamed "strconv.ErrRange" = some 2 := by kernel_rfl
theorem var_lt {w : World} {s : String} {g : Nat} {cs : Array Value} (hn : Tryz.prog.globalNamed s = some g) (h : w.var? Tryz.prog s = some cs) : g < w.heap.size := by
  unfold World.var? at h
  simp only [hn, Option.bind_some] at h
  rcases Nat.lt_or_ge g w.heap.size with h' | h'
  · exact h'
  · simp [Array.getElem?_eq_none h'] at h
theorem Tab.later {w w1 : World} (h : Tab w) (hb : Below w.heap.size w w1) : Tab w1 := var?_below hb tab_named (var_lt tab_named h) h
/-- The library's variable that its search reads holds some integer. -/
def Len (w : World) : Prop := ∃ m, w.cell? ⟨0, 0, none⟩ = some (.int .i64 m)
theorem Len.lt {w : World} (h : Len w) : 0 < w.heap.size := by
  obtain ⟨m, hm⟩ := h
  rcases Nat.lt_or_ge 0 w.heap.size with h | h
  · exact h
  · simp [World.cell?, Array.getElem?_eq_none h] at hm
theorem Len.later {w w1 : World} (h : Len w) (hb : Below w.heap.size w w1) : Len w1 := by
  have hn := h.lt
  obtain ⟨m, hm⟩ := h
  exact ⟨m, by rw [← hm]; unfold World.cell?; rw [hb.block _ hn]⟩
/-- What the library's functions lean on. -/
structure Env (w : World) : Prop where
  tab : Tab w
  len : Len w
  syn : ∃ tp p, w.var? Tryz.prog "strconv.ErrSyntax" = some #[.iface tp p]
  rge : ∃ tp p, w.var? Tryz.prog "strconv.ErrRange" = some #[.iface tp p]
theorem Env.later {w w1 : World} (h : Env w) (hb : Below w.heap.size w w1) : Env w1 := by
  refine ⟨h.tab.later hb, h.len.later hb, ?_, ?_⟩
  · obtain ⟨tp, p, e⟩ := h.syn
    exact ⟨tp, p, var?_below hb syn_named (var_lt syn_named e) e⟩
  · obtain ⟨tp, p, e⟩ := h.rge
    exact ⟨tp, p, var?_below hb rge_named (var_lt rge_named e) e⟩
theorem itoa_lib (n : Int) (h0 : -9223372036854775808 ≤ n) (h1 : n ≤ 9223372036854775807) (w : World) (he : Env w) :
    Calls Tryz.prog 58 #[.int .i64 n] w fun e w' => e = .returned (.string (bA (Lib.itoa n))) ∧ Below w.heap.size w w' := by
  refine (Tryz.strconv_Itoa n h0 h1 w he.tab).mono ?_
  rintro e w' ⟨he, k, os, rfl⟩
  exact ⟨he, Lib.below_grow _ w (Nat.le_refl _) k os⟩
theorem cut_lib (s : ByteArray) (c : UInt8) (hs : s.size ≤ 200000) (w : World) (hl : Env w) :
    Calls Tryz.prog 49 #[.string s, .string ⟨#[c]⟩] w fun e w' => e = .returned (.tuple #[.string (bA (Lib.cut (lA s) [c]).1), .string (bA (Lib.cut (lA s) [c]).2.1), .bool (Lib.cut (lA s) [c]).2.2]) ∧ Below w.heap.size w w' := by
  obtain ⟨m, hm⟩ := hl.len
  refine (Any.strings_Cut { Tryz.laysM145 with } s ⟨#[c]⟩ m w (by omega) hm).mono ?_
  rintro e w' ⟨he, n, rfl⟩
  exact ⟨he, below_drewN (Below.refl _ _) n⟩
theorem prefix_lib (s : ByteArray) (c : UInt8) (w : World) :
    Calls Tryz.prog 48 #[.string s, .string ⟨#[c]⟩] w fun e w' => e = .returned (.tuple #[.string (bA (if (lA s).head? = some c then (lA s).tail else lA s)), .bool (decide ((lA s).head? = some c))]) ∧ w = w' := by
  have hp : Lib.hasPrefix (lA s) [c] = decide ((lA s).head? = some c) := by
    unfold Lib.hasPrefix
    cases lA s with
    | nil => simp
    | cons a t =>
      by_cases h : a = c
      · subst h; simp
      · have h2 : ¬ c = a := fun e => h e.symm
        have h3 : (c == a) = false := beq_eq_false_iff_ne.2 h2
        simp [List.isPrefixOf, h, h3]
  have ht : Lib.trimPrefix (lA s) [c] = if (lA s).head? = some c then (lA s).tail else lA s := by
    unfold Lib.trimPrefix
    rw [hp]
    by_cases h : (lA s).head? = some c
    · simp [h]
    · simp [h]
  refine (Tryz.strings_CutPrefix s ⟨#[c]⟩ w).mono fun e w' ⟨h1, h2⟩ => ⟨?_, h2.symm⟩
  rw [h1]
  show Ending.returned (.tuple #[.string ⟨(Lib.trimPrefix (lA s) [c]).toArray⟩, .bool (Lib.hasPrefix (lA s) [c])]) = _
  rw [hp, ht]; rfl
theorem split_lib (s : ByteArray) (hs : s.size ≤ 200000) (w : World) (hl : Env w) :
    Calls Tryz.prog 65 #[.string s, .string ⟨#[44]⟩] w fun e w' => e = .returned (.slice (some ⟨w.heap.size, 0, none⟩) (pcs (lA s)).length (pcs (lA s)).length) ∧ w' = w.alloc (.cells ((pcs (lA s)).map fun l => Value.string (bA l)).toArray 9) := by
  obtain ⟨m, hm⟩ := hl.len
  refine (Any.strings_Split { Tryz.laysM146 with } Tryz.laysM146.i9 s ⟨#[44]⟩ m w (by omega) hm (by decide)).mono ?_
  rintro e w' ⟨rfl, rfl⟩
  have e1 := splitB_pcs ⟨#[44]⟩ rfl s.size s (Nat.le_refl _)
  have e2 : (Lib.splitB ⟨#[44]⟩ 0 (Lib.countB s ⟨#[44]⟩) s).map Value.string = (pcs (lA s)).map fun l => Value.string (bA l) := by
    rw [show pcs (lA s) = _ from e1.symm, List.map_map]
    rfl
  have e3 : Lib.countB s ⟨#[44]⟩ + 1 = (pcs (lA s)).length := by
    have := congrArg List.length e1
    rw [List.length_map, Lib.splitB_all ⟨#[44]⟩ (by decide) 0 _ s rfl] at this
    exact this
  rw [e2, e3]
  exact ⟨rfl, rfl⟩
theorem atoi_lib (s : ByteArray) (hs : s.size ≤ 200000) (w : World) (hl : Env w) :
    Calls Tryz.prog 66 #[.string s] w fun e w' => (∃ x, e = .returned (.tuple #[.int .i64 (atoiV (lA s)), x])) ∧ Below w.heap.size w w' := by
  have hv : atoiV (lA s) = (match Lib.atoiAll (lA s) with | .ok v => v | .syntax => 0 | .range => Lib.atoiSat (lA s)) := rfl
  rcases h : Lib.atoiAll (lA s) with v | _ | _
  · rw [h] at hv
    refine (Tryz.strconv_Atoi_ok s (by omega) v h w).mono ?_
    rintro e w' ⟨rfl, rfl | ⟨t, rfl⟩⟩
    · exact ⟨⟨_, by rw [hv]⟩, Below.refl _ _⟩
    · exact ⟨⟨_, by rw [hv]⟩, Lib.bytesWorld_below w _ t⟩
  · rw [h] at hv
    obtain ⟨tp, p, e⟩ := hl.syn
    refine (Tryz.strconv_Atoi_syntax_var s (by omega) h tp p w e).mono ?_
    rintro e w' ⟨N, rfl, _, _, hb⟩
    exact ⟨⟨_, by rw [hv]⟩, hb⟩
  · rw [h] at hv
    obtain ⟨tp, p, e⟩ := hl.rge
    refine (Tryz.strconv_Atoi_range_var s (by omega) h tp p w e).mono ?_
    rintro e w' ⟨N, rfl, _, _, hb⟩
    exact ⟨⟨_, by rw [hv]; rfl⟩, hb⟩
end Go.Proofs.YtlmofdmbcddddaaGreatDoor
namespace Go.Proofs.YtlmofdmbcddddaaGreatDoor
open Go.RowKit
open WM
set_option linter.unusedVariables false
set_option linter.unusedSimpArgs false

theorem idx_nm (c : UInt8) : (0 ≤ Lib.indexByte nmS.data.toList c) ↔ (c == 43 || c == 45 || c == 38 || c == 94 || c == 124 || c == 33 || c == 91 || c == 93) = true := by
  have all : ∀ n : Fin 256, (0 ≤ Lib.indexByte nmS.data.toList (UInt8.ofNat n.1)) ↔ ((UInt8.ofNat n.1) == 43 || (UInt8.ofNat n.1) == 45 || (UInt8.ofNat n.1) == 38 || (UInt8.ofNat n.1) == 94 || (UInt8.ofNat n.1) == 124 || (UInt8.ofNat n.1) == 33 || (UInt8.ofNat n.1) == 91 || (UInt8.ofNat n.1) == 93) = true := by decide +kernel
  have e : UInt8.ofNat c.toNat = c := UInt8.toNat_inj.1 (by rw [UInt8.toNat_ofNat']; have := c.toNat_lt; omega)
  have := all ⟨c.toNat, c.toNat_lt⟩
  rw [e] at this
  exact this
theorem u8_int (c : UInt8) : ((c.toNat : Int)).toNat.toUInt8 = c := by
  rw [Int.toNat_natCast]; exact UInt8.toNat_inj.1 (by rw [Nat.toUInt8, UInt8.toNat_ofNat']; have := c.toNat_lt; omega)
set_option maxHeartbeats 800000 in
theorem proper_any (c : UInt8) (w : World) : Calls Tryz.prog 60 #[.int .u8 c.toNat] w fun e w' => e = .returned (.bool (letB c)) ∧ w = w' := by
  have hc := c.toNat_lt
  have KI := Lib.hid (fun w => Tryz.strings_IndexByte nmS (c.toNat : Int) w)
  rw [u8_int] at KI
  have HX := Lib.hid (idx_nm c)
  obtain ⟨x, hx⟩ : ∃ x, Lib.indexByte nmS.data.toList c = x := ⟨_, rfl⟩
  rw [hx] at KI HX
  clear hx
  have HL : Hid (letB c = ((c == 43 || c == 45 || c == 38 || c == 94 || c == 124 || c == 33 || c == 91 || c == 93) || (decide (65 ≤ c.toNat) && decide (c.toNat ≤ 90)) || (decide (97 ≤ c.toNat) && decide (c.toNat ≤ 122)))) := Lib.hid rfl
  obtain ⟨s, hs⟩ : ∃ s : ByteArray, (⟨#[43, 45, 38, 94, 124, 33, 91, 93]⟩ : ByteArray) = s := ⟨_, rfl⟩
  have hss : nmS = s := hs
  rw [hss] at KI
  clear hss
  have HL2 := HL.out
  have HX2 := HX.out
  have fin : ∀ b : Bool, (b = true ↔ ((65 ≤ c.toNat ∧ c.toNat ≤ 90) ∨ (97 ≤ c.toNat ∧ c.toNat ≤ 122))) → (b || decide (0 ≤ x)) = letB c := by
    intro b hb
    rw [HL2]
    generalize (c == 43 || c == 45 || c == 38 || c == 94 || c == 124 || c == 33 || c == 91 || c == 93) = g at HX2
    have e1 : b = ((decide (65 ≤ c.toNat) && decide (c.toNat ≤ 90)) || (decide (97 ≤ c.toNat) && decide (c.toNat ≤ 122))) := by
      rw [Bool.eq_iff_iff, hb]; simp
    have e2 : decide (0 ≤ x) = g := by rw [Bool.eq_iff_iff, decide_eq_true_iff, HX2]
    rw [e1, e2, Bool.or_comm, Bool.or_assoc]
  clear HL2 HX2
  have HF := Lib.hid fin
  clear fin HL HX
  by_cases c1 : (65 : Int) ≤ c.toNat
  · by_cases c2 : (c.toNat : Int) ≤ 90
    · go_enter Tryz.func60, Tryz.ntmps60
      go_wp2_with fail
      go_ret
      exact ⟨ret_bool (by rw [← HF.out true (by simp; omega)]; rfl), rfl⟩
    · by_cases c3 : (97 : Int) ≤ c.toNat
      · by_cases c4 : (c.toNat : Int) ≤ 122
        · go_enter Tryz.func60, Tryz.ntmps60
          go_wp2_with fail
          go_ret
          exact ⟨ret_bool (by rw [← HF.out true (by simp; omega)]; rfl), rfl⟩
        · go_enter Tryz.func60, Tryz.ntmps60
          go_wp2_with fail
          refine (KI.out _).mono ?_
          rintro e w2 ⟨rfl, rfl⟩
          go_wp2_with fail
          go_ret
          exact ⟨ret_bool (by rw [← HF.out false (by simp; omega)]; simp), rfl⟩
      · go_enter Tryz.func60, Tryz.ntmps60
        go_wp2_with fail
        refine (KI.out _).mono ?_
        rintro e w2 ⟨rfl, rfl⟩
        go_wp2_with fail
        go_ret
        exact ⟨ret_bool (by rw [← HF.out false (by simp; omega)]; simp), rfl⟩
  · have c3 : ¬ (97 : Int) ≤ c.toNat := by omega
    go_enter Tryz.func60, Tryz.ntmps60
    go_wp2_with fail
    refine (KI.out _).mono ?_
    rintro e w2 ⟨rfl, rfl⟩
    go_wp2_with fail
    go_ret
    exact ⟨ret_bool (by rw [← HF.out false (by simp; omega)]; simp), rfl⟩

set_option maxHeartbeats 800000 in
theorem bracket_any (c : UInt8) (p : Option Addr) (n cap : Nat) (w : World) : Calls Tryz.prog 61 #[.agg #[.int .u8 c.toNat, .slice p n cap]] w fun e w' => e = .returned (.bool (braB c)) ∧ Below w.heap.size w w' := by
  obtain ⟨W0, hW0⟩ : ∃ W, W = w.alloc (.cells #[.int .u8 c.toNat, .slice p n cap] 27) := ⟨_, rfl⟩
  have N0 : W0.heap[w.heap.size]? = some (.cells #[.int .u8 c.toNat, .slice p n cap] 27 (0, 0)) := by rw [hW0]; exact heap_alloc_new _ _
  have B0 : Below w.heap.size w W0 := by rw [hW0]; exact (Below.refl _ _).alloc (Nat.le_refl _) _
  have HB := Lib.hid B0
  have q0 := cell_two0 N0
  have l1 := lt_of_block N0
  clear N0 B0
  have walk : ∀ (t1 t2 : Bool), ((c.toNat : Int) == 91) = t1 → ((c.toNat : Int) == 93) = t2 → braB c = (t1 || t2) →
      Calls Tryz.prog 61 #[.agg #[.int .u8 c.toNat, .slice p n cap]] w fun e w' => e = .returned (.bool (braB c)) ∧ Below w.heap.size w w' := by
    intro t1 t2 e1 e2 hb
    have HBr := Lib.hid hb
    clear hb
    cases t1 with
    | true =>
      go_enter Tryz.func61, Tryz.ntmps61
      go_wp2_with fail
      rw [← hW0]
      clear hW0
      go_wp2_with fail
      go_ret
      exact ⟨ret_bool HBr.out.symm, HB.out⟩
    | false =>
      go_enter Tryz.func61, Tryz.ntmps61
      go_wp2_with fail
      rw [← hW0]
      clear hW0
      go_wp2_with fail
      go_ret
      exact ⟨ret_bool (by rw [HBr.out]; simp), HB.out⟩
  exact walk _ _ rfl rfl (by
    rw [show (91 : Int) = ((91 : UInt8).toNat : Int) from rfl, show (93 : Int) = ((93 : UInt8).toNat : Int) from rfl, u8_eq, u8_eq]; rfl)
end Go.Proofs.YtlmofdmbcddddaaGreatDoor
