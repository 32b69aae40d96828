/-
  Texts of the proof, merged: NRewNmS.
-/
import Derived.Test.YtlmofdmbcddddaaDoorNRewriteNamesProofM9
import Derived.Deep.RegionLaw
namespace Go.Proofs.YtlmofdmbcddddaaDoor
open Go.RowKit
open WM RM
set_option linter.unusedVariables false
set_option linter.unusedSimpArgs false

theorem smN {l : List Rw} (h : (l.all fun r => decide (r.gs.length ≤ 10) && decide (r.out.length ≤ 30) && r.gs.all (fun f => decide (f.cs.length ≤ 10)) && r.out.all fun s => decide (s.a.length ≤ 10) && s.a.all fun f => decide (f.cs.length ≤ 10)) = true) : ∀ r ∈ l, RwSm r := by
  intro r hr
  have h1 := List.all_eq_true.1 h r hr
  simp only [Bool.and_eq_true, decide_eq_true_eq, List.all_eq_true] at h1
  obtain ⟨⟨⟨a, b⟩, c⟩, d⟩ := h1
  exact ⟨a, b, c, d⟩
theorem nm_find : (finC givR ⟨65, [1]⟩ = 0 ∧ finV givR ⟨65, [1]⟩ = 0) ∧ (finC givR ⟨65, [0]⟩ = 0 ∧ finV givR ⟨65, [0]⟩ = 1) ∧ (finC givR ⟨65, [-1000000000]⟩ = 0 ∧ finV givR ⟨65, [-1000000000]⟩ = 1) ∧ (finC givR ⟨65, []⟩ = 0 ∧ finV givR ⟨65, []⟩ = (-1)) ∧ (finC givR ⟨65, [1, 1]⟩ = 0 ∧ finV givR ⟨65, [1, 1]⟩ = (-1)) ∧ (finC givR ⟨70, [1]⟩ = 0 ∧ finV givR ⟨70, [1]⟩ = (-1)) ∧ (finC givR ⟨93, []⟩ = 0 ∧ finV givR ⟨93, []⟩ = (-1)) := by decide +kernel
set_option maxRecDepth 100000 in
set_option maxHeartbeats 1600000 in
theorem found_any (m : Md) (mv : Value) (k : Int) (hm : m.a.length ≤ 10) (h : finC givR m = 0 ∧ finV givR m = k) (w : World) (hv : Ints w mv m.a) (hn : NilOr mv) : Calls Tryd.prog 4 #[.agg #[.int .u8 m.c.toNat, mv], .int .i64 k] w fun e w' => e = .returned (.bool true) ∧ Below w.heap.size w w' := by
  have KG := Lib.hid givn_any
  have KF := Lib.hid (fun v w hr hv => prfind_any v givR m mv (by decide) giv_sm (by omega) w hr hv hn)
  rw [h.1, h.2] at KF
  have HV := Lib.hid hv
  obtain ⟨p, c, rfl⟩ := hv.slice
  generalize m.c.toNat = cn at KF ⊢
  generalize m.a.length = an at KF HV ⊢
  clear hv h
  have X0 : Hid (Below w.heap.size w (w.alloc (.cells #[.int .u8 cn, .slice p an c] 25)).drew) := Lib.hid (((Below.refl _ _).alloc (Nat.le_refl _) _).drew)
  have Y0 : Hid ((w.alloc (.cells #[.int .u8 cn, .slice p an c] 25)).drew.heap[w.heap.size]? = some (.cells #[.int .u8 cn, .slice p an c] 25 (0, 0))) := Lib.hid (heap_alloc_new _ _)
  go_enter Tryd.func4, Tryd.ntmps4
  go_wp2_with fail
  go_region_law? (first
    | (go_simp; go_at_call 5; refine (KG.out _).mono ?_; rintro e w1 ⟨r, g, o1, o2, q1, q2, q3, f1, f2, f3, f4, rfl, hb, hG⟩
       have B1 := Lib.hid (X0.out.trans (hb.mono X0.out.size))
       have R1 := Lib.hid hG.rws
       have y0 : w1.cell? ⟨w.heap.size, 0, none⟩ = some (.int .u8 cn) := by have := blk_k Y0.out hb; simp [World.cell?, this]
       have y1 : w1.cell? ⟨w.heap.size, 1, none⟩ = some (.slice p an c) := by have := blk_k Y0.out hb; simp [World.cell?, this]
       clear hb hG)
    | (go_simp; go_at_call 12; refine (KF.out _ _ R1.out (HV.out.later B1.out)).mono ?_; rintro e w2 ⟨rfl, hb⟩
       have B2 := Lib.hid (B1.out.trans (hb.mono B1.out.size))
       clear hb))
  all_goals
    go_wp2_with fail
    go_ret
    exact ⟨rfl, B2.out⟩
theorem ints_two {w : World} {b : Nat} {x y : Int} (h : w.heap[b]? = some (.cells #[.int .i64 x, .int .i64 y] 3 (0, 0))) : Ints w (.slice (some ⟨b, 0, none⟩) 2 2) [x, y] := by
  refine .some b 0 2 [x, y] (by simp) (lt_of_block h) fun i hi => ?_
  have : i = 0 ∨ i = 1 := by
    have : i < 2 := hi
    omega
  rcases this with rfl | rfl <;> simp [World.cell?, h]
def zer41 : List Rw := List.replicate 41 ⟨0, 0, 0, 0, [], 0, []⟩
def zer21 : List Sh := List.replicate 21 ⟨0, []⟩
theorem made7 {a b c d e f g : Value} {n i : Nat} (h : i < n) : (madeCells #[a, b, c, d, e, f, g] (n * 7))[i * 7]? = some a ∧ (madeCells #[a, b, c, d, e, f, g] (n * 7))[i * 7 + 1]? = some b ∧ (madeCells #[a, b, c, d, e, f, g] (n * 7))[i * 7 + 2]? = some c ∧ (madeCells #[a, b, c, d, e, f, g] (n * 7))[i * 7 + 3]? = some d ∧ (madeCells #[a, b, c, d, e, f, g] (n * 7))[i * 7 + 4]? = some e ∧ (madeCells #[a, b, c, d, e, f, g] (n * 7))[i * 7 + 5]? = some f ∧ (madeCells #[a, b, c, d, e, f, g] (n * 7))[i * 7 + 6]? = some g := by
  have m1 : (i * 7 + 1) % 7 = 1 := by omega
  have m2 : (i * 7 + 2) % 7 = 2 := by omega
  have m3 : (i * 7 + 3) % 7 = 3 := by omega
  have m4 : (i * 7 + 4) % 7 = 4 := by omega
  have m5 : (i * 7 + 5) % 7 = 5 := by omega
  have m6 : (i * 7 + 6) % 7 = 6 := by omega
  have m0 : i * 7 % 7 = 0 := by omega
  have l0 : i * 7 < n * 7 := by omega
  have l1 : i * 7 + 1 < n * 7 := by omega
  have l2 : i * 7 + 2 < n * 7 := by omega
  have l3 : i * 7 + 3 < n * 7 := by omega
  have l4 : i * 7 + 4 < n * 7 := by omega
  have l5 : i * 7 + 5 < n * 7 := by omega
  have l6 : i * 7 + 6 < n * 7 := by omega
  unfold madeCells
  refine ⟨?_, ?_, ?_, ?_, ?_, ?_, ?_⟩
  · rw [Array.getElem?_map, Array.getElem?_eq_getElem (by simpa using l0)]; simp
  · rw [Array.getElem?_map, Array.getElem?_eq_getElem (by simpa using l1)]; simp [m1]
  · rw [Array.getElem?_map, Array.getElem?_eq_getElem (by simpa using l2)]; simp [m2]
  · rw [Array.getElem?_map, Array.getElem?_eq_getElem (by simpa using l3)]; simp [m3]
  · rw [Array.getElem?_map, Array.getElem?_eq_getElem (by simpa using l4)]; simp [m4]
  · rw [Array.getElem?_map, Array.getElem?_eq_getElem (by simpa using l5)]; simp [m5]
  · rw [Array.getElem?_map, Array.getElem?_eq_getElem (by simpa using l6)]; simp [m6]
theorem made2 {a b : Value} {n i : Nat} (h : i < n) : (madeCells #[a, b] (n * 2))[i * 2]? = some a ∧ (madeCells #[a, b] (n * 2))[i * 2 + 1]? = some b := by
  have m1 : (i * 2 + 1) % 2 = 1 := by omega
  have l0 : i * 2 < n * 2 := by omega
  have l1 : i * 2 + 1 < n * 2 := by omega
  unfold madeCells
  refine ⟨?_, ?_⟩
  · rw [Array.getElem?_map, Array.getElem?_eq_getElem (by simpa using l0)]; simp
  · rw [Array.getElem?_map, Array.getElem?_eq_getElem (by simpa using l1)]; simp [m1]
theorem made_rws (n : Nat) (hn : n ≤ 10000) (w : World) : (Instr.makeSlice 26 (.int .i64 (n : Int)) (.int .i64 (n : Int))).run Tryd.prog w = .ok (.slice (some ⟨w.heap.size, 0, none⟩) n n) (w.alloc (.cells (madeCells #[.int .u8 0, .int .i64 0, .int .u8 0, .int .u8 0, .slice none 0 0, .int .i64 0, .slice none 0 0] (n * 7)) 31)) := by
  have := run_make (P := Tryd.prog) w 26 31 Tryd.t31 (.agg #[.int .u8 0, .int .i64 0, .int .u8 0, .int .u8 0, .slice none 0 0, .int .i64 0, .slice none 0 0]) Tryd.underlying26 (by kernel_rfl) (by kernel_rfl) .i64 .i64 n n (by omega) (Int.le_refl _) (by show ((80 : Nat) : Int) * (n : Int) ≤ _; omega) (by omega)
  rw [this]; simp only [Value.cells, Int.toNat_natCast, show (Tryd.t31).size = 7 from rfl]
theorem made_shs (n : Nat) (hn : n ≤ 10000) (w : World) : (Instr.makeSlice 28 (.int .i64 (n : Int)) (.int .i64 (n : Int))).run Tryd.prog w = .ok (.slice (some ⟨w.heap.size, 0, none⟩) n n) (w.alloc (.cells (madeCells #[.int .u8 0, .slice none 0 0] (n * 2)) 33)) := by
  have := run_make (P := Tryd.prog) w 28 33 Tryd.t33 (.agg #[.int .u8 0, .slice none 0 0]) Tryd.underlying28 (by kernel_rfl) (by kernel_rfl) .i64 .i64 n n (by omega) (Int.le_refl _) (by show ((32 : Nat) : Int) * (n : Int) ≤ _; omega) (by omega)
  rw [this]; simp only [Value.cells, Int.toNat_natCast, show (Tryd.t33).size = 2 from rfl]
theorem mk41 (w : World) : ∃ W1, (Instr.makeSlice 26 (.int .i64 41) (.int .i64 41)).run Tryd.prog w = .ok (.slice (some ⟨w.heap.size, 0, none⟩) 41 41) W1 ∧ Below w.heap.size w W1 ∧ Rws W1 (.slice (some ⟨w.heap.size, 0, none⟩) 41 41) zer41 := by
  refine ⟨_, made_rws 41 (by decide) w, (Below.refl _ _).alloc (Nat.le_refl _) _, ?_⟩
  have hb := heap_alloc_new w (.cells (madeCells #[.int .u8 0, .int .i64 0, .int .u8 0, .int .u8 0, .slice none 0 0, .int .i64 0, .slice none 0 0] (41 * 7)) 31)
  have hl : zer41.length = 41 := by decide
  have := Rws.some (w := w.alloc (.cells (madeCells #[.int .u8 0, .int .i64 0, .int .u8 0, .int .u8 0, .slice none 0 0, .int .i64 0, .slice none 0 0] (41 * 7)) 31)) w.heap.size 0 41 zer41 (by omega) (lt_of_block hb) (fun i hi => by
    obtain ⟨g0, g1, g2, g3, g4, g5, g6⟩ := made7 (a := .int .u8 0) (b := .int .i64 0) (c := .int .u8 0) (d := .int .u8 0) (e := .slice none 0 0) (f := .int .i64 0) (g := .slice none 0 0) (show i < 41 by omega)
    have z : zer41[i] = ⟨0, 0, 0, 0, [], 0, []⟩ := by simp only [zer41, List.getElem_replicate]
    rw [z]
    have hc : ∀ j, (w.alloc (.cells (madeCells #[.int .u8 0, .int .i64 0, .int .u8 0, .int .u8 0, .slice none 0 0, .int .i64 0, .slice none 0 0] (41 * 7)) 31)).cell? ⟨w.heap.size, 0 + j, none⟩ = (madeCells #[.int .u8 0, .int .i64 0, .int .u8 0, .int .u8 0, .slice none 0 0, .int .i64 0, .slice none 0 0] (41 * 7))[j]? := fun j => by
      simp only [World.cell?, hb, Nat.zero_add]
      rfl
    exact ⟨(hc _).trans g0, (hc _).trans g1, (hc _).trans g2, (hc _).trans g3, (hc _).trans g5, ⟨_, (hc _).trans g4, .none _ _⟩, ⟨_, (hc _).trans g6, .none _ _⟩⟩)
  rwa [hl] at this
theorem mk21 (w : World) : ∃ W1, (Instr.makeSlice 28 (.int .i64 21) (.int .i64 21)).run Tryd.prog w = .ok (.slice (some ⟨w.heap.size, 0, none⟩) 21 21) W1 ∧ Below w.heap.size w W1 ∧ Shs W1 (.slice (some ⟨w.heap.size, 0, none⟩) 21 21) zer21 := by
  refine ⟨_, made_shs 21 (by decide) w, (Below.refl _ _).alloc (Nat.le_refl _) _, ?_⟩
  have hb := heap_alloc_new w (.cells (madeCells #[.int .u8 0, .slice none 0 0] (21 * 2)) 33)
  have hl : zer21.length = 21 := by decide
  have := Shs.some (w := w.alloc (.cells (madeCells #[.int .u8 0, .slice none 0 0] (21 * 2)) 33)) w.heap.size 0 21 zer21 (by omega) (lt_of_block hb) (fun i hi => by
    obtain ⟨g0, g1⟩ := made2 (a := .int .u8 0) (b := .slice none 0 0) (show i < 21 by omega)
    have z : zer21[i] = ⟨0, []⟩ := by simp only [zer21, List.getElem_replicate]
    rw [z]
    have hc : ∀ j, (w.alloc (.cells (madeCells #[.int .u8 0, .slice none 0 0] (21 * 2)) 33)).cell? ⟨w.heap.size, 0 + j, none⟩ = (madeCells #[.int .u8 0, .slice none 0 0] (21 * 2))[j]? := fun j => by
      simp only [World.cell?, hb, Nat.zero_add]
      rfl
    exact ⟨(hc _).trans g0, _, (hc _).trans g1, .none _ _⟩)
  rwa [hl] at this
theorem nm_chk : rchk ([]) = 0 ∧ rchk (givM 65 1 0 (-1) 0 zer21) = 4 ∧ rchk (zer41) = 4 ∧ rchk (givM 65 1 70 (-1) 0 outF) = 8 ∧ rchk (givM 65 1 0 (-1) 1 outF) = 8 ∧ rchk (givM 65 1 0 (-1) 0 [⟨93, []⟩, ⟨91, []⟩]) = 8 ∧ rchk (givM 65 2 0 (-1) 0 outF) = 8 ∧ rchk (givM 65 1 0 (-1000001) 0 outF) = 8 ∧ rchk (givM 91 1 0 (-1) 0 outF) = 8 := by decide +kernel
theorem nm_val : (vaC ⟨0, [2]⟩ [500000001] = 16 ∧ vaV ⟨0, [2]⟩ [500000001] = 0) ∧ (vaC ⟨0, [2]⟩ [] = 8 ∧ vaV ⟨0, [2]⟩ [] = 0) ∧ (vaC ⟨0, [2]⟩ [1000000001] = 8 ∧ vaV ⟨0, [2]⟩ [1000000001] = 0) ∧ (vaC ⟨7, [-3]⟩ [5] = 0 ∧ vaV ⟨7, [-3]⟩ [5] = -8) ∧ True := by decide +kernel
def dblR : List Rw := [⟨70, 1, 0, 0, [], 0, [⟨70, [⟨0, [2]⟩]⟩, ⟨70, [⟨0, [1]⟩]⟩]⟩]
def fw (n : Nat) : List Md := List.replicate n ⟨70, [0]⟩
theorem fw_two (n : Nat) : fw (2 * (n + 1)) = ⟨70, [0]⟩ :: ⟨70, [0]⟩ :: fw (2 * n) := by
  unfold fw
  rw [show 2 * (n + 1) = 2 * n + 1 + 1 by omega, List.replicate_succ, List.replicate_succ]
theorem dbl_suc : succM dblR ⟨70, [0]⟩ = some [⟨70, [0]⟩, ⟨70, [0]⟩] := by decide +kernel
theorem dbl_stp : ∀ n, stepL dblR (fw n) = some (fw (2 * n))
  | 0 => rfl
  | n + 1 => by
    rw [fw_two, show fw (n + 1) = ⟨70, [0]⟩ :: fw n from List.replicate_succ]
    simp only [stepL, dbl_suc, dbl_stp n]
    rfl
theorem fw_dep : ∀ n, dep (fw n) = 0
  | 0 => rfl
  | n + 1 => by rw [show fw (n + 1) = ⟨70, [0]⟩ :: fw n from List.replicate_succ, dep_cons, fw_dep n]; rfl
theorem fw_chk {n : Nat} (h : n ≤ 2000) : chk (fw n) = 0 := by
  refine chk_zero.2 ⟨by rw [fw, List.length_replicate]; exact h, ?_, ?_, fw_dep n⟩
  · rw [List.all_eq_true]
    intro m hm
    rw [List.eq_of_mem_replicate hm]
    decide
  · rw [okB_iff]
    intro i hi
    rw [fw, List.take_replicate]
    exact Int.le_of_eq (fw_dep _).symm
theorem dbl_rchk : rchk dblR = 0 := by decide +kernel
theorem dbl_stC {n : Nat} (h : n ≤ 1000) : stC dblR (fw n) = 0 ∧ stL dblR (fw n) = fw (2 * n) := by
  have e : stC dblR (fw n) = 0 := by
    unfold stC
    rw [if_neg (by rw [dbl_rchk]; decide), if_neg (by rw [fw_chk (by omega)]; decide), dbl_stp]
    simp only
    rw [if_neg (by rw [fw, List.length_replicate]; omega)]
  exact ⟨e, by unfold stL; rw [if_pos e, dbl_stp]; rfl⟩
theorem dbl_stM {n : Nat} (h : 1000 < n) (h2 : n ≤ 2000) : stC dblR (fw n) = 4 := by
  unfold stC
  rw [if_neg (by rw [dbl_rchk]; decide), if_neg (by rw [fw_chk h2]; decide), dbl_stp]
  simp only
  rw [if_pos (by rw [fw, List.length_replicate]; omega)]
theorem dbl_run {n : Nat} (k : Nat) (h : n ≤ 1000) : runF dblR (k + 1) (fw n) = runF dblR k (fw (2 * n)) := by
  obtain ⟨a, b⟩ := dbl_stC h
  show (if stC dblR (fw n) ≠ 0 then (stC dblR (fw n), []) else runF dblR k (stL dblR (fw n))) = _
  rw [if_neg (by rw [a]; decide), b]
theorem dbl_ten : runF dblR 10 (fw 1) = (0, fw 1024) := by
  rw [dbl_run 9 (by decide), dbl_run 8 (by decide), dbl_run 7 (by decide), dbl_run 6 (by decide), dbl_run 5 (by decide), dbl_run 4 (by decide), dbl_run 3 (by decide), dbl_run 2 (by decide), dbl_run 1 (by decide), dbl_run 0 (by decide)]
  rfl
theorem dbl_elf : (runF dblR 11 (fw 1)).1 = 4 := by
  rw [dbl_run 10 (by decide), dbl_run 9 (by decide), dbl_run 8 (by decide), dbl_run 7 (by decide), dbl_run 6 (by decide), dbl_run 5 (by decide), dbl_run 4 (by decide), dbl_run 3 (by decide), dbl_run 2 (by decide), dbl_run 1 (by decide)]
  have a := dbl_stM (n := 1024) (by decide) (by decide)
  show (if stC dblR (fw 1024) ≠ 0 then (stC dblR (fw 1024), ([] : List Md)) else runF dblR 0 (stL dblR (fw 1024))).1 = 4
  rw [if_pos (by rw [a]; decide), a]
theorem dbl_r (n : Int) (h0 : 0 ≤ n) (h1 : n ≤ 30) : ruC dblR (fw 1) n = (runF dblR n.toNat (fw 1)).1 := by
  unfold ruC
  rw [if_neg (by rw [dbl_rchk]; decide), if_neg (by rw [fw_chk (by decide)]; decide), if_neg (by omega)]
theorem dbl_10 : ruC dblR [⟨70, [0]⟩] 10 = 0 ∧ (ruL dblR [⟨70, [0]⟩] 10).length = 1024 := by
  have e : ruC dblR (fw 1) 10 = 0 := by rw [dbl_r 10 (by decide) (by decide), show (10 : Int).toNat = 10 from rfl, dbl_ten]
  refine ⟨e, ?_⟩
  show (ruL dblR (fw 1) 10).length = 1024
  unfold ruL
  rw [if_pos e, show (10 : Int).toNat = 10 from rfl, dbl_ten]
  exact List.length_replicate
theorem dbl_11 : ruC dblR [⟨70, [0]⟩] 11 = 4 := by
  show ruC dblR (fw 1) 11 = 4
  rw [dbl_r 11 (by decide) (by decide), show (11 : Int).toNat = 11 from rfl, dbl_elf]
theorem nm_dbl : stC dblR [⟨70, [500000001]⟩] = 16 ∧ ruC dblR [] 31 = 2 ∧ ruC dblR [⟨93, []⟩] 31 = 28 := by decide +kernel
theorem shs_two {w : World} {b : Nat} {c d : UInt8} (h : w.heap[b]? = some (.cells #[.int .u8 c.toNat, .slice none 0 0, .int .u8 d.toNat, .slice none 0 0] 33 (0, 0))) : Shs w (.slice (some ⟨b, 0, none⟩) 2 2) [⟨c, []⟩, ⟨d, []⟩] := by
  refine .some b 0 2 [⟨c, []⟩, ⟨d, []⟩] (by simp) (lt_of_block h) fun i hi => ?_
  have : i = 0 ∨ i = 1 := by
    have : i < 2 := hi
    omega
  rcases this with rfl | rfl
  · exact ⟨by simp [World.cell?, h], .slice none 0 0, by simp [World.cell?, h], .none _ _⟩
  · exact ⟨by simp [World.cell?, h], .slice none 0 0, by simp [World.cell?, h], .none _ _⟩
theorem shs_lt {w : World} {N : Nat} (h : Shs w (.slice (some ⟨N, 0, none⟩) 21 21) zer21) : N < w.heap.size := by
  have hl : zer21.length = 21 := by decide
  generalize hv : Value.slice (some ⟨N, 0, none⟩) 21 21 = v at h
  generalize zer21 = l at h hl
  cases h with
  | none p cap => simp at hl
  | some b off cap _ hpos hb hx =>
    simp only [Value.slice.injEq, Option.some.injEq, Addr.mk.injEq] at hv
    obtain ⟨⟨rfl, _⟩, _⟩ := hv
    exact hb
theorem shs_keep21 {w : World} {N n7 s j : Nat} {x : Value} (h : Shs w (.slice (some ⟨N, 0, none⟩) 21 21) zer21) (hn : n7 ≤ N) (hs : s < n7) : Shs (w.setCell ⟨s, j, none⟩ x) (.slice (some ⟨N, 0, none⟩) 21 21) zer21 := by
  have hz : ∀ s ∈ zer21, s.a = [] := by intro s hs; rw [List.eq_of_mem_replicate hs]
  have hl : zer21.length = 21 := by decide
  generalize zer21 = l at h hl hz ⊢
  generalize hv : Value.slice (some ⟨N, 0, none⟩) 21 21 = v at h ⊢
  cases h with
  | none p cap => simp at hl
  | some b off cap _ hpos hb hx =>
    simp only [Value.slice.injEq, Option.some.injEq, Addr.mk.injEq] at hv
    obtain ⟨⟨rfl, rfl, _⟩, _, rfl⟩ := hv
    refine .some _ _ _ l hpos (by rw [World.size_setCell]; exact hb) fun i hi => ?_
    obtain ⟨h1, v, h2, h3⟩ := hx i hi
    have hne : ∀ o, (w.setCell ⟨s, j, none⟩ x).cell? ⟨N, o, none⟩ = w.cell? ⟨N, o, none⟩ := fun o => World.cell?_setCell_other w _ _ x (by intro e; cases e; omega)
    rw [hz _ (List.getElem_mem hi)] at h3 ⊢
    obtain ⟨p, c, rfl⟩ := h3.slice
    exact ⟨(hne _).trans h1, _, (hne _).trans h2, .none _ _⟩
theorem nam_stores {V W0 : World} {L0 N n0 n1 n2 n3 n4 n5 n6 n7 r0 g0 o0 a0 p0 q0 s0 e0 f0 h0 k0 r1 g1 o1 a1 p1 q1 s1 e1 f1 h1 k1 r2 g2 o2 a2 p2 q2 s2 e2 f2 h2 k2 r3 g3 o3 a3 p3 q3 s3 e3 f3 h3 k3 r4 g4 o4 a4 p4 q4 s4 e4 f4 h4 k4 r5 g5 o5 a5 p5 q5 s5 e5 f5 h5 k5 r6 g6 o6 a6 p6 q6 s6 e6 f6 h6 k6 : Nat} (hL : L0 ≤ n0) (hV : Below L0 W0 V) (hN : Shs V (.slice (some ⟨N, 0, none⟩) 21 21) zer21) (hn7 : n7 ≤ N)
    (G0 : GivM V n0 n1 r0 g0 o0 a0 p0 q0 s0 e0 f0 h0 k0 (givC g0 o0 a0) (-1))
    (G1 : GivM V n1 n2 r1 g1 o1 a1 p1 q1 s1 e1 f1 h1 k1 (givC g1 o1 a1) (-1))
    (G2 : GivM V n2 n3 r2 g2 o2 a2 p2 q2 s2 e2 f2 h2 k2 (givC g2 o2 a2) (-1))
    (G3 : GivM V n3 n4 r3 g3 o3 a3 p3 q3 s3 e3 f3 h3 k3 (givC g3 o3 a3) (-1))
    (G4 : GivM V n4 n5 r4 g4 o4 a4 p4 q4 s4 e4 f4 h4 k4 (givC g4 o4 a4) (-1))
    (G5 : GivM V n5 n6 r5 g5 o5 a5 p5 q5 s5 e5 f5 h5 k5 (givC g5 o5 a5) (-1))
    (G6 : GivM V n6 n7 r6 g6 o6 a6 p6 q6 s6 e6 f6 h6 k6 (givC g6 o6 a6) (-1)) :
    (V).cell? ⟨r0, 13, none⟩ = some (.slice (some ⟨a0, 0, none⟩) 1 1) ∧ (V).frozen? ⟨r0, 13, none⟩ = false ∧ r0 < (V).heap.size ∧
    ((V.setCell ⟨r0, 13, none⟩ (.slice (some ⟨N, 0, none⟩) 21 21))).cell? ⟨r1, 2, none⟩ = some (.int .u8 0) ∧ ((V.setCell ⟨r0, 13, none⟩ (.slice (some ⟨N, 0, none⟩) 21 21))).frozen? ⟨r1, 2, none⟩ = false ∧ r1 < ((V.setCell ⟨r0, 13, none⟩ (.slice (some ⟨N, 0, none⟩) 21 21))).heap.size ∧
    (((V.setCell ⟨r0, 13, none⟩ (.slice (some ⟨N, 0, none⟩) 21 21)).setCell ⟨r1, 2, none⟩ (.int .u8 70))).cell? ⟨r2, 12, none⟩ = some (.int .i64 0) ∧ (((V.setCell ⟨r0, 13, none⟩ (.slice (some ⟨N, 0, none⟩) 21 21)).setCell ⟨r1, 2, none⟩ (.int .u8 70))).frozen? ⟨r2, 12, none⟩ = false ∧ r2 < (((V.setCell ⟨r0, 13, none⟩ (.slice (some ⟨N, 0, none⟩) 21 21)).setCell ⟨r1, 2, none⟩ (.int .u8 70))).heap.size ∧
    (((((V.setCell ⟨r0, 13, none⟩ (.slice (some ⟨N, 0, none⟩) 21 21)).setCell ⟨r1, 2, none⟩ (.int .u8 70)).setCell ⟨r2, 12, none⟩ (.int .i64 1)).alloc (.cells #[.int .u8 93, .slice none 0 0, .int .u8 91, .slice none 0 0] 33))).cell? ⟨r3, 13, none⟩ = some (.slice (some ⟨a3, 0, none⟩) 1 1) ∧ (((((V.setCell ⟨r0, 13, none⟩ (.slice (some ⟨N, 0, none⟩) 21 21)).setCell ⟨r1, 2, none⟩ (.int .u8 70)).setCell ⟨r2, 12, none⟩ (.int .i64 1)).alloc (.cells #[.int .u8 93, .slice none 0 0, .int .u8 91, .slice none 0 0] 33))).frozen? ⟨r3, 13, none⟩ = false ∧ r3 < (((((V.setCell ⟨r0, 13, none⟩ (.slice (some ⟨N, 0, none⟩) 21 21)).setCell ⟨r1, 2, none⟩ (.int .u8 70)).setCell ⟨r2, 12, none⟩ (.int .i64 1)).alloc (.cells #[.int .u8 93, .slice none 0 0, .int .u8 91, .slice none 0 0] 33))).heap.size ∧
    ((((((V.setCell ⟨r0, 13, none⟩ (.slice (some ⟨N, 0, none⟩) 21 21)).setCell ⟨r1, 2, none⟩ (.int .u8 70)).setCell ⟨r2, 12, none⟩ (.int .i64 1)).alloc (.cells #[.int .u8 93, .slice none 0 0, .int .u8 91, .slice none 0 0] 33)).setCell ⟨r3, 13, none⟩ (.slice (some ⟨V.heap.size, 0, none⟩) 2 2))).cell? ⟨r4, 1, none⟩ = some (.int .i64 1) ∧ ((((((V.setCell ⟨r0, 13, none⟩ (.slice (some ⟨N, 0, none⟩) 21 21)).setCell ⟨r1, 2, none⟩ (.int .u8 70)).setCell ⟨r2, 12, none⟩ (.int .i64 1)).alloc (.cells #[.int .u8 93, .slice none 0 0, .int .u8 91, .slice none 0 0] 33)).setCell ⟨r3, 13, none⟩ (.slice (some ⟨V.heap.size, 0, none⟩) 2 2))).frozen? ⟨r4, 1, none⟩ = false ∧ r4 < ((((((V.setCell ⟨r0, 13, none⟩ (.slice (some ⟨N, 0, none⟩) 21 21)).setCell ⟨r1, 2, none⟩ (.int .u8 70)).setCell ⟨r2, 12, none⟩ (.int .i64 1)).alloc (.cells #[.int .u8 93, .slice none 0 0, .int .u8 91, .slice none 0 0] 33)).setCell ⟨r3, 13, none⟩ (.slice (some ⟨V.heap.size, 0, none⟩) 2 2))).heap.size ∧
    (((((((V.setCell ⟨r0, 13, none⟩ (.slice (some ⟨N, 0, none⟩) 21 21)).setCell ⟨r1, 2, none⟩ (.int .u8 70)).setCell ⟨r2, 12, none⟩ (.int .i64 1)).alloc (.cells #[.int .u8 93, .slice none 0 0, .int .u8 91, .slice none 0 0] 33)).setCell ⟨r3, 13, none⟩ (.slice (some ⟨V.heap.size, 0, none⟩) 2 2)).setCell ⟨r4, 1, none⟩ (.int .i64 2))).cell? ⟨r5, 4, none⟩ = some (.slice (some ⟨g5, 0, none⟩) 1 1) ∧ (((((((V.setCell ⟨r0, 13, none⟩ (.slice (some ⟨N, 0, none⟩) 21 21)).setCell ⟨r1, 2, none⟩ (.int .u8 70)).setCell ⟨r2, 12, none⟩ (.int .i64 1)).alloc (.cells #[.int .u8 93, .slice none 0 0, .int .u8 91, .slice none 0 0] 33)).setCell ⟨r3, 13, none⟩ (.slice (some ⟨V.heap.size, 0, none⟩) 2 2)).setCell ⟨r4, 1, none⟩ (.int .i64 2))).frozen? ⟨r5, 4, none⟩ = false ∧ r5 < (((((((V.setCell ⟨r0, 13, none⟩ (.slice (some ⟨N, 0, none⟩) 21 21)).setCell ⟨r1, 2, none⟩ (.int .u8 70)).setCell ⟨r2, 12, none⟩ (.int .i64 1)).alloc (.cells #[.int .u8 93, .slice none 0 0, .int .u8 91, .slice none 0 0] 33)).setCell ⟨r3, 13, none⟩ (.slice (some ⟨V.heap.size, 0, none⟩) 2 2)).setCell ⟨r4, 1, none⟩ (.int .i64 2))).heap.size ∧
    (((((((V.setCell ⟨r0, 13, none⟩ (.slice (some ⟨N, 0, none⟩) 21 21)).setCell ⟨r1, 2, none⟩ (.int .u8 70)).setCell ⟨r2, 12, none⟩ (.int .i64 1)).alloc (.cells #[.int .u8 93, .slice none 0 0, .int .u8 91, .slice none 0 0] 33)).setCell ⟨r3, 13, none⟩ (.slice (some ⟨V.heap.size, 0, none⟩) 2 2)).setCell ⟨r4, 1, none⟩ (.int .i64 2))).cell? ⟨g5, 0, none⟩ = some (.int .i64 (-1)) ∧ (((((((V.setCell ⟨r0, 13, none⟩ (.slice (some ⟨N, 0, none⟩) 21 21)).setCell ⟨r1, 2, none⟩ (.int .u8 70)).setCell ⟨r2, 12, none⟩ (.int .i64 1)).alloc (.cells #[.int .u8 93, .slice none 0 0, .int .u8 91, .slice none 0 0] 33)).setCell ⟨r3, 13, none⟩ (.slice (some ⟨V.heap.size, 0, none⟩) 2 2)).setCell ⟨r4, 1, none⟩ (.int .i64 2))).frozen? ⟨g5, 0, none⟩ = false ∧ g5 < (((((((V.setCell ⟨r0, 13, none⟩ (.slice (some ⟨N, 0, none⟩) 21 21)).setCell ⟨r1, 2, none⟩ (.int .u8 70)).setCell ⟨r2, 12, none⟩ (.int .i64 1)).alloc (.cells #[.int .u8 93, .slice none 0 0, .int .u8 91, .slice none 0 0] 33)).setCell ⟨r3, 13, none⟩ (.slice (some ⟨V.heap.size, 0, none⟩) 2 2)).setCell ⟨r4, 1, none⟩ (.int .i64 2))).heap.size ∧
    ((((((((V.setCell ⟨r0, 13, none⟩ (.slice (some ⟨N, 0, none⟩) 21 21)).setCell ⟨r1, 2, none⟩ (.int .u8 70)).setCell ⟨r2, 12, none⟩ (.int .i64 1)).alloc (.cells #[.int .u8 93, .slice none 0 0, .int .u8 91, .slice none 0 0] 33)).setCell ⟨r3, 13, none⟩ (.slice (some ⟨V.heap.size, 0, none⟩) 2 2)).setCell ⟨r4, 1, none⟩ (.int .i64 2)).setCell ⟨g5, 0, none⟩ (.int .i64 (-1000001)))).cell? ⟨r6, 0, none⟩ = some (.int .u8 65) ∧ ((((((((V.setCell ⟨r0, 13, none⟩ (.slice (some ⟨N, 0, none⟩) 21 21)).setCell ⟨r1, 2, none⟩ (.int .u8 70)).setCell ⟨r2, 12, none⟩ (.int .i64 1)).alloc (.cells #[.int .u8 93, .slice none 0 0, .int .u8 91, .slice none 0 0] 33)).setCell ⟨r3, 13, none⟩ (.slice (some ⟨V.heap.size, 0, none⟩) 2 2)).setCell ⟨r4, 1, none⟩ (.int .i64 2)).setCell ⟨g5, 0, none⟩ (.int .i64 (-1000001)))).frozen? ⟨r6, 0, none⟩ = false ∧ r6 < ((((((((V.setCell ⟨r0, 13, none⟩ (.slice (some ⟨N, 0, none⟩) 21 21)).setCell ⟨r1, 2, none⟩ (.int .u8 70)).setCell ⟨r2, 12, none⟩ (.int .i64 1)).alloc (.cells #[.int .u8 93, .slice none 0 0, .int .u8 91, .slice none 0 0] 33)).setCell ⟨r3, 13, none⟩ (.slice (some ⟨V.heap.size, 0, none⟩) 2 2)).setCell ⟨r4, 1, none⟩ (.int .i64 2)).setCell ⟨g5, 0, none⟩ (.int .i64 (-1000001)))).heap.size ∧
    Rws ((((((((V.setCell ⟨r0, 13, none⟩ (.slice (some ⟨N, 0, none⟩) 21 21)).setCell ⟨r1, 2, none⟩ (.int .u8 70)).setCell ⟨r2, 12, none⟩ (.int .i64 1)).alloc (.cells #[.int .u8 93, .slice none 0 0, .int .u8 91, .slice none 0 0] 33)).setCell ⟨r3, 13, none⟩ (.slice (some ⟨V.heap.size, 0, none⟩) 2 2)).setCell ⟨r4, 1, none⟩ (.int .i64 2)).setCell ⟨g5, 0, none⟩ (.int .i64 (-1000001))).setCell ⟨r6, 0, none⟩ (.int .u8 91)) (.slice (some ⟨r0, 0, none⟩) 2 2) (givM 65 1 0 (-1) 0 zer21) ∧ Rws ((((((((V.setCell ⟨r0, 13, none⟩ (.slice (some ⟨N, 0, none⟩) 21 21)).setCell ⟨r1, 2, none⟩ (.int .u8 70)).setCell ⟨r2, 12, none⟩ (.int .i64 1)).alloc (.cells #[.int .u8 93, .slice none 0 0, .int .u8 91, .slice none 0 0] 33)).setCell ⟨r3, 13, none⟩ (.slice (some ⟨V.heap.size, 0, none⟩) 2 2)).setCell ⟨r4, 1, none⟩ (.int .i64 2)).setCell ⟨g5, 0, none⟩ (.int .i64 (-1000001))).setCell ⟨r6, 0, none⟩ (.int .u8 91)) (.slice (some ⟨r1, 0, none⟩) 2 2) (givM 65 1 70 (-1) 0 outF) ∧ Rws ((((((((V.setCell ⟨r0, 13, none⟩ (.slice (some ⟨N, 0, none⟩) 21 21)).setCell ⟨r1, 2, none⟩ (.int .u8 70)).setCell ⟨r2, 12, none⟩ (.int .i64 1)).alloc (.cells #[.int .u8 93, .slice none 0 0, .int .u8 91, .slice none 0 0] 33)).setCell ⟨r3, 13, none⟩ (.slice (some ⟨V.heap.size, 0, none⟩) 2 2)).setCell ⟨r4, 1, none⟩ (.int .i64 2)).setCell ⟨g5, 0, none⟩ (.int .i64 (-1000001))).setCell ⟨r6, 0, none⟩ (.int .u8 91)) (.slice (some ⟨r2, 0, none⟩) 2 2) (givM 65 1 0 (-1) 1 outF) ∧ Rws ((((((((V.setCell ⟨r0, 13, none⟩ (.slice (some ⟨N, 0, none⟩) 21 21)).setCell ⟨r1, 2, none⟩ (.int .u8 70)).setCell ⟨r2, 12, none⟩ (.int .i64 1)).alloc (.cells #[.int .u8 93, .slice none 0 0, .int .u8 91, .slice none 0 0] 33)).setCell ⟨r3, 13, none⟩ (.slice (some ⟨V.heap.size, 0, none⟩) 2 2)).setCell ⟨r4, 1, none⟩ (.int .i64 2)).setCell ⟨g5, 0, none⟩ (.int .i64 (-1000001))).setCell ⟨r6, 0, none⟩ (.int .u8 91)) (.slice (some ⟨r3, 0, none⟩) 2 2) (givM 65 1 0 (-1) 0 [⟨93, []⟩, ⟨91, []⟩]) ∧ Rws ((((((((V.setCell ⟨r0, 13, none⟩ (.slice (some ⟨N, 0, none⟩) 21 21)).setCell ⟨r1, 2, none⟩ (.int .u8 70)).setCell ⟨r2, 12, none⟩ (.int .i64 1)).alloc (.cells #[.int .u8 93, .slice none 0 0, .int .u8 91, .slice none 0 0] 33)).setCell ⟨r3, 13, none⟩ (.slice (some ⟨V.heap.size, 0, none⟩) 2 2)).setCell ⟨r4, 1, none⟩ (.int .i64 2)).setCell ⟨g5, 0, none⟩ (.int .i64 (-1000001))).setCell ⟨r6, 0, none⟩ (.int .u8 91)) (.slice (some ⟨r4, 0, none⟩) 2 2) (givM 65 2 0 (-1) 0 outF) ∧ Rws ((((((((V.setCell ⟨r0, 13, none⟩ (.slice (some ⟨N, 0, none⟩) 21 21)).setCell ⟨r1, 2, none⟩ (.int .u8 70)).setCell ⟨r2, 12, none⟩ (.int .i64 1)).alloc (.cells #[.int .u8 93, .slice none 0 0, .int .u8 91, .slice none 0 0] 33)).setCell ⟨r3, 13, none⟩ (.slice (some ⟨V.heap.size, 0, none⟩) 2 2)).setCell ⟨r4, 1, none⟩ (.int .i64 2)).setCell ⟨g5, 0, none⟩ (.int .i64 (-1000001))).setCell ⟨r6, 0, none⟩ (.int .u8 91)) (.slice (some ⟨r5, 0, none⟩) 2 2) (givM 65 1 0 (-1000001) 0 outF) ∧ Rws ((((((((V.setCell ⟨r0, 13, none⟩ (.slice (some ⟨N, 0, none⟩) 21 21)).setCell ⟨r1, 2, none⟩ (.int .u8 70)).setCell ⟨r2, 12, none⟩ (.int .i64 1)).alloc (.cells #[.int .u8 93, .slice none 0 0, .int .u8 91, .slice none 0 0] 33)).setCell ⟨r3, 13, none⟩ (.slice (some ⟨V.heap.size, 0, none⟩) 2 2)).setCell ⟨r4, 1, none⟩ (.int .i64 2)).setCell ⟨g5, 0, none⟩ (.int .i64 (-1000001))).setCell ⟨r6, 0, none⟩ (.int .u8 91)) (.slice (some ⟨r6, 0, none⟩) 2 2) (givM 91 1 0 (-1) 0 outF) ∧ Below L0 W0 ((((((((V.setCell ⟨r0, 13, none⟩ (.slice (some ⟨N, 0, none⟩) 21 21)).setCell ⟨r1, 2, none⟩ (.int .u8 70)).setCell ⟨r2, 12, none⟩ (.int .i64 1)).alloc (.cells #[.int .u8 93, .slice none 0 0, .int .u8 91, .slice none 0 0] 33)).setCell ⟨r3, 13, none⟩ (.slice (some ⟨V.heap.size, 0, none⟩) 2 2)).setCell ⟨r4, 1, none⟩ (.int .i64 2)).setCell ⟨g5, 0, none⟩ (.int .i64 (-1000001))).setCell ⟨r6, 0, none⟩ (.int .u8 91)) := by
  have y0 := G0.rr
  have y1 := G1.rr
  have y2 := G2.rr
  have y3 := G3.rr
  have y4 := G4.rr
  have y5 := G5.rr
  have y6 := G6.rr
  have z5 := G5.gg
  have s7 : n7 ≤ V.heap.size := by have := lt_of_block G6.R; have := shs_lt hN; omega
  have G0_1 := G0.row 13 (.slice (some ⟨N, 0, none⟩) 21 21)
  have G1_1 := G1.keep r0 13 (.slice (some ⟨N, 0, none⟩) 21 21) (by omega)
  have G2_1 := G2.keep r0 13 (.slice (some ⟨N, 0, none⟩) 21 21) (by omega)
  have G3_1 := G3.keep r0 13 (.slice (some ⟨N, 0, none⟩) 21 21) (by omega)
  have G4_1 := G4.keep r0 13 (.slice (some ⟨N, 0, none⟩) 21 21) (by omega)
  have G5_1 := G5.keep r0 13 (.slice (some ⟨N, 0, none⟩) 21 21) (by omega)
  have G6_1 := G6.keep r0 13 (.slice (some ⟨N, 0, none⟩) 21 21) (by omega)
  have G0_2 := G0_1.keep r1 2 (.int .u8 70) (by omega)
  have G1_2 := G1_1.row 2 (.int .u8 70)
  have G2_2 := G2_1.keep r1 2 (.int .u8 70) (by omega)
  have G3_2 := G3_1.keep r1 2 (.int .u8 70) (by omega)
  have G4_2 := G4_1.keep r1 2 (.int .u8 70) (by omega)
  have G5_2 := G5_1.keep r1 2 (.int .u8 70) (by omega)
  have G6_2 := G6_1.keep r1 2 (.int .u8 70) (by omega)
  have G0_3 := G0_2.keep r2 12 (.int .i64 1) (by omega)
  have G1_3 := G1_2.keep r2 12 (.int .i64 1) (by omega)
  have G2_3 := G2_2.row 12 (.int .i64 1)
  have G3_3 := G3_2.keep r2 12 (.int .i64 1) (by omega)
  have G4_3 := G4_2.keep r2 12 (.int .i64 1) (by omega)
  have G5_3 := G5_2.keep r2 12 (.int .i64 1) (by omega)
  have G6_3 := G6_2.keep r2 12 (.int .i64 1) (by omega)
  have G0_4 := G0_3.later (w1 := ((((V.setCell ⟨r0, 13, none⟩ (.slice (some ⟨N, 0, none⟩) 21 21)).setCell ⟨r1, 2, none⟩ (.int .u8 70)).setCell ⟨r2, 12, none⟩ (.int .i64 1)).alloc (.cells #[.int .u8 93, .slice none 0 0, .int .u8 91, .slice none 0 0] 33))) ((Below.refl _ _).alloc (Nat.le_refl _) _)
  have G1_4 := G1_3.later (w1 := ((((V.setCell ⟨r0, 13, none⟩ (.slice (some ⟨N, 0, none⟩) 21 21)).setCell ⟨r1, 2, none⟩ (.int .u8 70)).setCell ⟨r2, 12, none⟩ (.int .i64 1)).alloc (.cells #[.int .u8 93, .slice none 0 0, .int .u8 91, .slice none 0 0] 33))) ((Below.refl _ _).alloc (Nat.le_refl _) _)
  have G2_4 := G2_3.later (w1 := ((((V.setCell ⟨r0, 13, none⟩ (.slice (some ⟨N, 0, none⟩) 21 21)).setCell ⟨r1, 2, none⟩ (.int .u8 70)).setCell ⟨r2, 12, none⟩ (.int .i64 1)).alloc (.cells #[.int .u8 93, .slice none 0 0, .int .u8 91, .slice none 0 0] 33))) ((Below.refl _ _).alloc (Nat.le_refl _) _)
  have G3_4 := G3_3.later (w1 := ((((V.setCell ⟨r0, 13, none⟩ (.slice (some ⟨N, 0, none⟩) 21 21)).setCell ⟨r1, 2, none⟩ (.int .u8 70)).setCell ⟨r2, 12, none⟩ (.int .i64 1)).alloc (.cells #[.int .u8 93, .slice none 0 0, .int .u8 91, .slice none 0 0] 33))) ((Below.refl _ _).alloc (Nat.le_refl _) _)
  have G4_4 := G4_3.later (w1 := ((((V.setCell ⟨r0, 13, none⟩ (.slice (some ⟨N, 0, none⟩) 21 21)).setCell ⟨r1, 2, none⟩ (.int .u8 70)).setCell ⟨r2, 12, none⟩ (.int .i64 1)).alloc (.cells #[.int .u8 93, .slice none 0 0, .int .u8 91, .slice none 0 0] 33))) ((Below.refl _ _).alloc (Nat.le_refl _) _)
  have G5_4 := G5_3.later (w1 := ((((V.setCell ⟨r0, 13, none⟩ (.slice (some ⟨N, 0, none⟩) 21 21)).setCell ⟨r1, 2, none⟩ (.int .u8 70)).setCell ⟨r2, 12, none⟩ (.int .i64 1)).alloc (.cells #[.int .u8 93, .slice none 0 0, .int .u8 91, .slice none 0 0] 33))) ((Below.refl _ _).alloc (Nat.le_refl _) _)
  have G6_4 := G6_3.later (w1 := ((((V.setCell ⟨r0, 13, none⟩ (.slice (some ⟨N, 0, none⟩) 21 21)).setCell ⟨r1, 2, none⟩ (.int .u8 70)).setCell ⟨r2, 12, none⟩ (.int .i64 1)).alloc (.cells #[.int .u8 93, .slice none 0 0, .int .u8 91, .slice none 0 0] 33))) ((Below.refl _ _).alloc (Nat.le_refl _) _)
  have G0_5 := G0_4.keep r3 13 (.slice (some ⟨V.heap.size, 0, none⟩) 2 2) (by omega)
  have G1_5 := G1_4.keep r3 13 (.slice (some ⟨V.heap.size, 0, none⟩) 2 2) (by omega)
  have G2_5 := G2_4.keep r3 13 (.slice (some ⟨V.heap.size, 0, none⟩) 2 2) (by omega)
  have G3_5 := G3_4.row 13 (.slice (some ⟨V.heap.size, 0, none⟩) 2 2)
  have G4_5 := G4_4.keep r3 13 (.slice (some ⟨V.heap.size, 0, none⟩) 2 2) (by omega)
  have G5_5 := G5_4.keep r3 13 (.slice (some ⟨V.heap.size, 0, none⟩) 2 2) (by omega)
  have G6_5 := G6_4.keep r3 13 (.slice (some ⟨V.heap.size, 0, none⟩) 2 2) (by omega)
  have G0_6 := G0_5.keep r4 1 (.int .i64 2) (by omega)
  have G1_6 := G1_5.keep r4 1 (.int .i64 2) (by omega)
  have G2_6 := G2_5.keep r4 1 (.int .i64 2) (by omega)
  have G3_6 := G3_5.keep r4 1 (.int .i64 2) (by omega)
  have G4_6 := G4_5.row 1 (.int .i64 2)
  have G5_6 := G5_5.keep r4 1 (.int .i64 2) (by omega)
  have G6_6 := G6_5.keep r4 1 (.int .i64 2) (by omega)
  have G0_7 := G0_6.keep g5 0 (.int .i64 (-1000001)) (by omega)
  have G1_7 := G1_6.keep g5 0 (.int .i64 (-1000001)) (by omega)
  have G2_7 := G2_6.keep g5 0 (.int .i64 (-1000001)) (by omega)
  have G3_7 := G3_6.keep g5 0 (.int .i64 (-1000001)) (by omega)
  have G4_7 := G4_6.keep g5 0 (.int .i64 (-1000001)) (by omega)
  have G5_7 := G5_6.grd (-1000001)
  have G6_7 := G6_6.keep g5 0 (.int .i64 (-1000001)) (by omega)
  have G0_8 := G0_7.keep r6 0 (.int .u8 91) (by omega)
  have G1_8 := G1_7.keep r6 0 (.int .u8 91) (by omega)
  have G2_8 := G2_7.keep r6 0 (.int .u8 91) (by omega)
  have G3_8 := G3_7.keep r6 0 (.int .u8 91) (by omega)
  have G4_8 := G4_7.keep r6 0 (.int .u8 91) (by omega)
  have G5_8 := G5_7.keep r6 0 (.int .u8 91) (by omega)
  have G6_8 := G6_7.row 0 (.int .u8 91)
  have q1 := shs_keep21 hN hn7 (s := r0) (j := 13) (x := .slice (some ⟨N, 0, none⟩) 21 21) (by omega)
  have q2 := shs_keep21 q1 hn7 (s := r1) (j := 2) (x := .int .u8 70) (by omega)
  have q3 := shs_keep21 q2 hn7 (s := r2) (j := 12) (x := .int .i64 1) (by omega)
  have q4 := q3.later ((Below.refl _ _).alloc (Nat.le_refl _) (.cells #[.int .u8 93, .slice none 0 0, .int .u8 91, .slice none 0 0] 33))
  have q5 := shs_keep21 q4 hn7 (s := r3) (j := 13) (x := .slice (some ⟨V.heap.size, 0, none⟩) 2 2) (by omega)
  have q6 := shs_keep21 q5 hn7 (s := r4) (j := 1) (x := .int .i64 2) (by omega)
  have q7 := shs_keep21 q6 hn7 (s := g5) (j := 0) (x := .int .i64 (-1000001)) (by omega)
  have q8 := shs_keep21 q7 hn7 (s := r6) (j := 0) (x := .int .u8 91) (by omega)
  have b4 := heap_alloc_new (((V.setCell ⟨r0, 13, none⟩ (.slice (some ⟨N, 0, none⟩) 21 21)).setCell ⟨r1, 2, none⟩ (.int .u8 70)).setCell ⟨r2, 12, none⟩ (.int .i64 1)) (.cells #[.int .u8 93, .slice none 0 0, .int .u8 91, .slice none 0 0] 33)
  rw [World.size_setCell, World.size_setCell, World.size_setCell] at b4
  have b5 := heap_keep (b := r3) (j := 13) (x := .slice (some ⟨V.heap.size, 0, none⟩) 2 2) (by omega) b4
  have b6 := heap_keep (b := r4) (j := 1) (x := .int .i64 2) (by omega) b5
  have b7 := heap_keep (b := g5) (j := 0) (x := .int .i64 (-1000001)) (by omega) b6
  have b8 := shs_two (c := 93) (d := 91) (heap_keep (b := r6) (j := 0) (x := .int .u8 91) (by omega) b7)
  refine ⟨(G0.cell 13 _ rfl).1, (G0.cell 13 _ rfl).2, lt_of_block G0.R, (G1_1.cell 2 _ rfl).1, (G1_1.cell 2 _ rfl).2, lt_of_block G1_1.R, (G2_2.cell 12 _ rfl).1, (G2_2.cell 12 _ rfl).2, lt_of_block G2_2.R, (G3_4.cell 13 _ rfl).1, (G3_4.cell 13 _ rfl).2, lt_of_block G3_4.R, (G4_5.cell 1 _ rfl).1, (G4_5.cell 1 _ rfl).2, lt_of_block G4_5.R, (G5_6.cell 4 _ rfl).1, (G5_6.cell 4 _ rfl).2, lt_of_block G5_6.R, G5_6.gcell.1, G5_6.gcell.2, lt_of_block G5_6.G, (G6_7.cell 0 _ rfl).1, (G6_7.cell 0 _ rfl).2, lt_of_block G6_7.R,
    GivM.rws 65 1 0 0 _ _ q8 (by simpa [givC] using G0_8),
    GivM.rws 65 1 70 0 _ _ G1_8.out2 (by simpa [givC] using G1_8),
    GivM.rws 65 1 0 1 _ _ G2_8.out2 (by simpa [givC] using G2_8),
    GivM.rws 65 1 0 0 _ _ b8 (by simpa [givC] using G3_8),
    GivM.rws 65 2 0 0 _ _ G4_8.out2 (by simpa [givC] using G4_8),
    GivM.rws 65 1 0 0 _ _ G5_8.out2 (by simpa [givC] using G5_8),
    GivM.rws 91 1 0 0 _ _ G6_8.out2 (by simpa [givC] using G6_8),
    ((((((((hV.setCell (by show L0 ≤ r0; omega) _).setCell (by show L0 ≤ r1; omega) _).setCell (by show L0 ≤ r2; omega) _).alloc (by simp only [World.size_setCell]; omega) _).setCell (by show L0 ≤ r3; omega) _).setCell (by show L0 ≤ r4; omega) _).setCell (by show L0 ≤ g5; omega) _).setCell (by show L0 ≤ r6; omega) _)⟩
theorem dbl_rws {w : World} {r o p1 p2 f1 f2 : Nat} (hR : w.heap[r]? = some (.cells #[.int .u8 70, .int .i64 1, .int .u8 0, .int .u8 0, .slice none 0 0, .int .i64 0, .slice (some ⟨o, 0, none⟩) 2 2] 31 (0, 0)))
    (hO : w.heap[o]? = some (.cells #[.int .u8 70, .slice (some ⟨p1, 0, none⟩) 1 1, .int .u8 70, .slice (some ⟨p2, 0, none⟩) 1 1] 33 (0, 0)))
    (h1 : w.heap[p1]? = some (.cells #[.int .i64 0, .slice (some ⟨f1, 0, none⟩) 1 1] 35 (0, 0))) (h2 : w.heap[p2]? = some (.cells #[.int .i64 0, .slice (some ⟨f2, 0, none⟩) 1 1] 35 (0, 0)))
    (g1 : w.heap[f1]? = some (.cells #[.int .i64 2] 3 (0, 0))) (g2 : w.heap[f2]? = some (.cells #[.int .i64 1] 3 (0, 0))) : Rws w (.slice (some ⟨r, 0, none⟩) 1 1) dblR := by
  have hs : Shs w (.slice (some ⟨o, 0, none⟩) 2 2) [⟨70, [⟨0, [2]⟩]⟩, ⟨70, [⟨0, [1]⟩]⟩] := by
    refine .some o 0 2 [⟨70, [⟨0, [2]⟩]⟩, ⟨70, [⟨0, [1]⟩]⟩] (by simp) (lt_of_block hO) fun i hi => ?_
    have : i = 0 ∨ i = 1 := by
      have : i < 2 := hi
      omega
    rcases this with rfl | rfl
    · exact ⟨by simp [World.cell?, hO], .slice (some ⟨p1, 0, none⟩) 1 1, by simp [World.cell?, hO], fms_one h1 g1⟩
    · exact ⟨by simp [World.cell?, hO], .slice (some ⟨p2, 0, none⟩) 1 1, by simp [World.cell?, hO], fms_one h2 g2⟩
  refine .some r 0 1 dblR (by decide) (lt_of_block hR) fun i hi => ?_
  obtain rfl : i = 0 := by
    have : i < 1 := hi
    omega
  exact ⟨by simp [World.cell?, hR, dblR], by simp [World.cell?, hR, dblR], by simp [World.cell?, hR, dblR], by simp [World.cell?, hR, dblR], by simp [World.cell?, hR, dblR], ⟨.slice none 0 0, by simp [World.cell?, hR], .none _ _⟩, ⟨.slice (some ⟨o, 0, none⟩) 2 2, by simp [World.cell?, hR], hs⟩⟩
theorem mods_arg1 {w : World} {o i : Nat} {c : UInt8} {x : Int} (h : w.heap[o]? = some (.cells #[.int .u8 c.toNat, .slice (some ⟨i, 0, none⟩) 1 1] 25 (0, 0))) (hi : w.heap[i]? = some (.cells #[.int .i64 x] 3 (0, 0))) : Mods w (.slice (some ⟨o, 0, none⟩) 1 1) [⟨c, [x]⟩] := by
  refine .some o 0 1 [⟨c, [x]⟩] (by simp) (lt_of_block h) fun k hk => ?_
  obtain rfl : k = 0 := by simpa using hk
  exact ⟨by simp [World.cell?, h], .slice (some ⟨i, 0, none⟩) 1 1, by simp [World.cell?, h], ints_one hi, .inr ⟨_, _, _, rfl⟩⟩
theorem mods_lit {w : World} {o : Nat} {c : UInt8} (h : w.heap[o]? = some (.cells #[.int .u8 c.toNat, .slice none 0 0] 25 (0, 0))) : Mods w (.slice (some ⟨o, 0, none⟩) 1 1) [⟨c, []⟩] := by
  refine .some o 0 1 [⟨c, []⟩] (by simp) (lt_of_block h) fun k hk => ?_
  obtain rfl : k = 0 := by simpa using hk
  exact ⟨by simp [World.cell?, h], .slice none 0 0, by simp [World.cell?, h], .none _ _, .inl rfl⟩
/-- The doubling rule, as it is put together. -/
theorem dbl_made {wa wb : World} {ba bb : Nat} (hb : Below (wa.alloc (.cells #[.int .i64 0, .slice (some ⟨ba, 0, none⟩) 1 1] 35)).heap.size (wa.alloc (.cells #[.int .i64 0, .slice (some ⟨ba, 0, none⟩) 1 1] 35)) wb) (ha : wa.heap[ba]? = some (.cells #[.int .i64 2] 3 (0, 0))) (hbb : wb.heap[bb]? = some (.cells #[.int .i64 1] 3 (0, 0))) :
    Rws (((wb.alloc (.cells #[.int .i64 0, .slice (some ⟨bb, 0, none⟩) 1 1] 35)).alloc (.cells #[.int .u8 70, .slice (some ⟨wa.heap.size, 0, none⟩) 1 1, .int .u8 70, .slice (some ⟨wb.heap.size, 0, none⟩) 1 1] 33)).alloc (.cells #[.int .u8 70, .int .i64 1, .int .u8 0, .int .u8 0, .slice none 0 0, .int .i64 0, .slice (some ⟨wb.heap.size + 1, 0, none⟩) 2 2] 31)) (.slice (some ⟨wb.heap.size + 1 + 1, 0, none⟩) 1 1) dblR := by
  have e1 := blk_k (heap_alloc_new wa (.cells #[.int .i64 0, .slice (some ⟨ba, 0, none⟩) 1 1] 35)) hb
  have e2 := blk_k (heap_alloc_old ha (.cells #[.int .i64 0, .slice (some ⟨ba, 0, none⟩) 1 1] 35)) hb
  have up : ∀ {b : Nat} {o : Obj}, wb.heap[b]? = some o → (((wb.alloc (.cells #[.int .i64 0, .slice (some ⟨bb, 0, none⟩) 1 1] 35)).alloc (.cells #[.int .u8 70, .slice (some ⟨wa.heap.size, 0, none⟩) 1 1, .int .u8 70, .slice (some ⟨wb.heap.size, 0, none⟩) 1 1] 33)).alloc (.cells #[.int .u8 70, .int .i64 1, .int .u8 0, .int .u8 0, .slice none 0 0, .int .i64 0, .slice (some ⟨wb.heap.size + 1, 0, none⟩) 2 2] 31)).heap[b]? = some o := fun h => heap_alloc_old (heap_alloc_old (heap_alloc_old h (.cells #[.int .i64 0, .slice (some ⟨bb, 0, none⟩) 1 1] 35)) (.cells #[.int .u8 70, .slice (some ⟨wa.heap.size, 0, none⟩) 1 1, .int .u8 70, .slice (some ⟨wb.heap.size, 0, none⟩) 1 1] 33)) (.cells #[.int .u8 70, .int .i64 1, .int .u8 0, .int .u8 0, .slice none 0 0, .int .i64 0, .slice (some ⟨wb.heap.size + 1, 0, none⟩) 2 2] 31)
  have n2 := heap_alloc_old (heap_alloc_old (heap_alloc_new wb (.cells #[.int .i64 0, .slice (some ⟨bb, 0, none⟩) 1 1] 35)) (.cells #[.int .u8 70, .slice (some ⟨wa.heap.size, 0, none⟩) 1 1, .int .u8 70, .slice (some ⟨wb.heap.size, 0, none⟩) 1 1] 33)) (.cells #[.int .u8 70, .int .i64 1, .int .u8 0, .int .u8 0, .slice none 0 0, .int .i64 0, .slice (some ⟨wb.heap.size + 1, 0, none⟩) 2 2] 31)
  have n3 := heap_alloc_old (heap_alloc_new (wb.alloc (.cells #[.int .i64 0, .slice (some ⟨bb, 0, none⟩) 1 1] 35)) (.cells #[.int .u8 70, .slice (some ⟨wa.heap.size, 0, none⟩) 1 1, .int .u8 70, .slice (some ⟨wb.heap.size, 0, none⟩) 1 1] 33)) (.cells #[.int .u8 70, .int .i64 1, .int .u8 0, .int .u8 0, .slice none 0 0, .int .i64 0, .slice (some ⟨wb.heap.size + 1, 0, none⟩) 2 2] 31)
  have n4 := heap_alloc_new ((wb.alloc (.cells #[.int .i64 0, .slice (some ⟨bb, 0, none⟩) 1 1] 35)).alloc (.cells #[.int .u8 70, .slice (some ⟨wa.heap.size, 0, none⟩) 1 1, .int .u8 70, .slice (some ⟨wb.heap.size, 0, none⟩) 1 1] 33)) (.cells #[.int .u8 70, .int .i64 1, .int .u8 0, .int .u8 0, .slice none 0 0, .int .i64 0, .slice (some ⟨wb.heap.size + 1, 0, none⟩) 2 2] 31)
  rw [World.size_alloc] at n3
  rw [World.size_alloc, World.size_alloc] at n4
  exact dbl_rws n4 n3 (up e1) n2 (up e2) (up hbb)
end Go.Proofs.YtlmofdmbcddddaaDoor
