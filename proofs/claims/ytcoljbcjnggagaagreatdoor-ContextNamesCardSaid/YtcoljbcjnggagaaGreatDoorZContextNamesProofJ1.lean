/-
  The walk of ContextNames.
-/
import Derived.Test.YtcoljbcjnggagaaGreatDoorZContextBackProofM17
namespace Go.Proofs.YtcoljbcjnggagaaGreatDoor
open Go.RowKit
open WM RM CM
set_option linter.unusedVariables false
set_option linter.unusedSimpArgs false

/-- The examples' rules, but for a neighbour of the first and the weight of the second. -/
def givX (c : UInt8) (n : Int) : List Rw := [⟨65, 0, c, 0, [], 0, [⟨66, []⟩]⟩, ⟨66, 0, 0, 0, [], n, [⟨65, []⟩]⟩]
def givXC (c : UInt8) (n : Int) (o1 o2 : Nat) : Array Value := #[.int .u8 65, .int .i64 0, .int .u8 c.toNat, .int .u8 0, .slice none 0 0, .int .i64 0, .slice (some ⟨o1, 0, none⟩) 1 1, .int .u8 66, .int .i64 0, .int .u8 0, .int .u8 0, .slice none 0 0, .int .i64 n, .slice (some ⟨o2, 0, none⟩) 1 1]
theorem givX_rws {w : World} {c : UInt8} {n : Int} {r o1 o2 : Nat} (hR : w.heap[r]? = some (.cells (givXC c n o1 o2) 28 (0, 0))) (h1 : w.heap[o1]? = some (.cells #[.int .u8 66, .slice none 0 0] 25 (0, 0))) (h2 : w.heap[o2]? = some (.cells #[.int .u8 65, .slice none 0 0] 25 (0, 0))) : Rws w (.slice (some ⟨r, 0, none⟩) 2 2) (givX c n) := by
  unfold givXC at hR
  refine .some r 0 2 (givX c n) (by simp [givX]) (lt_of_block hR) fun i hi => ?_
  have : i = 0 ∨ i = 1 := by
    have : i < 2 := hi
    omega
  rcases this with rfl | rfl
  · exact ⟨by simp [World.cell?, hR, givX], by simp [World.cell?, hR, givX], by simp [World.cell?, hR, givX], by simp [World.cell?, hR, givX], by simp [World.cell?, hR, givX], ⟨.slice none 0 0, by simp [World.cell?, hR], .none _ _⟩, ⟨.slice (some ⟨o1, 0, none⟩) 1 1, by simp [World.cell?, hR], shs_one h1⟩⟩
  · exact ⟨by simp [World.cell?, hR, givX], by simp [World.cell?, hR, givX], by simp [World.cell?, hR, givX], by simp [World.cell?, hR, givX], by simp [World.cell?, hR, givX], ⟨.slice none 0 0, by simp [World.cell?, hR], .none _ _⟩, ⟨.slice (some ⟨o2, 0, none⟩) 1 1, by simp [World.cell?, hR], shs_one h2⟩⟩
def botR : List Rw := [⟨70, 0, 65, 66, [], 0, [⟨71, []⟩]⟩]
theorem botR_rws {w : World} {r o : Nat} (hR : w.heap[r]? = some (.cells #[.int .u8 70, .int .i64 0, .int .u8 65, .int .u8 66, .slice none 0 0, .int .i64 0, .slice (some ⟨o, 0, none⟩) 1 1] 28 (0, 0))) (h1 : w.heap[o]? = some (.cells #[.int .u8 71, .slice none 0 0] 25 (0, 0))) : Rws w (.slice (some ⟨r, 0, none⟩) 1 1) botR := by
  refine .some r 0 1 botR (by decide) (lt_of_block hR) fun i hi => ?_
  have : i = 0 := by
    have : i < 1 := hi
    omega
  subst this
  exact ⟨by simp [World.cell?, hR, botR], by simp [World.cell?, hR, botR], by simp [World.cell?, hR, botR], by simp [World.cell?, hR, botR], by simp [World.cell?, hR, botR], ⟨.slice none 0 0, by simp [World.cell?, hR], .none _ _⟩, ⟨.slice (some ⟨o, 0, none⟩) 1 1, by simp [World.cell?, hR], shs_one h1⟩⟩
theorem smX {l : List Rw} (h : (l.all fun r => decide (r.gs.length = 0) && decide (r.out.length ≤ 1) && r.out.all fun s => decide (s.a.length = 0)) = true) : ∀ r ∈ l, RwSm r := by
  intro r hr
  have h1 := List.all_eq_true.1 h r hr
  simp only [Bool.and_eq_true, decide_eq_true_eq] at h1
  obtain ⟨⟨a, b⟩, c⟩ := h1
  have hg : r.gs = [] := List.length_eq_zero_iff.1 a
  refine ⟨by omega, by omega, by simp [hg], fun s hs => ?_⟩
  have h2 := List.all_eq_true.1 c s hs
  have h3 : s.a = [] := List.length_eq_zero_iff.1 (of_decide_eq_true h2)
  simp [h3]
theorem heap_set {w : World} {b j : Nat} {x : Value} {cs : Array Value} {t : TypeId} (h : w.heap[b]? = some (.cells cs t (0, 0))) : (w.setCell ⟨b, j, none⟩ x).heap[b]? = some (.cells (cs.setIfInBounds j x) t (0, 0)) := by
  simp only [World.setCell, Array.getElem?_modify, if_true, h]; rfl
theorem heap_keep {w : World} {b j k : Nat} {x : Value} {o : Option Obj} (hk : k ≠ b) (h : w.heap[k]? = o) : (w.setCell ⟨b, j, none⟩ x).heap[k]? = o := (Below.heap_setCell _ _ _ _ (by simpa using hk)).trans h
structure NamX (w10 wa wb : World) (r9 r10 : Nat) : Prop where
  q1 : w10.cell? ⟨r9, 2, none⟩ = some (.int .u8 66)
  f1 : w10.frozen? ⟨r9, 2, none⟩ = false
  l1 : r9 < w10.heap.size
  q2 : wa.cell? ⟨r10, 12, none⟩ = some (.int .i64 0)
  f2 : wa.frozen? ⟨r10, 12, none⟩ = false
  l2 : r10 < wa.heap.size
  R1 : Rws wb (.slice (some ⟨r9, 0, none⟩) 2 2) (givX 91 0)
  R2 : Rws wb (.slice (some ⟨r10, 0, none⟩) 2 2) (givX 66 1)
theorem namX {w8 w9 w10 : World} {r9 o1 o2 r10 o3 o4 : Nat} (hb9 : Below w8.heap.size w8 w9) (hG9 : CGiv w9 w8.heap.size r9 o1 o2) (hb10 : Below w9.heap.size w9 w10) (hG10 : CGiv w10 w9.heap.size r10 o3 o4) :
    NamX w10 (w10.setCell ⟨r9, 2, none⟩ (.int .u8 91)) ((w10.setCell ⟨r9, 2, none⟩ (.int .u8 91)).setCell ⟨r10, 12, none⟩ (.int .i64 1)) r9 r10 ∧ Below w8.heap.size w8 ((w10.setCell ⟨r9, 2, none⟩ (.int .u8 91)).setCell ⟨r10, 12, none⟩ (.int .i64 1)) := by
  have H9 := hG9.later hb10
  have e1 := lt_of_block hG9.R
  have e2 := lt_of_block hG9.O1
  have e3 := lt_of_block hG9.O2
  have g1 := hG10.hr
  have g2 := hG9.hr
  have s8 := hb9.size
  have hne : r9 ≠ r10 := by omega
  have d3 : o3 ≠ r9 := by
    rintro rfl
    have a := H9.R
    rw [hG10.O1] at a
    simp [cgivC] at a
  have d4 : o4 ≠ r9 := by
    rintro rfl
    have a := H9.R
    rw [hG10.O2] at a
    simp [cgivC] at a
  have a1 := heap_set (j := 2) (x := .int .u8 91) H9.R
  have a2 := heap_keep (j := 2) (x := .int .u8 91) hne.symm hG10.R
  have b1 := heap_keep (j := 12) (x := .int .i64 1) hne a1
  have b2 := heap_set (j := 12) (x := .int .i64 1) a2
  have c1 := heap_keep (j := 12) (x := .int .i64 1) (show o1 ≠ r10 by omega) (heap_keep (j := 2) (x := .int .u8 91) H9.n1 H9.O1)
  have c2 := heap_keep (j := 12) (x := .int .i64 1) (show o2 ≠ r10 by omega) (heap_keep (j := 2) (x := .int .u8 91) H9.n2 H9.O2)
  have c3 := heap_keep (j := 12) (x := .int .i64 1) hG10.n1 (heap_keep (j := 2) (x := .int .u8 91) d3 hG10.O1)
  have c4 := heap_keep (j := 12) (x := .int .i64 1) hG10.n2 (heap_keep (j := 2) (x := .int .u8 91) d4 hG10.O2)
  refine ⟨⟨by simp [World.cell?, H9.R, cgivC], by simp [World.frozen?, H9.R], lt_of_block H9.R, by simp [World.cell?, a2, cgivC], by simp [World.frozen?, a2], lt_of_block a2, givX_rws (c := 91) (n := 0) b1 c1 c2, givX_rws (c := 66) (n := 1) b2 c3 c4⟩, ?_⟩
  exact ((hb9.trans (hb10.mono s8)).setCell (by show w8.heap.size ≤ r9; omega) _).setCell (by show w8.heap.size ≤ r10; omega) _
theorem mods_lit {w : World} {o : Nat} {c : UInt8} (h : w.heap[o]? = some (.cells #[.int .u8 c.toNat, .slice none 0 0] 45 (0, 0))) : Mods w (.slice (some ⟨o, 0, none⟩) 1 1) [⟨c, []⟩] := by
  refine .some o 0 1 [⟨c, []⟩] (by simp) (lt_of_block h) fun i hi => ?_
  obtain rfl : i = 0 := by simpa using hi
  exact ⟨by simp [World.cell?, h], .slice none 0 0, by simp [World.cell?, h], .none _ _, .inl rfl⟩
def nx0 : List Md := [⟨91, []⟩, ⟨91, []⟩, ⟨70, []⟩, ⟨93, []⟩, ⟨93, []⟩, ⟨71, []⟩]
def nt0 : Bs := [91, 91, 70, 93, 93, 71]
def nx1 : List Md := [⟨65, []⟩, ⟨91, []⟩, ⟨43, []⟩, ⟨91, []⟩, ⟨45, []⟩, ⟨66, []⟩, ⟨93, []⟩, ⟨93, []⟩, ⟨67, []⟩]
def nt1 : Bs := [65, 91, 43, 91, 45, 66, 93, 93, 67]
def nx2 : List Md := [⟨65, []⟩, ⟨43, []⟩, ⟨91, []⟩, ⟨66, []⟩, ⟨93, []⟩, ⟨43, []⟩]
def nt2 : Bs := [65, 43, 91, 66, 93, 43]
def nx3 : List Md := [⟨65, []⟩, ⟨70, []⟩, ⟨91, []⟩, ⟨70, []⟩, ⟨93, []⟩, ⟨43, []⟩, ⟨66, []⟩, ⟨91, []⟩, ⟨70, []⟩, ⟨66, []⟩, ⟨93, []⟩, ⟨70, []⟩]
def nt3 : Bs := [65, 70, 91, 70, 93, 43, 66, 91, 70, 66, 93, 70]
def nx4 : List Md := [⟨65, []⟩, ⟨71, []⟩, ⟨91, []⟩, ⟨70, []⟩, ⟨93, []⟩, ⟨43, []⟩, ⟨66, []⟩, ⟨91, []⟩, ⟨70, []⟩, ⟨66, []⟩, ⟨93, []⟩, ⟨70, []⟩]
def nt4 : Bs := [65, 71, 91, 70, 93, 43, 66, 91, 70, 66, 93, 70]
theorem nx_prs : prs nt0 = some nx0 ∧ prs nt1 = some nx1 ∧ prs nt2 = some nx2 ∧ prs nt3 = some nx3 ∧ prs nt4 = some nx4 := by decide +kernel
theorem nx_small : (∀ m ∈ nx0, m.a.length ≤ 1000) ∧ (∀ m ∈ nx1, m.a.length ≤ 1000) ∧ (∀ m ∈ nx2, m.a.length ≤ 1000) ∧ (∀ m ∈ nx3, m.a.length ≤ 1000) ∧ (∀ m ∈ nx4, m.a.length ≤ 1000) := by decide
theorem nb0 : askC [] nx0 5 = 0 ∧ lefV [] nx0 5 = (-1) ∧ rigV [] nx0 5 = (-1) := by decide +kernel
theorem nb1 : askC [43, 45] nx1 5 = 0 ∧ lefV [43, 45] nx1 5 = 0 ∧ rigV [43, 45] nx1 5 = (-1) := by decide +kernel
theorem nb2 : askC [] nx1 5 = 0 ∧ lefV [] nx1 5 = 4 ∧ rigV [] nx1 5 = (-1) := by decide +kernel
theorem nb3 : askC [] nx1 0 = 0 ∧ lefV [] nx1 0 = (-1) ∧ rigV [] nx1 0 = 8 := by decide +kernel
theorem nb4 : askC [43] nx2 0 = 0 ∧ lefV [43] nx2 0 = (-1) ∧ rigV [43] nx2 0 = (-1) := by decide +kernel
theorem nv_step : csC [43] botR nx3 = 0 ∧ csL [43] botR nx3 = nx4 := by decide +kernel
def zer41 : List Rw := List.replicate 41 ⟨0, 0, 0, 0, [], 0, []⟩
theorem nv_chk : cchk [] (givX 91 0) = 8 ∧ cchk [] (givX 66 1) = 8 ∧ cchk [43, 43] (givX 66 0) = 8 ∧ cchk [91] (givX 66 0) = 8 ∧ cchk [97, 98, 99, 100, 101, 102, 103, 104, 105, 106, 107, 108, 109, 110, 111, 112, 113, 114, 115, 116] (givX 66 0) = 0 ∧ cchk [97, 98, 99, 100, 101, 102, 103, 104, 105, 106, 107, 108, 109, 110, 111, 112, 113, 114, 115, 116, 117] (givX 66 0) = 8 ∧ cchk [91] zer41 = 4 := by decide +kernel
theorem nv_ask : askC [] nx3 2 = 2 ∧ askC [] nx3 99 = 2 ∧ askC [60] nx3 0 = 8 := by decide +kernel
theorem nv_fin : cfiC [] botR nx3 (-1) = 2 ∧ cfiC [] botR nx3 2 = 0 ∧ cfiV [] botR nx3 2 = -1 ∧ cruC [] botR nx3 31 = 2 ∧ csC [] botR [⟨91, []⟩] = 28 := by decide +kernel
theorem made7 {a b c d e f g : Value} {n i : Nat} (h : i < n) : (madeCells #[a, b, c, d, e, f, g] (n * 7))[i * 7]? = some a ∧ (madeCells #[a, b, c, d, e, f, g] (n * 7))[i * 7 + 1]? = some b ∧ (madeCells #[a, b, c, d, e, f, g] (n * 7))[i * 7 + 2]? = some c ∧ (madeCells #[a, b, c, d, e, f, g] (n * 7))[i * 7 + 3]? = some d ∧ (madeCells #[a, b, c, d, e, f, g] (n * 7))[i * 7 + 4]? = some e ∧ (madeCells #[a, b, c, d, e, f, g] (n * 7))[i * 7 + 5]? = some f ∧ (madeCells #[a, b, c, d, e, f, g] (n * 7))[i * 7 + 6]? = some g := by
  have m0 : i * 7 % 7 = 0 := by omega
  have m1 : (i * 7 + 1) % 7 = 1 := by omega
  have m2 : (i * 7 + 2) % 7 = 2 := by omega
  have m3 : (i * 7 + 3) % 7 = 3 := by omega
  have m4 : (i * 7 + 4) % 7 = 4 := by omega
  have m5 : (i * 7 + 5) % 7 = 5 := by omega
  have m6 : (i * 7 + 6) % 7 = 6 := by omega
  have l0 : i * 7 < n * 7 := by omega
  have l1 : i * 7 + 1 < n * 7 := by omega
  have l2 : i * 7 + 2 < n * 7 := by omega
  have l3 : i * 7 + 3 < n * 7 := by omega
  have l4 : i * 7 + 4 < n * 7 := by omega
  have l5 : i * 7 + 5 < n * 7 := by omega
  have l6 : i * 7 + 6 < n * 7 := by omega
  unfold madeCells
  refine ⟨?_, ?_, ?_, ?_, ?_, ?_, ?_⟩
  · rw [Array.getElem?_map, Array.getElem?_eq_getElem (by simpa using l0)]; simp
  · rw [Array.getElem?_map, Array.getElem?_eq_getElem (by simpa using l1)]; simp [m1]
  · rw [Array.getElem?_map, Array.getElem?_eq_getElem (by simpa using l2)]; simp [m2]
  · rw [Array.getElem?_map, Array.getElem?_eq_getElem (by simpa using l3)]; simp [m3]
  · rw [Array.getElem?_map, Array.getElem?_eq_getElem (by simpa using l4)]; simp [m4]
  · rw [Array.getElem?_map, Array.getElem?_eq_getElem (by simpa using l5)]; simp [m5]
  · rw [Array.getElem?_map, Array.getElem?_eq_getElem (by simpa using l6)]; simp [m6]
theorem made_rws (n : Nat) (hn : n ≤ 10000) (w : World) : (Instr.makeSlice 29 (.int .i64 (n : Int)) (.int .i64 (n : Int))).run Tryz.prog w = .ok (.slice (some ⟨w.heap.size, 0, none⟩) n n) (w.alloc (.cells (madeCells #[.int .u8 0, .int .i64 0, .int .u8 0, .int .u8 0, .slice none 0 0, .int .i64 0, .slice none 0 0] (n * 7)) 28)) := by
  have := run_make (P := Tryz.prog) w 29 28 Tryz.t28 (.agg #[.int .u8 0, .int .i64 0, .int .u8 0, .int .u8 0, .slice none 0 0, .int .i64 0, .slice none 0 0]) Tryz.underlying29 (by kernel_rfl) (by kernel_rfl) .i64 .i64 n n (by omega) (Int.le_refl _) (by show ((80 : Nat) : Int) * (n : Int) ≤ _; omega) (by omega)
  rw [this]; simp only [Value.cells, Int.toNat_natCast, show (Tryz.t28).size = 7 from rfl]
theorem mk41 (w : World) : ∃ W1, (Instr.makeSlice 29 (.int .i64 41) (.int .i64 41)).run Tryz.prog w = .ok (.slice (some ⟨w.heap.size, 0, none⟩) 41 41) W1 ∧ Below w.heap.size w W1 ∧ Rws W1 (.slice (some ⟨w.heap.size, 0, none⟩) 41 41) zer41 := by
  refine ⟨_, made_rws 41 (by decide) w, (Below.refl _ _).alloc (Nat.le_refl _) _, ?_⟩
  have hb := heap_alloc_new w (.cells (madeCells #[.int .u8 0, .int .i64 0, .int .u8 0, .int .u8 0, .slice none 0 0, .int .i64 0, .slice none 0 0] (41 * 7)) 28)
  have hl : zer41.length = 41 := by decide
  have := Rws.some (w := w.alloc (.cells (madeCells #[.int .u8 0, .int .i64 0, .int .u8 0, .int .u8 0, .slice none 0 0, .int .i64 0, .slice none 0 0] (41 * 7)) 28)) w.heap.size 0 41 zer41 (by omega) (lt_of_block hb) (fun i hi => by
    obtain ⟨g0, g1, g2, g3, g4, g5, g6⟩ := made7 (a := .int .u8 0) (b := .int .i64 0) (c := .int .u8 0) (d := .int .u8 0) (e := .slice none 0 0) (f := .int .i64 0) (g := .slice none 0 0) (show i < 41 by omega)
    have z : zer41[i] = ⟨0, 0, 0, 0, [], 0, []⟩ := by simp only [zer41, List.getElem_replicate]
    rw [z]
    have hc : ∀ j, (w.alloc (.cells (madeCells #[.int .u8 0, .int .i64 0, .int .u8 0, .int .u8 0, .slice none 0 0, .int .i64 0, .slice none 0 0] (41 * 7)) 28)).cell? ⟨w.heap.size, 0 + j, none⟩ = (madeCells #[.int .u8 0, .int .i64 0, .int .u8 0, .int .u8 0, .slice none 0 0, .int .i64 0, .slice none 0 0] (41 * 7))[j]? := fun j => by
      simp only [World.cell?, hb, Nat.zero_add]
      rfl
    exact ⟨(hc _).trans g0, (hc _).trans g1, (hc _).trans g2, (hc _).trans g3, (hc _).trans g5, ⟨_, (hc _).trans g4, .none _ _⟩, ⟨_, (hc _).trans g6, .none _ _⟩⟩)
  rwa [hl] at this
set_option maxRecDepth 100000 in
set_option maxHeartbeats 6400000 in
theorem cnames_walk (w : World) (he : Env w) : Calls Tryz.prog 3 #[] w fun e w' => e = .returned (.bool true) ∧ Below w.heap.size w w' := by
  have HE := Lib.hid he
  obtain ⟨p0, p1, p2, p3, p4⟩ := nx_prs
  obtain ⟨s0, s1, s2, s3, s4⟩ := nx_small
  have hp0 : pC (lA ⟨#[91, 91, 70, 93, 93, 71]⟩) = 0 ∧ pL (lA ⟨#[91, 91, 70, 93, 93, 71]⟩) = nx0 := pC_some (s := nt0) (by decide) p0
  have hp1 : pC (lA ⟨#[65, 91, 43, 91, 45, 66, 93, 93, 67]⟩) = 0 ∧ pL (lA ⟨#[65, 91, 43, 91, 45, 66, 93, 93, 67]⟩) = nx1 := pC_some (s := nt1) (by decide) p1
  have hp2 : pC (lA ⟨#[65, 43, 91, 66, 93, 43]⟩) = 0 ∧ pL (lA ⟨#[65, 43, 91, 66, 93, 43]⟩) = nx2 := pC_some (s := nt2) (by decide) p2
  have hp3 : pC (lA ⟨#[65, 70, 91, 70, 93, 43, 66, 91, 70, 66, 93, 70]⟩) = 0 ∧ pL (lA ⟨#[65, 70, 91, 70, 93, 43, 66, 91, 70, 66, 93, 70]⟩) = nx3 := pC_some (s := nt3) (by decide) p3
  have K0 := Lib.hid (fun w he => cbeside_any ⟨#[91, 91, 70, 93, 93, 71]⟩ ⟨#[]⟩ (by decide) (by decide) 5 (-1) (-1) nx0 (by decide) s0 hp0 nb0 w he)
  have K1 := Lib.hid (fun w he => cbeside_any ⟨#[65, 91, 43, 91, 45, 66, 93, 93, 67]⟩ ⟨#[43, 45]⟩ (by decide) (by decide) 5 (0) (-1) nx1 (by decide) s1 hp1 nb1 w he)
  have K2 := Lib.hid (fun w he => cbeside_any ⟨#[65, 91, 43, 91, 45, 66, 93, 93, 67]⟩ ⟨#[]⟩ (by decide) (by decide) 5 (4) (-1) nx1 (by decide) s1 hp1 nb2 w he)
  have K3 := Lib.hid (fun w he => cbeside_any ⟨#[65, 91, 43, 91, 45, 66, 93, 93, 67]⟩ ⟨#[]⟩ (by decide) (by decide) 0 (-1) (8) nx1 (by decide) s1 hp1 nb3 w he)
  have K4 := Lib.hid (fun w he => cbeside_any ⟨#[65, 43, 91, 66, 93, 43]⟩ ⟨#[43]⟩ (by decide) (by decide) 0 (-1) (-1) nx2 (by decide) s2 hp2 nb4 w he)
  have KA := Lib.hid calive_any
  have KP := Lib.hid (fun w he => pparse_any ⟨#[65, 70, 91, 70, 93, 43, 66, 91, 70, 66, 93, 70]⟩ (by decide) w he)
  unfold PsEnd at KP
  rw [hp3.1, hp3.2] at KP
  have KG := Lib.hid cgiven_any
  have KS : Hid (∀ v wv w, Rws w v botR → NilOr v → Mods w wv nx3 → NilOr wv → Calls Tryz.prog 10 #[v, .string ⟨#[43]⟩, wv] w (CptEnd [43] botR nx3 w)) := Lib.hid (fun v wv w a b c d => cpstep1_any v botR (by decide) (smX (by decide)) ⟨#[43]⟩ (by decide) wv nx3 (by decide) (fun m hm => by have := s3 m hm; omega) w a b c d)
  unfold CptEnd at KS
  rw [nv_step.1, nv_step.2] at KS
  have KT := Lib.hid (fun v w hv he => ptext_any v nx4 (by decide) (fun m hm => by have := s4 m hm; omega) w hv he)
  rw [(cx_text p4 (by decide)).1, (cx_text p4 (by decide)).2, show bA nt4 = ⟨#[65, 71, 91, 70, 93, 43, 66, 91, 70, 66, 93, 70]⟩ from rfl] at KT
  have sg : ∀ r ∈ givX 91 0, RwSm r := smX (by decide)
  have sh : ∀ r ∈ givX 66 1, RwSm r := smX (by decide)
  have sz : ∀ r ∈ zer41, RwSm r := smX (by decide +kernel)
  have KC0 : Hid (∀ v w, Rws w v (givX 91 0) → NilOr v → Calls Tryz.prog 13 #[v, .string ⟨#[]⟩] w fun e w' => e = .returned (.int .i64 8) ∧ Below w.heap.size w w') := Lib.hid (fun v w h hn => by
    have := pccheck_any v (givX 91 0) (by decide) sg ⟨#[]⟩ (by decide) w h hn
    rwa [show cchk (lA ⟨#[]⟩) (givX 91 0) = 8 from nv_chk.1] at this)
  have KC1 : Hid (∀ v w, Rws w v (givX 66 1) → NilOr v → Calls Tryz.prog 13 #[v, .string ⟨#[]⟩] w fun e w' => e = .returned (.int .i64 8) ∧ Below w.heap.size w w') := Lib.hid (fun v w h hn => by
    have := pccheck_any v (givX 66 1) (by decide) sh ⟨#[]⟩ (by decide) w h hn
    rwa [show cchk (lA ⟨#[]⟩) (givX 66 1) = 8 from nv_chk.2.1] at this)
  have KC2 : Hid (∀ v w, Rws w v (cgivR) → NilOr v → Calls Tryz.prog 13 #[v, .string ⟨#[43, 43]⟩] w fun e w' => e = .returned (.int .i64 8) ∧ Below w.heap.size w w') := Lib.hid (fun v w h hn => by
    have := pccheck_any v (cgivR) (by decide) cgiv_sm ⟨#[43, 43]⟩ (by decide) w h hn
    rwa [show cchk (lA ⟨#[43, 43]⟩) (cgivR) = 8 from nv_chk.2.2.1] at this)
  have KC3 : Hid (∀ v w, Rws w v (cgivR) → NilOr v → Calls Tryz.prog 13 #[v, .string ⟨#[91]⟩] w fun e w' => e = .returned (.int .i64 8) ∧ Below w.heap.size w w') := Lib.hid (fun v w h hn => by
    have := pccheck_any v (cgivR) (by decide) cgiv_sm ⟨#[91]⟩ (by decide) w h hn
    rwa [show cchk (lA ⟨#[91]⟩) (cgivR) = 8 from nv_chk.2.2.2.1] at this)
  have KC4 : Hid (∀ v w, Rws w v (cgivR) → NilOr v → Calls Tryz.prog 13 #[v, .string ⟨#[97, 98, 99, 100, 101, 102, 103, 104, 105, 106, 107, 108, 109, 110, 111, 112, 113, 114, 115, 116]⟩] w fun e w' => e = .returned (.int .i64 0) ∧ Below w.heap.size w w') := Lib.hid (fun v w h hn => by
    have := pccheck_any v (cgivR) (by decide) cgiv_sm ⟨#[97, 98, 99, 100, 101, 102, 103, 104, 105, 106, 107, 108, 109, 110, 111, 112, 113, 114, 115, 116]⟩ (by decide) w h hn
    rwa [show cchk (lA ⟨#[97, 98, 99, 100, 101, 102, 103, 104, 105, 106, 107, 108, 109, 110, 111, 112, 113, 114, 115, 116]⟩) (cgivR) = 0 from nv_chk.2.2.2.2.1] at this)
  have KC5 : Hid (∀ v w, Rws w v (cgivR) → NilOr v → Calls Tryz.prog 13 #[v, .string ⟨#[97, 98, 99, 100, 101, 102, 103, 104, 105, 106, 107, 108, 109, 110, 111, 112, 113, 114, 115, 116, 117]⟩] w fun e w' => e = .returned (.int .i64 8) ∧ Below w.heap.size w w') := Lib.hid (fun v w h hn => by
    have := pccheck_any v (cgivR) (by decide) cgiv_sm ⟨#[97, 98, 99, 100, 101, 102, 103, 104, 105, 106, 107, 108, 109, 110, 111, 112, 113, 114, 115, 116, 117]⟩ (by decide) w h hn
    rwa [show cchk (lA ⟨#[97, 98, 99, 100, 101, 102, 103, 104, 105, 106, 107, 108, 109, 110, 111, 112, 113, 114, 115, 116, 117]⟩) (cgivR) = 8 from nv_chk.2.2.2.2.2.1] at this)
  have KC6 : Hid (∀ v w, Rws w v (zer41) → NilOr v → Calls Tryz.prog 13 #[v, .string ⟨#[91]⟩] w fun e w' => e = .returned (.int .i64 4) ∧ Below w.heap.size w w') := Lib.hid (fun v w h hn => by
    have := pccheck_any v (zer41) (by decide) sz ⟨#[91]⟩ (by decide) w h hn
    rwa [show cchk (lA ⟨#[91]⟩) (zer41) = 4 from nv_chk.2.2.2.2.2.2] at this)
  obtain ⟨y0, hy0⟩ : ∃ y, lefV [] nx3 2 = y := ⟨_, rfl⟩
  have KL0 : Hid (∀ v w, Mods w v nx3 → Calls Tryz.prog 14 #[v, .int .i64 2, .string ⟨#[]⟩] w fun e w' => e = .returned (.tuple #[.int .i64 y0, .int .i64 2]) ∧ Below w.heap.size w w') := Lib.hid (fun v w h => by
    have := pleft_any v nx3 (by decide) (fun m hm => by have := s3 m hm; omega) 2 ⟨#[]⟩ (by decide) w h
    rw [show lA ⟨#[]⟩ = [] by decide] at this
    rwa [show askC [] nx3 2 = 2 from nv_ask.1, hy0] at this)
  clear hy0
  obtain ⟨y1, hy1⟩ : ∃ y, rigV [] nx3 99 = y := ⟨_, rfl⟩
  have KL1 : Hid (∀ v w, Mods w v nx3 → Calls Tryz.prog 15 #[v, .int .i64 99, .string ⟨#[]⟩] w fun e w' => e = .returned (.tuple #[.int .i64 y1, .int .i64 2]) ∧ Below w.heap.size w w') := Lib.hid (fun v w h => by
    have := pright_any v nx3 (by decide) (fun m hm => by have := s3 m hm; omega) 99 ⟨#[]⟩ (by decide) w h
    rw [show lA ⟨#[]⟩ = [] by decide] at this
    rwa [show askC [] nx3 99 = 2 from nv_ask.2.1, hy1] at this)
  clear hy1
  obtain ⟨y2, hy2⟩ : ∃ y, rigV [60] nx3 0 = y := ⟨_, rfl⟩
  have KL2 : Hid (∀ v w, Mods w v nx3 → Calls Tryz.prog 15 #[v, .int .i64 0, .string ⟨#[60]⟩] w fun e w' => e = .returned (.tuple #[.int .i64 y2, .int .i64 8]) ∧ Below w.heap.size w w') := Lib.hid (fun v w h => by
    have := pright_any v nx3 (by decide) (fun m hm => by have := s3 m hm; omega) 0 ⟨#[60]⟩ (by decide) w h
    rw [show lA ⟨#[60]⟩ = [60] by decide] at this
    rwa [show askC [60] nx3 0 = 8 from nv_ask.2.2, hy2] at this)
  clear hy2
  have sb : ∀ r ∈ botR, RwSm r := smX (by decide)
  obtain ⟨y3, hy3⟩ : ∃ y, cfiV [] botR nx3 (-1) = y := ⟨_, rfl⟩
  have KF0 : Hid (∀ v wv w, Rws w v botR → NilOr v → Mods w wv nx3 → Calls Tryz.prog 16 #[v, .string ⟨#[]⟩, wv, .int .i64 (-1)] w fun e w' => e = .returned (.tuple #[.int .i64 y3, .int .i64 2]) ∧ Below w.heap.size w w') := Lib.hid (fun v wv w h hn h2 => by
    have := cpfind_any v botR (by decide) sb ⟨#[]⟩ (by decide) wv nx3 (by decide) (fun m hm => by have := s3 m hm; omega) (-1) w h hn h2
    rw [show lA ⟨#[]⟩ = [] by decide] at this
    rwa [show cfiC [] botR nx3 (-1) = 2 from nv_fin.1, hy3] at this)
  have KF1 : Hid (∀ v wv w, Rws w v botR → NilOr v → Mods w wv nx3 → Calls Tryz.prog 16 #[v, .string ⟨#[]⟩, wv, .int .i64 (2)] w fun e w' => e = .returned (.tuple #[.int .i64 (-1), .int .i64 0]) ∧ Below w.heap.size w w') := Lib.hid (fun v wv w h hn h2 => by
    have := cpfind_any v botR (by decide) sb ⟨#[]⟩ (by decide) wv nx3 (by decide) (fun m hm => by have := s3 m hm; omega) (2) w h hn h2
    rw [show lA ⟨#[]⟩ = [] by decide] at this
    rwa [show cfiC [] botR nx3 (2) = 0 from nv_fin.2.1, show cfiV [] botR nx3 2 = -1 from nv_fin.2.2.1] at this)
  clear hy3
  have KU : Hid (∀ v wv w, Rws w v botR → NilOr v → Mods w wv nx3 → NilOr wv → Calls Tryz.prog 17 #[v, .string ⟨#[]⟩, wv, .int .i64 31] w (CpuEnd [] botR nx3 31 w)) := Lib.hid (fun v wv w a b c d => cprun_any v botR (by decide) sb ⟨#[]⟩ (by decide) wv nx3 (by decide) (fun m hm => by have := s3 m hm; omega) 31 w a b c d)
  unfold CpuEnd at KU
  rw [nv_fin.2.2.2.1] at KU
  have KV : Hid (∀ v wv w, Rws w v botR → NilOr v → Mods w wv [⟨91, []⟩] → NilOr wv → Calls Tryz.prog 10 #[v, .string ⟨#[]⟩, wv] w (CptEnd [] botR [⟨91, []⟩] w)) := Lib.hid (fun v wv w a b c d => cpstep1_any v botR (by decide) sb ⟨#[]⟩ (by decide) wv _ (by decide) (fun m hm => by simp at hm; subst hm; simp) w a b c d)
  unfold CptEnd at KV
  rw [nv_fin.2.2.2.2] at KV
  clear sg sh sz sb
  clear p0 p1 p2 p3 p4 s0 s1 s2 s3 s4 hp0 hp1 hp2 hp3 he
  go_enter Tryz.func3, Tryz.ntmps3
  go_wp2_with fail
  refine (K0.out _ HE.out).mono ?_
  rintro e w1 ⟨rfl, hb⟩
  have B1 := Lib.hid hb
  clear hb
  go_wp2_with fail
  refine (K1.out _ (HE.out.later B1.out)).mono ?_
  rintro e w2 ⟨rfl, hb⟩
  have B2 := Lib.hid (B1.out.trans (hb.mono B1.out.size))
  clear hb
  go_wp2_with fail
  refine (K2.out _ (HE.out.later B2.out)).mono ?_
  rintro e w3 ⟨rfl, hb⟩
  have B3 := Lib.hid (B2.out.trans (hb.mono B2.out.size))
  clear hb
  go_wp2_with fail
  refine (K3.out _ (HE.out.later B3.out)).mono ?_
  rintro e w4 ⟨rfl, hb⟩
  have B4 := Lib.hid (B3.out.trans (hb.mono B3.out.size))
  clear hb
  go_wp2_with fail
  refine (K4.out _ (HE.out.later B4.out)).mono ?_
  rintro e w5 ⟨rfl, hb⟩
  have B5 := Lib.hid (B4.out.trans (hb.mono B4.out.size))
  clear hb
  go_wp2_with fail
  have RB0 : Hid (Rws ((w5.alloc (.cells #[.int .u8 71, .slice none 0 0] 25)).alloc (.cells #[.int .u8 70, .int .i64 0, .int .u8 65, .int .u8 66, .slice none 0 0, .int .i64 0, .slice (some ⟨w5.heap.size, 0, none⟩) 1 1] 28)) (.slice (some ⟨w5.heap.size + 1, 0, none⟩) 1 1) botR) := Lib.hid (by
    have h1 := heap_alloc_old (heap_alloc_new w5 (.cells #[.int .u8 71, .slice none 0 0] 25)) (.cells #[.int .u8 70, .int .i64 0, .int .u8 65, .int .u8 66, .slice none 0 0, .int .i64 0, .slice (some ⟨w5.heap.size, 0, none⟩) 1 1] 28)
    have h2 := heap_alloc_new (w5.alloc (.cells #[.int .u8 71, .slice none 0 0] 25)) (.cells #[.int .u8 70, .int .i64 0, .int .u8 65, .int .u8 66, .slice none 0 0, .int .i64 0, .slice (some ⟨w5.heap.size, 0, none⟩) 1 1] 28)
    rw [World.size_alloc] at h2
    exact botR_rws h2 h1)
  have BB0 : Hid (Below w.heap.size w ((w5.alloc (.cells #[.int .u8 71, .slice none 0 0] 25)).alloc (.cells #[.int .u8 70, .int .i64 0, .int .u8 65, .int .u8 66, .slice none 0 0, .int .i64 0, .slice (some ⟨w5.heap.size, 0, none⟩) 1 1] 28))) := Lib.hid ((B5.out.alloc B5.out.size _).alloc (by rw [World.size_alloc]; have := B5.out.size; omega) _)
  generalize ((w5.alloc (.cells #[.int .u8 71, .slice none 0 0] 25)).alloc (.cells #[.int .u8 70, .int .i64 0, .int .u8 65, .int .u8 66, .slice none 0 0, .int .i64 0, .slice (some ⟨w5.heap.size, 0, none⟩) 1 1] 28)) = W1 at RB0 BB0 ⊢
  generalize w5.heap.size + 1 = rB at RB0 ⊢
  refine (KP.out _ (HE.out.later BB0.out)).mono ?_
  rintro e w6 ⟨v6, vs6, rfl, hb, hm⟩
  have B6 := Lib.hid (BB0.out.trans (hb.mono BB0.out.size))
  have R6 := Lib.hid (RB0.out.later hb)
  have M6 := Lib.hid hm.mods
  have N6 := Lib.hid hm.nilOr
  obtain ⟨p6, c6, rfl⟩ := hm.mods.slice
  clear hb hm
  go_wp2_with fail
  refine (KS.out _ _ _ R6.out (.inr ⟨_, _, _, rfl⟩) M6.out N6.out).mono ?_
  rintro e w7 ⟨v7, vs7, rfl, hb, hm⟩
  have B7 := Lib.hid (B6.out.trans (hb.mono B6.out.size))
  have R7 := Lib.hid (R6.out.later hb)
  have M7 := Lib.hid (M6.out.later hb)
  have V7 := Lib.hid hm.mods
  obtain ⟨p7, c7, rfl⟩ := hm.mods.slice
  clear hb hm
  go_wp2_with fail
  refine (KT.out _ _ V7.out (HE.out.later B7.out)).mono ?_
  rintro e w8 ⟨rfl, hb⟩
  have B8 := Lib.hid (B7.out.trans (hb.mono B7.out.size))
  have R8 := Lib.hid (R7.out.later hb)
  have M8 := Lib.hid (M7.out.later hb)
  clear hb
  go_wp2_with fail
  refine (KG.out _).mono ?_
  rintro e w9 ⟨r9, o1, o2, rfl, hb, hG⟩
  have B9 := Lib.hid (B8.out.trans (hb.mono B8.out.size))
  have C9 := Lib.hid hb
  have G9 := Lib.hid hG
  clear hb hG
  go_wp2_with fail
  refine (KG.out _).mono ?_
  rintro e w10 ⟨r10, o3, o4, rfl, hb, hG⟩
  have B10 := Lib.hid (B9.out.trans (hb.mono B9.out.size))
  obtain ⟨HX, hb10⟩ := namX C9.out G9.out hb hG
  have B10 := Lib.hid (B8.out.trans (hb10.mono B8.out.size))
  have R10 := Lib.hid (R8.out.later hb10)
  have M10 := Lib.hid (M8.out.later hb10)
  have X1 := Lib.hid HX.R1
  have X2 := Lib.hid HX.R2
  have q1 := HX.q1
  have f1 := HX.f1
  have l1 := HX.l1
  have q2 := HX.q2
  have f2 := HX.f2
  have l2 := HX.l2
  clear hb hb10 hG HX B9 C9 G9
  go_wp2_with fail
  clear q1 f1 l1 q2 f2 l2
  generalize (w10.setCell ⟨r9, 2, none⟩ (.int .u8 91)).setCell ⟨r10, 12, none⟩ (.int .i64 1) = W10 at B10 R10 M10 X1 X2 ⊢
  refine (KC0.out _ _ X1.out (.inr ⟨_, _, _, rfl⟩)).mono ?_
  rintro e w11 ⟨rfl, hb⟩
  have B11 := Lib.hid (B10.out.trans (hb.mono B10.out.size))
  have C11 := Lib.hid hb
  clear hb
  go_wp2_with fail
  refine (KC1.out _ _ (X2.out.later C11.out) (.inr ⟨_, _, _, rfl⟩)).mono ?_
  rintro e w12 ⟨rfl, hb⟩
  have B12 := Lib.hid (B11.out.trans (hb.mono B11.out.size))
  have C12 := Lib.hid (C11.out.trans (hb.mono C11.out.size))
  clear hb C11
  go_wp2_with fail
  refine (KG.out _).mono ?_
  rintro e w13 ⟨r13, p13, q13, rfl, hb, hG⟩
  have B13 := Lib.hid (B12.out.trans (hb.mono B12.out.size))
  have C13 := Lib.hid (C12.out.trans (hb.mono C12.out.size))
  have G13 := Lib.hid hG.rws
  clear hb hG
  go_wp2_with fail
  refine (KC2.out _ _ G13.out (.inr ⟨_, _, _, rfl⟩)).mono ?_
  rintro e w14 ⟨rfl, hb⟩
  have B14 := Lib.hid (B13.out.trans (hb.mono B13.out.size))
  have C14 := Lib.hid (C13.out.trans (hb.mono C13.out.size))
  clear hb G13 C13
  go_wp2_with fail
  refine (KG.out _).mono ?_
  rintro e w15 ⟨r15, p15, q15, rfl, hb, hG⟩
  have B15 := Lib.hid (B14.out.trans (hb.mono B14.out.size))
  have C15 := Lib.hid (C14.out.trans (hb.mono C14.out.size))
  have G15 := Lib.hid hG.rws
  clear hb hG
  go_wp2_with fail
  refine (KC3.out _ _ G15.out (.inr ⟨_, _, _, rfl⟩)).mono ?_
  rintro e w16 ⟨rfl, hb⟩
  have B16 := Lib.hid (B15.out.trans (hb.mono B15.out.size))
  have C16 := Lib.hid (C15.out.trans (hb.mono C15.out.size))
  clear hb G15 C15
  go_wp2_with fail
  refine (KG.out _).mono ?_
  rintro e w17 ⟨r17, p17, q17, rfl, hb, hG⟩
  have B17 := Lib.hid (B16.out.trans (hb.mono B16.out.size))
  have C17 := Lib.hid (C16.out.trans (hb.mono C16.out.size))
  have G17 := Lib.hid hG.rws
  clear hb hG
  go_wp2_with fail
  refine (KC4.out _ _ G17.out (.inr ⟨_, _, _, rfl⟩)).mono ?_
  rintro e w18 ⟨rfl, hb⟩
  have B18 := Lib.hid (B17.out.trans (hb.mono B17.out.size))
  have C18 := Lib.hid (C17.out.trans (hb.mono C17.out.size))
  clear hb G17 C17
  go_wp2_with fail
  refine (KG.out _).mono ?_
  rintro e w19 ⟨r19, p19, q19, rfl, hb, hG⟩
  have B19 := Lib.hid (B18.out.trans (hb.mono B18.out.size))
  have C19 := Lib.hid (C18.out.trans (hb.mono C18.out.size))
  have G19 := Lib.hid hG.rws
  clear hb hG
  go_wp2_with fail
  refine (KC5.out _ _ G19.out (.inr ⟨_, _, _, rfl⟩)).mono ?_
  rintro e w20 ⟨rfl, hb⟩
  have B20 := Lib.hid (B19.out.trans (hb.mono B19.out.size))
  have C20 := Lib.hid (C19.out.trans (hb.mono C19.out.size))
  clear hb G19 C19
  obtain ⟨W21, hmk, hbk, hRk⟩ := mk41 w20
  have B21 := Lib.hid (B20.out.trans (hbk.mono B20.out.size))
  have C21 := Lib.hid (C20.out.trans (hbk.mono C20.out.size))
  have K21 := Lib.hid hRk
  clear hbk hRk
  go_wp2_with fail
  refine (KC6.out _ _ K21.out (.inr ⟨_, _, _, rfl⟩)).mono ?_
  rintro e w22 ⟨rfl, hb⟩
  have B22 := Lib.hid (B21.out.trans (hb.mono B21.out.size))
  have C22 := Lib.hid (C21.out.trans (hb.mono C21.out.size))
  clear hb hmk K21 C21
  go_wp2_with fail
  refine (KL0.out _ _ (M10.out.later C22.out)).mono ?_
  rintro e w23 ⟨rfl, hb⟩
  have B23 := Lib.hid (B22.out.trans (hb.mono B22.out.size))
  have C23 := Lib.hid (C22.out.trans (hb.mono C22.out.size))
  clear hb C22
  go_wp2_with fail
  refine (KL1.out _ _ (M10.out.later C23.out)).mono ?_
  rintro e w24 ⟨rfl, hb⟩
  have B24 := Lib.hid (B23.out.trans (hb.mono B23.out.size))
  have C24 := Lib.hid (C23.out.trans (hb.mono C23.out.size))
  clear hb C23
  go_wp2_with fail
  refine (KL2.out _ _ (M10.out.later C24.out)).mono ?_
  rintro e w25 ⟨rfl, hb⟩
  have B25 := Lib.hid (B24.out.trans (hb.mono B24.out.size))
  have C25 := Lib.hid (C24.out.trans (hb.mono C24.out.size))
  clear hb C24
  go_wp2_with fail
  refine (KF0.out _ _ _ (R10.out.later C25.out) (.inr ⟨_, _, _, rfl⟩) (M10.out.later C25.out)).mono ?_
  rintro e w26 ⟨rfl, hb⟩
  have B26 := Lib.hid (B25.out.trans (hb.mono B25.out.size))
  have C26 := Lib.hid (C25.out.trans (hb.mono C25.out.size))
  clear hb C25
  go_wp2_with fail
  refine (KF1.out _ _ _ (R10.out.later C26.out) (.inr ⟨_, _, _, rfl⟩) (M10.out.later C26.out)).mono ?_
  rintro e w27 ⟨rfl, hb⟩
  have B27 := Lib.hid (B26.out.trans (hb.mono B26.out.size))
  have C27 := Lib.hid (C26.out.trans (hb.mono C26.out.size))
  clear hb C26
  go_wp2_with fail
  refine (KU.out _ _ _ (R10.out.later C27.out) (.inr ⟨_, _, _, rfl⟩) (M10.out.later C27.out) N6.out).mono ?_
  rintro e w28 ⟨v28, vs28, rfl, hb, hm⟩
  obtain ⟨p28, c28, rfl⟩ := hm.mods.slice
  clear hm
  have B28 := Lib.hid (B27.out.trans (hb.mono B27.out.size))
  have C28 := Lib.hid (C27.out.trans (hb.mono C27.out.size))
  clear hb C27
  go_wp2_with fail
  have HM := Lib.hid (mods_lit (c := 91) (heap_alloc_new w28 (.cells #[.int .u8 91, .slice none 0 0] 45)))
  have C29 := Lib.hid (C28.out.alloc C28.out.size (.cells #[.int .u8 91, .slice none 0 0] 45))
  have B29 := Lib.hid (B28.out.alloc B28.out.size (.cells #[.int .u8 91, .slice none 0 0] 45))
  refine (KV.out _ _ _ (R10.out.later C29.out) (.inr ⟨_, _, _, rfl⟩) HM.out (.inr ⟨_, _, _, rfl⟩)).mono ?_
  rintro e w30 ⟨v30, vs30, rfl, hb, hm⟩
  have B30 := Lib.hid (B29.out.trans (hb.mono B29.out.size))
  obtain ⟨p30, c30, rfl⟩ := hm.mods.slice
  clear hm hb
  go_wp2_with fail
  refine (KA.out _ (HE.out.later B30.out)).mono ?_
  rintro e w31 ⟨rfl, hb⟩
  have B31 := Lib.hid (B30.out.trans (hb.mono B30.out.size))
  clear hb
  go_wp2_with fail
  go_ret
  exact ⟨rfl, B31.out⟩
end Go.Proofs.YtcoljbcjnggagaaGreatDoor
