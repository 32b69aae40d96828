/-
  What the library's functions hand back that texts are made and read with, and what they lean on in memory.
-/
import Derived.Test.YtjjjopopalcokaaDoorWordLoose
import Derived.Test.YtjjjopopalcokaaDoorWordBld
import Derived.Test.YtjjjopopalcokaaDoorWordRefC
import Derived.Lib.LaidTab
import Derived.Lib.AtoiErrMem
import Derived.Lib.AppendIntMem
import Derived.LaidLaws
namespace Go.Proofs.YtjjjopopalcokaaDoor
open Go.RowKit
open WM
set_option linter.unusedVariables false
set_option linter.unusedSimpArgs false

/-- The table of powers of ten that the library's decimals are made with. -/
def Tab (w : World) : Prop := Lib.TabIs Tryd.prog w "internal/strconv.uint64pow10" .u64 Lib.pow10Tab
theorem tab_named : Tryd.prog.globalNamed "internal/strconv.uint64pow10" = some 3 := by kernel_rfl
theorem syn_named : Tryd.prog.globalNamed "strconv.ErrSyntax" = some 1 := by kernel_rfl
theorem rge_named : Tryd.prog.globalNamed "strconv.ErrRange" = some 2 := by kernel_rfl
theorem var_lt {w : World} {s : String} {g : Nat} {cs : Array Value} (hn : Tryd.prog.globalNamed s = some g) (h : w.var? Tryd.prog s = some cs) : g < w.heap.size := by
  unfold World.var? at h
  simp only [hn, Option.bind_some] at h
  rcases Nat.lt_or_ge g w.heap.size with h' | h'
  · exact h'
  · simp [Array.getElem?_eq_none h'] at h
theorem Tab.later {w w1 : World} (h : Tab w) (hb : Below w.heap.size w w1) : Tab w1 := var?_below hb tab_named (var_lt tab_named h) h
/-- The library's variable that its search reads holds some integer. -/
def Len (w : World) : Prop := ∃ m, w.cell? ⟨0, 0, none⟩ = some (.int .i64 m)
theorem Len.lt {w : World} (h : Len w) : 0 < w.heap.size := by
  obtain ⟨m, hm⟩ := h
  rcases Nat.lt_or_ge 0 w.heap.size with h | h
  · exact h
  · simp [World.cell?, Array.getElem?_eq_none h] at hm
theorem Len.later {w w1 : World} (h : Len w) (hb : Below w.heap.size w w1) : Len w1 := by
  have hn := h.lt
  obtain ⟨m, hm⟩ := h
  exact ⟨m, by rw [← hm]; unfold World.cell?; rw [hb.block _ hn]⟩
/-- What the library's functions lean on. -/
structure Env (w : World) : Prop where
  tab : Tab w
  len : Len w
  syn : ∃ tp p, w.var? Tryd.prog "strconv.ErrSyntax" = some #[.iface tp p]
  rge : ∃ tp p, w.var? Tryd.prog "strconv.ErrRange" = some #[.iface tp p]
theorem Env.later {w w1 : World} (h : Env w) (hb : Below w.heap.size w w1) : Env w1 := by
  refine ⟨h.tab.later hb, h.len.later hb, ?_, ?_⟩
  · obtain ⟨tp, p, e⟩ := h.syn
    exact ⟨tp, p, var?_below hb syn_named (var_lt syn_named e) e⟩
  · obtain ⟨tp, p, e⟩ := h.rge
    exact ⟨tp, p, var?_below hb rge_named (var_lt rge_named e) e⟩
theorem itoa_lib (n : Int) (h0 : -9223372036854775808 ≤ n) (h1 : n ≤ 9223372036854775807) (w : World) (he : Env w) :
    Calls Tryd.prog 51 #[.int .i64 n] w fun e w' => e = .returned (.string (bA (Lib.itoa n))) ∧ Below w.heap.size w w' := by
  refine (Tryd.strconv_Itoa n h0 h1 w he.tab).mono ?_
  rintro e w' ⟨he, k, os, rfl⟩
  exact ⟨he, Lib.below_grow _ w (Nat.le_refl _) k os⟩
theorem cut_lib (s : ByteArray) (c : UInt8) (hs : s.size ≤ 200000) (w : World) (hl : Env w) :
    Calls Tryd.prog 47 #[.string s, .string ⟨#[c]⟩] w fun e w' => e = .returned (.tuple #[.string (bA (Lib.cut (lA s) [c]).1), .string (bA (Lib.cut (lA s) [c]).2.1), .bool (Lib.cut (lA s) [c]).2.2]) ∧ Below w.heap.size w w' := by
  obtain ⟨m, hm⟩ := hl.len
  refine (Any.strings_Cut { Tryd.laysM145 with } s ⟨#[c]⟩ m w (by omega) hm).mono ?_
  rintro e w' ⟨he, n, rfl⟩
  exact ⟨he, below_drewN (Below.refl _ _) n⟩
theorem prefix_lib (s : ByteArray) (c : UInt8) (w : World) :
    Calls Tryd.prog 46 #[.string s, .string ⟨#[c]⟩] w fun e w' => e = .returned (.tuple #[.string (bA (if (lA s).head? = some c then (lA s).tail else lA s)), .bool (decide ((lA s).head? = some c))]) ∧ w = w' := by
  have hp : Lib.hasPrefix (lA s) [c] = decide ((lA s).head? = some c) := by
    unfold Lib.hasPrefix
    cases lA s with
    | nil => simp
    | cons a t =>
      by_cases h : a = c
      · subst h; simp
      · have h2 : ¬ c = a := fun e => h e.symm
        have h3 : (c == a) = false := beq_eq_false_iff_ne.2 h2
        simp [List.isPrefixOf, h, h3]
  have ht : Lib.trimPrefix (lA s) [c] = if (lA s).head? = some c then (lA s).tail else lA s := by
    unfold Lib.trimPrefix
    rw [hp]
    by_cases h : (lA s).head? = some c
    · simp [h]
    · simp [h]
  refine (Tryd.strings_CutPrefix s ⟨#[c]⟩ w).mono fun e w' ⟨h1, h2⟩ => ⟨?_, h2.symm⟩
  rw [h1]
  show Ending.returned (.tuple #[.string ⟨(Lib.trimPrefix (lA s) [c]).toArray⟩, .bool (Lib.hasPrefix (lA s) [c])]) = _
  rw [hp, ht]; rfl
theorem split_lib (s : ByteArray) (hs : s.size ≤ 200000) (w : World) (hl : Env w) :
    Calls Tryd.prog 57 #[.string s, .string ⟨#[44]⟩] w fun e w' => e = .returned (.slice (some ⟨w.heap.size, 0, none⟩) (pcs (lA s)).length (pcs (lA s)).length) ∧ w' = w.alloc (.cells ((pcs (lA s)).map fun l => Value.string (bA l)).toArray 9) := by
  obtain ⟨m, hm⟩ := hl.len
  refine (Any.strings_Split { Tryd.laysM146 with } Tryd.laysM146.i9 s ⟨#[44]⟩ m w (by omega) hm (by decide)).mono ?_
  rintro e w' ⟨rfl, rfl⟩
  have e1 := splitB_pcs ⟨#[44]⟩ rfl s.size s (Nat.le_refl _)
  have e2 : (Lib.splitB ⟨#[44]⟩ 0 (Lib.countB s ⟨#[44]⟩) s).map Value.string = (pcs (lA s)).map fun l => Value.string (bA l) := by
    rw [show pcs (lA s) = _ from e1.symm, List.map_map]
    rfl
  have e3 : Lib.countB s ⟨#[44]⟩ + 1 = (pcs (lA s)).length := by
    have := congrArg List.length e1
    rw [List.length_map, Lib.splitB_all ⟨#[44]⟩ (by decide) 0 _ s rfl] at this
    exact this
  rw [e2, e3]
  exact ⟨rfl, rfl⟩
theorem atoi_lib (s : ByteArray) (hs : s.size ≤ 200000) (w : World) (hl : Env w) :
    Calls Tryd.prog 58 #[.string s] w fun e w' => (∃ x, e = .returned (.tuple #[.int .i64 (atoiV (lA s)), x])) ∧ Below w.heap.size w w' := by
  have hv : atoiV (lA s) = (match Lib.atoiAll (lA s) with | .ok v => v | .syntax => 0 | .range => Lib.atoiSat (lA s)) := rfl
  rcases h : Lib.atoiAll (lA s) with v | _ | _
  · rw [h] at hv
    refine (Tryd.strconv_Atoi_ok s (by omega) v h w).mono ?_
    rintro e w' ⟨rfl, rfl | ⟨t, rfl⟩⟩
    · exact ⟨⟨_, by rw [hv]⟩, Below.refl _ _⟩
    · exact ⟨⟨_, by rw [hv]⟩, Lib.bytesWorld_below w _ t⟩
  · rw [h] at hv
    obtain ⟨tp, p, e⟩ := hl.syn
    refine (Tryd.strconv_Atoi_syntax_var s (by omega) h tp p w e).mono ?_
    rintro e w' ⟨N, rfl, _, _, hb⟩
    exact ⟨⟨_, by rw [hv]⟩, hb⟩
  · rw [h] at hv
    obtain ⟨tp, p, e⟩ := hl.rge
    refine (Tryd.strconv_Atoi_range_var s (by omega) h tp p w e).mono ?_
    rintro e w' ⟨N, rfl, _, _, hb⟩
    exact ⟨⟨_, by rw [hv]; rfl⟩, hb⟩
end Go.Proofs.YtjjjopopalcokaaDoor
