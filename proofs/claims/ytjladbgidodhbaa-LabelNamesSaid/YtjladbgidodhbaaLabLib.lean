/-
  What the library's Cut, CutSuffix, Clone, Count, LastIndex and HasPrefix hand back, in the words of this proof.
-/
import Derived.Test.YtjladbgidodhbaaLabRefI
import Derived.Test.YtjladbgidodhbaaShelf
namespace Go.Proofs.Ytjladbgidodhbaa
open Go.RowKit
open LM
set_option linter.unusedVariables false
set_option linter.unusedSimpArgs false

/-- The library's variable that its search reads holds some integer. -/
def Len (w : World) : Prop := ∃ m, w.cell? ⟨0, 0, none⟩ = some (.int .i64 m)
theorem Len.lt {w : World} (h : Len w) : 0 < w.heap.size := by
  obtain ⟨m, hm⟩ := h
  rcases Nat.lt_or_ge 0 w.heap.size with h | h
  · exact h
  · simp [World.cell?, Array.getElem?_eq_none h] at hm
theorem Len.below {n : Nat} {w w1 : World} (h : Len w) (hn : 0 < n) (hb : Below n w w1) : Len w1 := by
  obtain ⟨m, hm⟩ := h
  exact ⟨m, by rw [← hm]; unfold World.cell?; rw [hb.block _ hn]⟩
theorem Len.later {w w1 : World} (h : Len w) (hb : Below w.heap.size w w1) : Len w1 := h.below h.lt hb
theorem Len.of_shaped {w : World} (h : w.ShapedOpen Try.prog) : Len w := Try.laysM145.s1_3 w h

theorem cut_lib (s : ByteArray) (c : UInt8) (hs : s.size ≤ 200000) (w : World) (hl : Len w) :
    Calls Try.prog 54 #[.string s, .string ⟨#[c]⟩] w fun e w' => e = .returned (.tuple #[.string (bA (Lib.cut (lA s) [c]).1), .string (bA (Lib.cut (lA s) [c]).2.1), .bool (Lib.cut (lA s) [c]).2.2]) ∧ Below w.heap.size w w' := by
  obtain ⟨m, hm⟩ := hl
  refine (Any.strings_Cut { Try.laysM145 with } s ⟨#[c]⟩ m w (by omega) hm).mono ?_
  rintro e w' ⟨he, n, rfl⟩
  exact ⟨he, below_drewN (Below.refl _ _) n⟩
theorem cutsuffix_lib (s : ByteArray) (c : UInt8) (hs : s.size ≤ 200000) (w : World) :
    Calls Try.prog 57 #[.string s, .string ⟨#[c]⟩] w fun e w' => e = .returned (.tuple #[.string (bA (Lib.trimSuffix (lA s) [c])), .bool (Lib.hasSuffix (lA s) [c])]) ∧ w = w' :=
  (Try.strings_CutSuffix s ⟨#[c]⟩ w (by omega)).mono fun e w' ⟨h1, h2⟩ => ⟨h1, h2.symm⟩
theorem count_lib (s : ByteArray) (c : UInt8) (w : World) :
    Calls Try.prog 43 #[.string s, .string ⟨#[c]⟩] w fun e w' => e = .returned (.int .i64 ((lA s).count c : Nat)) ∧ w = w' :=
  (Try.strings_Count_one s c w).mono fun e w' ⟨h1, h2⟩ => ⟨h1, h2.symm⟩
theorem hasprefix_lib (s p : ByteArray) (w : World) :
    Calls Try.prog 62 #[.string s, .string p] w fun e w' => e = .returned (.bool (Lib.hasPrefix (lA s) (lA p))) ∧ w = w' :=
  (Try.strings_HasPrefix s p w).mono fun e w' ⟨h1, h2⟩ => ⟨h1, h2.symm⟩
theorem lastindex_lib (s : ByteArray) (c : UInt8) (hs : s.size ≤ 200000) (w : World) :
    Calls Try.prog 56 #[.string s, .string ⟨#[c]⟩] w fun e w' => e = .returned (.int .i64 (Lib.lastIndex (lA s) [c])) ∧ w = w' :=
  (Any.strings_LastIndex Try.lays148 s ⟨#[c]⟩ (by omega) w).mono fun e w' ⟨h1, h2⟩ => ⟨h1, h2.symm⟩
theorem clone_lib (s : ByteArray) (hs : s.size ≤ 200000) (w : World) :
    Calls Try.prog 35 #[.string s] w fun e w' => e = .returned (.string s) ∧ Below w.heap.size w w' := by
  go_enter Try.func35, Try.ntmps35
  go_wp2_with fail
  refine (Try.stringslite_Clone s _ (by omega)).mono ?_
  rintro e w1 ⟨rfl, hb⟩
  have HB := Lib.hid hb
  clear hb
  go_wp2_with fail
  go_ret
  exact ⟨rfl, HB.out⟩
end Go.Proofs.Ytjladbgidodhbaa
