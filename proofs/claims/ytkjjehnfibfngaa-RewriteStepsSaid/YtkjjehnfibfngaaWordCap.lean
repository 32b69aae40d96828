/-
  A word that came in: the capacity of its slice.
-/
import Derived.Test.YtkjjehnfibfngaaWordOpen
namespace Go.Proofs.Ytkjjehnfibfngaa
open Go.ChangeShapes Go.WideShapes Go.ChangeAt Go.RowKit Go.Joins Go.Deep
open WM
set_option linter.unusedVariables false
set_option linter.unusedSimpArgs false
set_option maxRecDepth 100000
section
variable {H : Type} {enc : TypeId × Value → H} {W : World} {base : Nat} {spare : Nat → Bool} {held : Bool}
theorem modsCap {v : Value} {d : DataW H} {p : List MemPlace} {a0 : Option Addr} {len cap : Nat} (hv : v = .slice a0 len cap) (h : DataW.Trod enc Try.prog W base spare held 39 v d p) : len ≤ cap := by
  obtain ⟨fuel, hf⟩ := h
  subst hv
  have hf2 : DataW.trod enc Try.prog W base spare held fuel 39 [.slice a0 len cap] = some (d, p) := by simpa [Value.cells] using hf
  rcases DataW.trod_slice Try.underlying39 hf2 with ⟨hcs, -⟩ | ⟨ad, len', cap', elems, rest, n, _, hcs, _, _, hlc, hcm, hel, hx, -⟩
  · simp at hcs; omega
  · simp at hcs; obtain ⟨_, rfl, rfl⟩ := hcs; exact hlc
end
end Go.Proofs.Ytkjjehnfibfngaa
