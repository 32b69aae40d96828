/-
  Rules that came in: their slice is nil, or lies somewhere.
-/
import Derived.Test.YtcoljbcjnggagaaGreatDoorZContextBackProofM12
namespace Go.Proofs.YtcoljbcjnggagaaGreatDoor
open Go.ChangeShapes Go.WideShapes Go.ChangeAt Go.RowKit Go.Joins Go.Deep
open WM RM
set_option linter.unusedVariables false
set_option linter.unusedSimpArgs false
set_option maxRecDepth 100000
section
variable {H : Type} {enc : TypeId × Value → H} {W : World} {base : Nat} {spare : Nat → Bool} {held : Bool}
theorem rwsNil {v : Value} {d : DataW H} {p : List MemPlace} {a0 : Option Addr} {len cap : Nat} (hv : v = .slice a0 len cap) (h : DataW.Trod enc Tryz.prog W base spare held 29 v d p) : NilOr v := by
  obtain ⟨fuel, hf⟩ := h
  subst hv
  have hf2 : DataW.trod enc Tryz.prog W base spare held fuel 29 [.slice a0 len cap] = some (d, p) := by simpa [Value.cells] using hf
  rcases DataW.trod_slice Tryz.underlying29 hf2 with ⟨hcs, -⟩ | ⟨ad, len', cap', elems, rest, n, _, hcs, hx, _, hlc, hcm, hel, -⟩
  · simp at hcs
    obtain ⟨rfl, rfl, rfl⟩ := hcs
    exact .inl rfl
  · simp at hcs
    obtain ⟨rfl, rfl, rfl⟩ := hcs
    exact .inr ⟨_, _, _, rfl⟩
end
end Go.Proofs.YtcoljbcjnggagaaGreatDoor
