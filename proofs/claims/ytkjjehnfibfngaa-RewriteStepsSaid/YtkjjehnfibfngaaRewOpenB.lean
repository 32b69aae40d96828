/-
  A form, a module, a rule, numbers that came in: opened.
-/
import Derived.Test.YtkjjehnfibfngaaRewOpen
import Derived.ProofKit
import Derived.OpenShut
import Derived.ChangeSlices
import Derived.Lib.SmallJoins
namespace Go.Proofs.Ytkjjehnfibfngaa
open Go.ChangeShapes Go.WideShapes Go.ChangeAt Go.RowKit Go.Joins Go.Deep
open WM RM
set_option linter.unusedVariables false
set_option linter.unusedSimpArgs false
set_option maxRecDepth 100000
section
variable {H : Type} {enc : TypeId × Value → H} {W : World} {base : Nat} {spare : Nat → Bool} {held : Bool}
theorem intsOpen {v : Value} {d : DataW H} {p : List MemPlace} {a0 : Option Addr} {len cap : Nat} (hv : v = .slice a0 len cap) (h : DataW.Trod enc Try.prog W base spare held 23 v d p) :
    ∃ l : List Int, l.length ≤ 9223372036854775807 ∧ Ints W v l := by
  obtain ⟨fuel, hf⟩ := h
  subst hv
  obtain ⟨v', l, e, h1, h2, h3⟩ := wo_ints (by simpa [Value.cells] using hf)
  simp at e
  subst e
  exact ⟨l, h1, h2⟩
theorem formOpen {base' : Nat} {v : Value} {d : DataW H} {p : List MemPlace} (hv : Value.okWide Try.prog W .any base' 25 v) (h : DataW.Trod enc Try.prog W base spare held 25 v d p) :
    ∃ (f : Fm) (u : Value), v = .agg #[.int .i64 f.k, u] ∧ f.cs.length ≤ 9223372036854775807 ∧ Ints W u f.cs := by
  obtain ⟨fs, hu, _⟩ := ro_fm_struct
  obtain ⟨cs, rfl, hsz⟩ := okWide_struct hu hv
  obtain ⟨fuel, hf⟩ := h
  obtain ⟨f, h1, u, e, h2⟩ := ro_fm_one hf
  refine ⟨f, u, ?_, h1, h2⟩
  have e2 : cs.toList = [.int .i64 f.k, u] := by simpa [Value.cells] using e
  have : cs = #[.int .i64 f.k, u] := by apply Array.ext'; exact e2
  rw [this]
theorem modOpen {base' : Nat} {v : Value} {d : DataW H} {p : List MemPlace} (hv : Value.okWide Try.prog W .any base' 27 v) (h : DataW.Trod enc Try.prog W base spare held 27 v d p) :
    ∃ (m : Md) (u : Value), v = .agg #[.int .u8 m.c.toNat, u] ∧ m.a.length ≤ 9223372036854775807 ∧ Ints W u m.a ∧ NilOr u := by
  obtain ⟨fs, hu, _⟩ := wo_struct
  obtain ⟨cs, rfl, hsz⟩ := okWide_struct hu hv
  obtain ⟨fuel, hf⟩ := h
  obtain ⟨m, v1, e, m1, r1, n1⟩ := wo_mod hf
  refine ⟨m, v1, ?_, m1, r1, n1⟩
  have e2 : cs.toList = [.int .u8 m.c.toNat, v1] := by simpa [Value.cells] using e
  have : cs = #[.int .u8 m.c.toNat, v1] := by apply Array.ext'; exact e2
  rw [this]
theorem ruleOpen {base' : Nat} {v : Value} {d : DataW H} {p : List MemPlace} (hv : Value.okWide Try.prog W .any base' 54 v) (h : DataW.Trod enc Try.prog W base spare held 54 v d p) :
    ∃ (r : Rw) (g o : Value), v = .agg #[.int .u8 r.c.toNat, .int .i64 r.ar, .int .u8 r.l.toNat, .int .u8 r.r.toNat, g, .int .i64 r.wt, o] ∧ RwOk r ∧ Fms W g r.gs ∧ Shs W o r.out := by
  obtain ⟨fs, hu, _⟩ := ro_rw_struct
  obtain ⟨cs, rfl, hsz⟩ := okWide_struct hu hv
  obtain ⟨fuel, hf⟩ := h
  obtain ⟨r, h1, g, o, e, h2, h3⟩ := ro_rw_one hf
  refine ⟨r, g, o, ?_, h1, h2, h3⟩
  have e2 : cs.toList = [.int .u8 r.c.toNat, .int .i64 r.ar, .int .u8 r.l.toNat, .int .u8 r.r.toNat, g, .int .i64 r.wt, o] := by simpa [Value.cells] using e
  have : cs = #[.int .u8 r.c.toNat, .int .i64 r.ar, .int .u8 r.l.toNat, .int .u8 r.r.toNat, g, .int .i64 r.wt, o] := by apply Array.ext'; exact e2
  rw [this]
end
theorem readableI : Try.prog.readableRec 23 = true := by kernel_rfl
theorem smallI : 23 < Try.prog.types.size := of_decide_eq_true (by kernel_rfl)
theorem readableF : Try.prog.readableRec 25 = true := by kernel_rfl
theorem smallF : 25 < Try.prog.types.size := of_decide_eq_true (by kernel_rfl)
theorem readableD : Try.prog.readableRec 27 = true := by kernel_rfl
theorem smallD : 27 < Try.prog.types.size := of_decide_eq_true (by kernel_rfl)
theorem readableW : Try.prog.readableRec 54 = true := by kernel_rfl
theorem smallW : 54 < Try.prog.types.size := of_decide_eq_true (by kernel_rfl)
end Go.Proofs.Ytkjjehnfibfngaa
