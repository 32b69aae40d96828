/-
  What the laws' rows share.
-/
import Derived.Test.YtkjjehnfibfngaaRows
import Derived.Test.YtkjjehnfibfngaaWordOpen
import Derived.Test.YtkjjehnfibfngaaRewOpenB
import Derived.ProofKit
import Derived.OpenShut
import Derived.ChangeSlices
import Derived.ChangeMaps5
import Derived.Deep.DeepHandedRow
import Derived.Deep.SlicePairs
import Derived.Lib.LaidTab
import Derived.Lib.SmallJoins
import Derived.Stop.LaidErr
import Derived.Stop.Joined
import Derived.JoinedCond
import GoSem.PinnedTables
namespace Go.Proofs.Ytkjjehnfibfngaa.RewRow
set_option maxRecDepth 100000
set_option linter.unusedVariables false
set_option linter.unusedSimpArgs false
open Go.ChangeShapes Go.WideShapes Go.ChangeAt Go.RowKit Go.Joins Go.Deep

theorem own : ownKnob Try.prog.godebug = none := by kernel_rfl
theorem laid : laidOutB Try.prog = true := by kernel_rfl
theorem u8_of {k : Int} (h : (Lit.int .u8 k).wf = true) : ∃ c : UInt8, k = c.toNat := by
  have e1 : IntKind.u8.min = 0 := by decide
  have e2 : IntKind.u8.max = 255 := by decide
  simp [Lit.wf, e1, e2] at h
  exact ⟨UInt8.ofNat k.toNat, by rw [UInt8.toNat_ofNat']; omega⟩
end Go.Proofs.Ytkjjehnfibfngaa.RewRow
