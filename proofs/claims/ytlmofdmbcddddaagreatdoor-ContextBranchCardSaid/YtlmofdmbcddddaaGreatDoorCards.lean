/-
  DERIVED. GIVEN WITH THE SEED: THE CARDS: each row of YtlmofdmbcddddaaGreatDoorRows.lean that lists a variable, with what it lists TIED to the program's text (the seventh form; the later family's looks); each row that meets fmt, with fmt's text TOLD by the authors' own Lean function (tested against real Go, not proved from fmt's source: count such statements apart). THE CARD IS WHAT COUNTS. Prove the row's statement (the work); the ties are given (YtlmofdmbcddddaaGreatDoorTie.lean); close each card by the builder's one call (the guide's Derived/Test/ToyasCard.lean, 'card_holds'). Laid BY PROGRAM, IN A SANDBOX (cutbox-door.mjs). By AI agents, Wed Nov 11 2026. No macro, syntax, notation, axiom, sorry.
-/
import Derived.Test.YtlmofdmbcddddaaGreatDoorRows
import GoSem.ClaimSeven
namespace Go.Proofs.YtlmofdmbcddddaaGreatDoor
namespace Rows

/-- THE TIED CARD OF 'gambrellaw08.ContextBranch'. -/
def contextBranchCard : Claim7 := { stood := { row := contextBranchRow, standIns := [], harness := (true, "f302a1182bed1c45d68ad4c3dfa172dc89b84876d93e5e33e55d609730fc16ab"), looks := true }, kinds := [], alts := [], laidByText := true, laidKinds := [.data, .data, .data, .data, .sentinel, .sentinel, .pinned], laidTests := true, laidLooks := .later }
def ContextBranchCardSaid : Prop := Claim7.holds Tryz.pinned (.plain (OpenSpec.ofChange contextBranchSpec)) contextBranchCard

/-- THE SECOND FORM's CARD OF 'gambrellaw08.ContextBranch'. -/
def contextBranchUptoCard : Claim7 := { stood := { row := contextBranchUptoRow, standIns := [], harness := (true, "f302a1182bed1c45d68ad4c3dfa172dc89b84876d93e5e33e55d609730fc16ab"), looks := true }, kinds := [], alts := [], laidByText := true, laidKinds := [.data, .data, .data, .data, .sentinel, .sentinel, .pinned], laidTests := true, laidLooks := .later }
def ContextBranchUptoCardSaid : Prop := Claim7.holds Tryz.pinned (.plain (OpenSpec.upto contextBranchSpec)) contextBranchUptoCard
end Rows
end Go.Proofs.YtlmofdmbcddddaaGreatDoor
