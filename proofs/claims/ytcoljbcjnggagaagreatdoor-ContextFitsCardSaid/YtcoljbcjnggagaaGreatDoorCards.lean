/-
  DERIVED. GIVEN WITH THE SEED: THE CARDS: each row of YtcoljbcjnggagaaGreatDoorRows.lean that lists a variable, with what it lists TIED to the program's text (the seventh form; the later family's looks); each row that meets fmt, with fmt's text TOLD by the authors' own Lean function (tested against real Go, not proved from fmt's source: count such statements apart). THE CARD IS WHAT COUNTS. Prove the row's statement (the work); the ties are given (YtcoljbcjnggagaaGreatDoorTie.lean); close each card by the builder's one call (the guide's Derived/Test/ToyasCard.lean, 'card_holds'). Laid BY PROGRAM, IN A SANDBOX (cutbox-door.mjs). By AI agents, Wed Nov 11 2026. No macro, syntax, notation, axiom, sorry.
-/
import Derived.Test.YtcoljbcjnggagaaGreatDoorRows
import GoSem.ClaimSeven
namespace Go.Proofs.YtcoljbcjnggagaaGreatDoor
namespace Rows

/-- THE TIED CARD OF 'gambrellaw08.ContextNames'. -/
def contextNamesCard : Claim7 := { stood := { row := contextNamesRow, standIns := [], harness := (true, "6ec53af8dc8c2bab9bbe1baf783b4031a500ca94de6e4dfc763ab72e33bd8f62"), looks := true }, kinds := [], alts := [], laidByText := true, laidKinds := [.data, .data, .data, .data, .sentinel, .sentinel, .pinned], laidTests := true, laidLooks := .later }
def ContextNamesCardSaid : Prop := Claim7.holds Tryz.pinned (.plain (OpenSpec.ofChange contextNamesSpec)) contextNamesCard

/-- THE TIED CARD OF 'gambrellaw08.ContextPlain'. -/
def contextPlainCard : Claim7 := { stood := { row := contextPlainRow, standIns := [], harness := (true, "6ec53af8dc8c2bab9bbe1baf783b4031a500ca94de6e4dfc763ab72e33bd8f62"), looks := true }, kinds := [], alts := [], laidByText := true, laidKinds := [.data, .data, .data, .data, .sentinel, .sentinel, .pinned], laidTests := true, laidLooks := .later }
def ContextPlainCardSaid : Prop := Claim7.holds Tryz.pinned (.plain (OpenSpec.ofChange contextPlainSpec)) contextPlainCard

/-- THE TIED CARD OF 'gambrellaw08.ContextBack'. -/
def contextBackCard : Claim7 := { stood := { row := contextBackRow, standIns := [], harness := (true, "6ec53af8dc8c2bab9bbe1baf783b4031a500ca94de6e4dfc763ab72e33bd8f62"), looks := true }, kinds := [], alts := [], laidByText := true, laidKinds := [.data, .data, .data, .data, .sentinel, .sentinel, .pinned], laidTests := true, laidLooks := .later }
def ContextBackCardSaid : Prop := Claim7.holds Tryz.pinned (.plain (OpenSpec.ofChange contextBackSpec)) contextBackCard

/-- THE TIED CARD OF 'gambrellaw08.ContextBranch'. -/
def contextBranchCard : Claim7 := { stood := { row := contextBranchRow, standIns := [], harness := (true, "6ec53af8dc8c2bab9bbe1baf783b4031a500ca94de6e4dfc763ab72e33bd8f62"), looks := true }, kinds := [], alts := [], laidByText := true, laidKinds := [.data, .data, .data, .data, .sentinel, .sentinel, .pinned], laidTests := true, laidLooks := .later }
def ContextBranchCardSaid : Prop := Claim7.holds Tryz.pinned (.plain (OpenSpec.ofChange contextBranchSpec)) contextBranchCard

/-- THE TIED CARD OF 'gambrellaw08.ContextFits'. -/
def contextFitsCard : Claim7 := { stood := { row := contextFitsRow, standIns := [], harness := (true, "6ec53af8dc8c2bab9bbe1baf783b4031a500ca94de6e4dfc763ab72e33bd8f62"), looks := true }, kinds := [], alts := [], laidByText := true, laidKinds := [.data, .data, .data, .data, .sentinel, .sentinel, .pinned], laidTests := true, laidLooks := .later }
def ContextFitsCardSaid : Prop := Claim7.holds Tryz.pinned (.plain (OpenSpec.ofChange contextFitsSpec)) contextFitsCard

/-- THE SECOND FORM's CARD OF 'gambrellaw08.ContextNames'. -/
def contextNamesUptoCard : Claim7 := { stood := { row := contextNamesUptoRow, standIns := [], harness := (true, "6ec53af8dc8c2bab9bbe1baf783b4031a500ca94de6e4dfc763ab72e33bd8f62"), looks := true }, kinds := [], alts := [], laidByText := true, laidKinds := [.data, .data, .data, .data, .sentinel, .sentinel, .pinned], laidTests := true, laidLooks := .later }
def ContextNamesUptoCardSaid : Prop := Claim7.holds Tryz.pinned (.plain (OpenSpec.upto contextNamesSpec)) contextNamesUptoCard

/-- THE SECOND FORM's CARD OF 'gambrellaw08.ContextPlain'. -/
def contextPlainUptoCard : Claim7 := { stood := { row := contextPlainUptoRow, standIns := [], harness := (true, "6ec53af8dc8c2bab9bbe1baf783b4031a500ca94de6e4dfc763ab72e33bd8f62"), looks := true }, kinds := [], alts := [], laidByText := true, laidKinds := [.data, .data, .data, .data, .sentinel, .sentinel, .pinned], laidTests := true, laidLooks := .later }
def ContextPlainUptoCardSaid : Prop := Claim7.holds Tryz.pinned (.plain (OpenSpec.upto contextPlainSpec)) contextPlainUptoCard

/-- THE SECOND FORM's CARD OF 'gambrellaw08.ContextBack'. -/
def contextBackUptoCard : Claim7 := { stood := { row := contextBackUptoRow, standIns := [], harness := (true, "6ec53af8dc8c2bab9bbe1baf783b4031a500ca94de6e4dfc763ab72e33bd8f62"), looks := true }, kinds := [], alts := [], laidByText := true, laidKinds := [.data, .data, .data, .data, .sentinel, .sentinel, .pinned], laidTests := true, laidLooks := .later }
def ContextBackUptoCardSaid : Prop := Claim7.holds Tryz.pinned (.plain (OpenSpec.upto contextBackSpec)) contextBackUptoCard

/-- THE SECOND FORM's CARD OF 'gambrellaw08.ContextBranch'. -/
def contextBranchUptoCard : Claim7 := { stood := { row := contextBranchUptoRow, standIns := [], harness := (true, "6ec53af8dc8c2bab9bbe1baf783b4031a500ca94de6e4dfc763ab72e33bd8f62"), looks := true }, kinds := [], alts := [], laidByText := true, laidKinds := [.data, .data, .data, .data, .sentinel, .sentinel, .pinned], laidTests := true, laidLooks := .later }
def ContextBranchUptoCardSaid : Prop := Claim7.holds Tryz.pinned (.plain (OpenSpec.upto contextBranchSpec)) contextBranchUptoCard

/-- THE SECOND FORM's CARD OF 'gambrellaw08.ContextFits'. -/
def contextFitsUptoCard : Claim7 := { stood := { row := contextFitsUptoRow, standIns := [], harness := (true, "6ec53af8dc8c2bab9bbe1baf783b4031a500ca94de6e4dfc763ab72e33bd8f62"), looks := true }, kinds := [], alts := [], laidByText := true, laidKinds := [.data, .data, .data, .data, .sentinel, .sentinel, .pinned], laidTests := true, laidLooks := .later }
def ContextFitsUptoCardSaid : Prop := Claim7.holds Tryz.pinned (.plain (OpenSpec.upto contextFitsSpec)) contextFitsUptoCard
end Rows
end Go.Proofs.YtcoljbcjnggagaaGreatDoor
