/-
  DERIVED. GIVEN WITH THE SEED: THE CARDS: each row of YtkjjehnfibfngaaGreatDoorRows.lean that lists a variable, with what it lists TIED to the program's text (the seventh form; the later family's looks); each row that meets fmt, with fmt's text TOLD by the authors' own Lean function (tested against real Go, not proved from fmt's source: count such statements apart). THE CARD IS WHAT COUNTS. Prove the row's statement (the work); the ties are given (YtkjjehnfibfngaaGreatDoorTie.lean); close each card by the builder's one call (the guide's Derived/Test/ToyasCard.lean, 'card_holds'). Laid BY PROGRAM, IN A SANDBOX (cutbox-door.mjs). By AI agents, Wed Nov 11 2026. No macro, syntax, notation, axiom, sorry.
-/
import Derived.Test.YtkjjehnfibfngaaGreatDoorRows
import GoSem.ClaimSeven
namespace Go.Proofs.YtkjjehnfibfngaaGreatDoor
namespace Rows

/-- THE TIED CARD OF 'gambrellaw07.RewriteJoins'. -/
def rewriteJoinsCard : Claim7 := { stood := { row := rewriteJoinsRow, standIns := [], harness := (true, "b64b2a8bfab09919e2400d11d7e0d379de229cffedcc92a170ab670e6a16fe4f"), looks := true }, kinds := [], alts := [], laidByText := true, laidKinds := [.data, .data, .data, .data, .sentinel, .sentinel, .pinned], laidTests := true, laidLooks := .later }
def RewriteJoinsCardSaid : Prop := Claim7.holds Tryz.pinned (.plain (OpenSpec.ofChange rewriteJoinsSpec)) rewriteJoinsCard

/-- THE TIED CARD OF 'gambrellaw07.RewriteRuns'. -/
def rewriteRunsCard : Claim7 := { stood := { row := rewriteRunsRow, standIns := [], harness := (true, "b64b2a8bfab09919e2400d11d7e0d379de229cffedcc92a170ab670e6a16fe4f"), looks := true }, kinds := [], alts := [], laidByText := true, laidKinds := [.data, .data, .data, .data, .sentinel, .sentinel, .pinned], laidTests := true, laidLooks := .later }
def RewriteRunsCardSaid : Prop := Claim7.holds Tryz.pinned (.plain (OpenSpec.ofChange rewriteRunsSpec)) rewriteRunsCard

/-- THE TIED CARD OF 'gambrellaw07.RewriteFirst'. -/
def rewriteFirstCard : Claim7 := { stood := { row := rewriteFirstRow, standIns := [], harness := (true, "b64b2a8bfab09919e2400d11d7e0d379de229cffedcc92a170ab670e6a16fe4f"), looks := true }, kinds := [], alts := [], laidByText := true, laidKinds := [.data, .data, .data, .data, .sentinel, .sentinel, .pinned], laidTests := true, laidLooks := .later }
def RewriteFirstCardSaid : Prop := Claim7.holds Tryz.pinned (.plain (OpenSpec.ofChange rewriteFirstSpec)) rewriteFirstCard

/-- THE TIED CARD OF 'gambrellaw07.RewriteStill'. -/
def rewriteStillCard : Claim7 := { stood := { row := rewriteStillRow, standIns := [], harness := (true, "b64b2a8bfab09919e2400d11d7e0d379de229cffedcc92a170ab670e6a16fe4f"), looks := true }, kinds := [], alts := [], laidByText := true, laidKinds := [.data, .data, .data, .data, .sentinel, .sentinel, .pinned], laidTests := true, laidLooks := .later }
def RewriteStillCardSaid : Prop := Claim7.holds Tryz.pinned (.plain (OpenSpec.ofChange rewriteStillSpec)) rewriteStillCard

/-- THE SECOND FORM's CARD OF 'gambrellaw07.RewriteJoins'. -/
def rewriteJoinsUptoCard : Claim7 := { stood := { row := rewriteJoinsUptoRow, standIns := [], harness := (true, "b64b2a8bfab09919e2400d11d7e0d379de229cffedcc92a170ab670e6a16fe4f"), looks := true }, kinds := [], alts := [], laidByText := true, laidKinds := [.data, .data, .data, .data, .sentinel, .sentinel, .pinned], laidTests := true, laidLooks := .later }
def RewriteJoinsUptoCardSaid : Prop := Claim7.holds Tryz.pinned (.plain (OpenSpec.upto rewriteJoinsSpec)) rewriteJoinsUptoCard

/-- THE SECOND FORM's CARD OF 'gambrellaw07.RewriteRuns'. -/
def rewriteRunsUptoCard : Claim7 := { stood := { row := rewriteRunsUptoRow, standIns := [], harness := (true, "b64b2a8bfab09919e2400d11d7e0d379de229cffedcc92a170ab670e6a16fe4f"), looks := true }, kinds := [], alts := [], laidByText := true, laidKinds := [.data, .data, .data, .data, .sentinel, .sentinel, .pinned], laidTests := true, laidLooks := .later }
def RewriteRunsUptoCardSaid : Prop := Claim7.holds Tryz.pinned (.plain (OpenSpec.upto rewriteRunsSpec)) rewriteRunsUptoCard

/-- THE SECOND FORM's CARD OF 'gambrellaw07.RewriteFirst'. -/
def rewriteFirstUptoCard : Claim7 := { stood := { row := rewriteFirstUptoRow, standIns := [], harness := (true, "b64b2a8bfab09919e2400d11d7e0d379de229cffedcc92a170ab670e6a16fe4f"), looks := true }, kinds := [], alts := [], laidByText := true, laidKinds := [.data, .data, .data, .data, .sentinel, .sentinel, .pinned], laidTests := true, laidLooks := .later }
def RewriteFirstUptoCardSaid : Prop := Claim7.holds Tryz.pinned (.plain (OpenSpec.upto rewriteFirstSpec)) rewriteFirstUptoCard

/-- THE SECOND FORM's CARD OF 'gambrellaw07.RewriteStill'. -/
def rewriteStillUptoCard : Claim7 := { stood := { row := rewriteStillUptoRow, standIns := [], harness := (true, "b64b2a8bfab09919e2400d11d7e0d379de229cffedcc92a170ab670e6a16fe4f"), looks := true }, kinds := [], alts := [], laidByText := true, laidKinds := [.data, .data, .data, .data, .sentinel, .sentinel, .pinned], laidTests := true, laidLooks := .later }
def RewriteStillUptoCardSaid : Prop := Claim7.holds Tryz.pinned (.plain (OpenSpec.upto rewriteStillSpec)) rewriteStillUptoCard
end Rows
end Go.Proofs.YtkjjehnfibfngaaGreatDoor
