/-
  DERIVED. GIVEN WITH THE SEED: THE CARDS: each row of YteagpjlgjfaclaaGreatDoorRows.lean that lists a variable, with what it lists TIED to the program's text (the seventh form; the later family's looks); each row that meets fmt, with fmt's text TOLD by the authors' own Lean function (tested against real Go, not proved from fmt's source: count such statements apart). THE CARD IS WHAT COUNTS. Prove the row's statement (the work); the ties are given (YteagpjlgjfaclaaGreatDoorTie.lean); close each card by the builder's one call (the guide's Derived/Test/ToyasCard.lean, 'card_holds'). Laid BY PROGRAM, IN A SANDBOX (cutbox-door.mjs). By AI agents, Wed Nov 11 2026. No macro, syntax, notation, axiom, sorry.
-/
import Derived.Test.YteagpjlgjfaclaaGreatDoorRows
import GoSem.ClaimSeven
namespace Go.Proofs.YteagpjlgjfaclaaGreatDoor
namespace Rows

/-- THE TIED CARD OF 'laws.FnLent'. -/
def fnLentCard : Claim7 := { stood := { row := fnLentRow, standIns := [], harness := (true, "afa1f9bf75d512a2ae8aac382151a6da6cb50dc7f257615b4e2a0ddd4909fe97"), looks := true }, kinds := [], alts := [], goes := true, laidByText := true, laidKinds := [.handle, .sentinel, .sentinel, .sentinel, .sentinel, .sentinel, .sentinel], laidTests := true, laidLooks := .later }
def FnLentCardSaid : Prop := Claim7.holds Tryz.pinned (.plain (OpenSpec.ofChange fnLentSpec)) fnLentCard

/-- THE TIED CARD OF 'laws.FnGhosts'. -/
def fnGhostsCard : Claim7 := { stood := { row := fnGhostsRow, standIns := [], harness := (true, "afa1f9bf75d512a2ae8aac382151a6da6cb50dc7f257615b4e2a0ddd4909fe97"), looks := true }, kinds := [], alts := [], goes := true, laidByText := true, laidKinds := [.handle, .sentinel, .sentinel, .sentinel, .sentinel, .sentinel, .sentinel], laidTests := true, laidLooks := .later }
def FnGhostsCardSaid : Prop := Claim7.holds Tryz.pinned (.plain (OpenSpec.ofChange fnGhostsSpec)) fnGhostsCard

/-- THE TIED CARD OF 'laws.FnRefusedParts'. -/
def fnRefusedPartsCard : Claim7 := { stood := { row := fnRefusedPartsRow, standIns := [], harness := (true, "afa1f9bf75d512a2ae8aac382151a6da6cb50dc7f257615b4e2a0ddd4909fe97"), looks := true }, kinds := [], alts := [], goes := true, laidByText := true, laidKinds := [.handle, .sentinel, .sentinel, .sentinel, .sentinel, .sentinel, .sentinel], laidTests := true, laidLooks := .later }
def FnRefusedPartsCardSaid : Prop := Claim7.holds Tryz.pinned (.plain (OpenSpec.ofChange fnRefusedPartsSpec)) fnRefusedPartsCard

/-- THE SECOND FORM's CARD OF 'laws.FnLent'. -/
def fnLentUptoCard : Claim7 := { stood := { row := fnLentUptoRow, standIns := [], harness := (true, "afa1f9bf75d512a2ae8aac382151a6da6cb50dc7f257615b4e2a0ddd4909fe97"), looks := true }, kinds := [], alts := [], goes := true, laidByText := true, laidKinds := [.handle, .sentinel, .sentinel, .sentinel, .sentinel, .sentinel, .sentinel], laidTests := true, laidLooks := .later }
def FnLentUptoCardSaid : Prop := Claim7.holds Tryz.pinned (.plain (OpenSpec.upto fnLentSpec)) fnLentUptoCard

/-- THE SECOND FORM's CARD OF 'laws.FnGhosts'. -/
def fnGhostsUptoCard : Claim7 := { stood := { row := fnGhostsUptoRow, standIns := [], harness := (true, "afa1f9bf75d512a2ae8aac382151a6da6cb50dc7f257615b4e2a0ddd4909fe97"), looks := true }, kinds := [], alts := [], goes := true, laidByText := true, laidKinds := [.handle, .sentinel, .sentinel, .sentinel, .sentinel, .sentinel, .sentinel], laidTests := true, laidLooks := .later }
def FnGhostsUptoCardSaid : Prop := Claim7.holds Tryz.pinned (.plain (OpenSpec.upto fnGhostsSpec)) fnGhostsUptoCard

/-- THE SECOND FORM's CARD OF 'laws.FnRefusedParts'. -/
def fnRefusedPartsUptoCard : Claim7 := { stood := { row := fnRefusedPartsUptoRow, standIns := [], harness := (true, "afa1f9bf75d512a2ae8aac382151a6da6cb50dc7f257615b4e2a0ddd4909fe97"), looks := true }, kinds := [], alts := [], goes := true, laidByText := true, laidKinds := [.handle, .sentinel, .sentinel, .sentinel, .sentinel, .sentinel, .sentinel], laidTests := true, laidLooks := .later }
def FnRefusedPartsUptoCardSaid : Prop := Claim7.holds Tryz.pinned (.plain (OpenSpec.upto fnRefusedPartsSpec)) fnRefusedPartsUptoCard
end Rows
end Go.Proofs.YteagpjlgjfaclaaGreatDoor
