/-
  DERIVED. GIVEN WITH THE SEED: THE CARDS: each row of YthpdlbcdbncnhaaGreatDoorRows.lean that lists a variable, with what it lists TIED to the program's text (the seventh form; the later family's looks); each row that meets fmt, with fmt's text TOLD by the authors' own Lean function (tested against real Go, not proved from fmt's source: count such statements apart). THE CARD IS WHAT COUNTS. Prove the row's statement (the work); the ties are given (YthpdlbcdbncnhaaGreatDoorTie.lean); close each card by the builder's one call (the guide's Derived/Test/ToyasCard.lean, 'card_holds'). Laid BY PROGRAM, IN A SANDBOX (cutbox-door.mjs). By AI agents, Wed Nov 11 2026. No macro, syntax, notation, axiom, sorry.
-/
import Derived.Test.YthpdlbcdbncnhaaGreatDoorRows
import GoSem.ClaimSeven
namespace Go.Proofs.YthpdlbcdbncnhaaGreatDoor
namespace Rows

/-- THE TIED CARD OF 'laws.FnExactShortOf'. -/
def fnExactShortOfCard : Claim7 := { stood := { row := fnExactShortOfRow, standIns := [], harness := (true, "96ff39333b366c2c0e74eda5bb612ca4da74554a5057e541651c1386ea1c6a2b"), looks := true }, kinds := [], alts := [], laidByText := true, laidKinds := [.handle], laidTests := true, laidLooks := .later }
def FnExactShortOfCardSaid : Prop := Claim7.holds Tryz.pinned (.plain (OpenSpec.ofChange fnExactShortOfSpec)) fnExactShortOfCard

/-- THE TIED CARD OF 'laws.FnExactSpreadOn'. -/
def fnExactSpreadOnCard : Claim7 := { stood := { row := fnExactSpreadOnRow, standIns := [], harness := (true, "96ff39333b366c2c0e74eda5bb612ca4da74554a5057e541651c1386ea1c6a2b"), looks := true }, kinds := [], alts := [], laidByText := true, laidKinds := [.handle], laidTests := true, laidLooks := .later }
def FnExactSpreadOnCardSaid : Prop := Claim7.holds Tryz.pinned (.plain (OpenSpec.ofChange fnExactSpreadOnSpec)) fnExactSpreadOnCard

/-- THE TIED CARD OF 'laws.FnShort'. -/
def fnShortCard : Claim7 := { stood := { row := fnShortRow, standIns := [], harness := (true, "96ff39333b366c2c0e74eda5bb612ca4da74554a5057e541651c1386ea1c6a2b"), looks := true }, kinds := [], alts := [], laidByText := true, laidKinds := [.handle], laidTests := true, laidLooks := .later }
def FnShortCardSaid : Prop := Claim7.holds Tryz.pinned (.plain (OpenSpec.ofChange fnShortSpec)) fnShortCard

/-- THE TIED CARD OF 'laws.FnJudges'. -/
def fnJudgesCard : Claim7 := { stood := { row := fnJudgesRow, standIns := [], harness := (true, "96ff39333b366c2c0e74eda5bb612ca4da74554a5057e541651c1386ea1c6a2b"), looks := true }, kinds := [], alts := [], laidByText := true, laidKinds := [.handle], laidTests := true, laidLooks := .later }
def FnJudgesCardSaid : Prop := Claim7.holds Tryz.pinned (.plain (OpenSpec.ofChange fnJudgesSpec)) fnJudgesCard

/-- THE SECOND FORM's CARD OF 'laws.FnExactShortOf'. -/
def fnExactShortOfUptoCard : Claim7 := { stood := { row := fnExactShortOfUptoRow, standIns := [], harness := (true, "96ff39333b366c2c0e74eda5bb612ca4da74554a5057e541651c1386ea1c6a2b"), looks := true }, kinds := [], alts := [], laidByText := true, laidKinds := [.handle], laidTests := true, laidLooks := .later }
def FnExactShortOfUptoCardSaid : Prop := Claim7.holds Tryz.pinned (.plain (OpenSpec.upto fnExactShortOfSpec)) fnExactShortOfUptoCard

/-- THE SECOND FORM's CARD OF 'laws.FnExactSpreadOn'. -/
def fnExactSpreadOnUptoCard : Claim7 := { stood := { row := fnExactSpreadOnUptoRow, standIns := [], harness := (true, "96ff39333b366c2c0e74eda5bb612ca4da74554a5057e541651c1386ea1c6a2b"), looks := true }, kinds := [], alts := [], laidByText := true, laidKinds := [.handle], laidTests := true, laidLooks := .later }
def FnExactSpreadOnUptoCardSaid : Prop := Claim7.holds Tryz.pinned (.plain (OpenSpec.upto fnExactSpreadOnSpec)) fnExactSpreadOnUptoCard

/-- THE SECOND FORM's CARD OF 'laws.FnShort'. -/
def fnShortUptoCard : Claim7 := { stood := { row := fnShortUptoRow, standIns := [], harness := (true, "96ff39333b366c2c0e74eda5bb612ca4da74554a5057e541651c1386ea1c6a2b"), looks := true }, kinds := [], alts := [], laidByText := true, laidKinds := [.handle], laidTests := true, laidLooks := .later }
def FnShortUptoCardSaid : Prop := Claim7.holds Tryz.pinned (.plain (OpenSpec.upto fnShortSpec)) fnShortUptoCard

/-- THE SECOND FORM's CARD OF 'laws.FnJudges'. -/
def fnJudgesUptoCard : Claim7 := { stood := { row := fnJudgesUptoRow, standIns := [], harness := (true, "96ff39333b366c2c0e74eda5bb612ca4da74554a5057e541651c1386ea1c6a2b"), looks := true }, kinds := [], alts := [], laidByText := true, laidKinds := [.handle], laidTests := true, laidLooks := .later }
def FnJudgesUptoCardSaid : Prop := Claim7.holds Tryz.pinned (.plain (OpenSpec.upto fnJudgesSpec)) fnJudgesUptoCard
end Rows
end Go.Proofs.YthpdlbcdbncnhaaGreatDoor
