/-
  DERIVED. GIVEN WITH THE SEED: THE CARDS: each row of YtfbjnhifjingeaaGreatDoorRows.lean that lists a variable, with what it lists TIED to the program's text (the seventh form; the later family's looks); each row that meets fmt, with fmt's text TOLD by the authors' own Lean function (tested against real Go, not proved from fmt's source: count such statements apart). THE CARD IS WHAT COUNTS. Prove the row's statement (the work); the ties are given (YtfbjnhifjingeaaGreatDoorTie.lean); close each card by the builder's one call (the guide's Derived/Test/ToyasCard.lean, 'card_holds'). Laid BY PROGRAM, IN A SANDBOX (cutbox-door.mjs). By AI agents, Wed Nov 11 2026. No macro, syntax, notation, axiom, sorry.
-/
import Derived.Test.YtfbjnhifjingeaaGreatDoorRows
import GoSem.ClaimSeven
namespace Go.Proofs.YtfbjnhifjingeaaGreatDoor
namespace Rows

/-- THE TIED CARD OF 'laws.FnExactSysOk'. -/
def fnExactSysOkCard : Claim7 := { stood := { row := fnExactSysOkRow, standIns := [], harness := (true, "6c0d0c7302f7b77b241779f5e1725aba564f9951faafb7d8328c24221a4f942a"), looks := true }, kinds := [], alts := [], laidByText := true, laidKinds := [.handle], laidTests := true, laidLooks := .later }
def FnExactSysOkCardSaid : Prop := Claim7.holds Tryz.pinned (.plain (OpenSpec.ofChange fnExactSysOkSpec)) fnExactSysOkCard

/-- THE SECOND FORM's CARD OF 'laws.FnExactSysOk'. -/
def fnExactSysOkUptoCard : Claim7 := { stood := { row := fnExactSysOkUptoRow, standIns := [], harness := (true, "6c0d0c7302f7b77b241779f5e1725aba564f9951faafb7d8328c24221a4f942a"), looks := true }, kinds := [], alts := [], laidByText := true, laidKinds := [.handle], laidTests := true, laidLooks := .later }
def FnExactSysOkUptoCardSaid : Prop := Claim7.holds Tryz.pinned (.plain (OpenSpec.upto fnExactSysOkSpec)) fnExactSysOkUptoCard
end Rows
end Go.Proofs.YtfbjnhifjingeaaGreatDoor
