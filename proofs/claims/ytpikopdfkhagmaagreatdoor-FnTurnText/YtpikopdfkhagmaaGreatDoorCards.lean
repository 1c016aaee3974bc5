/-
  DERIVED. GIVEN WITH THE SEED: THE CARDS: each row of YtpikopdfkhagmaaGreatDoorRows.lean that lists a variable, with what it lists TIED to the program's text (the seventh form; the later family's looks); each row that meets fmt, with fmt's text TOLD by the authors' own Lean function (tested against real Go, not proved from fmt's source: count such statements apart). THE CARD IS WHAT COUNTS. Prove the row's statement (the work); the ties are given (YtpikopdfkhagmaaGreatDoorTie.lean); close each card by the builder's one call (the guide's Derived/Test/ToyasCard.lean, 'card_holds'). Laid BY PROGRAM, IN A SANDBOX (cutbox-door.mjs). By AI agents, Wed Nov 11 2026. No macro, syntax, notation, axiom, sorry.
-/
import Derived.Test.YtpikopdfkhagmaaGreatDoorRows
import GoSem.ClaimSeven
namespace Go.Proofs.YtpikopdfkhagmaaGreatDoor
namespace Rows

/-- THE TIED CARD OF 'laws.FnCallText'. -/
def fnCallTextCard : Claim7 := { stood := { row := fnCallTextRow, standIns := [], harness := (true, "42199d4efa8b85fffb4f15d80d794fcf493991ea66f7186e6a98eb04628a994a"), looks := false }, kinds := [], alts := [], laidByText := true, laidKinds := [.data, .data, .data, .sentinel], laidTests := true, laidLooks := .later }
def FnCallTextCardSaid : Prop := Claim7.holds Tryz.pinned (.plain (OpenSpec.ofChange fnCallTextSpec)) fnCallTextCard

/-- THE TIED CARD OF 'laws.FnTurnText'. -/
def fnTurnTextCard : Claim7 := { stood := { row := fnTurnTextRow, standIns := [], harness := (true, "42199d4efa8b85fffb4f15d80d794fcf493991ea66f7186e6a98eb04628a994a"), looks := false }, kinds := [], alts := [], laidByText := true, laidKinds := [.data, .data, .data], laidTests := true, laidLooks := .later }
def FnTurnTextCardSaid : Prop := Claim7.holds Tryz.pinned (.plain (OpenSpec.ofChange fnTurnTextSpec)) fnTurnTextCard

/-- THE SECOND FORM's CARD OF 'laws.FnCallText'. -/
def fnCallTextUptoCard : Claim7 := { stood := { row := fnCallTextUptoRow, standIns := [], harness := (true, "42199d4efa8b85fffb4f15d80d794fcf493991ea66f7186e6a98eb04628a994a"), looks := false }, kinds := [], alts := [], laidByText := true, laidKinds := [.data, .data, .data, .sentinel], laidTests := true, laidLooks := .later }
def FnCallTextUptoCardSaid : Prop := Claim7.holds Tryz.pinned (.plain (OpenSpec.upto fnCallTextSpec)) fnCallTextUptoCard

/-- THE SECOND FORM's CARD OF 'laws.FnTurnText'. -/
def fnTurnTextUptoCard : Claim7 := { stood := { row := fnTurnTextUptoRow, standIns := [], harness := (true, "42199d4efa8b85fffb4f15d80d794fcf493991ea66f7186e6a98eb04628a994a"), looks := false }, kinds := [], alts := [], laidByText := true, laidKinds := [.data, .data, .data], laidTests := true, laidLooks := .later }
def FnTurnTextUptoCardSaid : Prop := Claim7.holds Tryz.pinned (.plain (OpenSpec.upto fnTurnTextSpec)) fnTurnTextUptoCard
end Rows
end Go.Proofs.YtpikopdfkhagmaaGreatDoor
