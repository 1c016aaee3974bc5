/-
  DERIVED. GIVEN WITH THE SEED: THE CARDS: each row of YthobpahnmmdbiaaGreatDoorRows.lean that lists a variable, with what it lists TIED to the program's text (the seventh form; the later family's looks); each row that meets fmt, with fmt's text TOLD by the authors' own Lean function (tested against real Go, not proved from fmt's source: count such statements apart). THE CARD IS WHAT COUNTS. Prove the row's statement (the work); the ties are given (YthobpahnmmdbiaaGreatDoorTie.lean); close each card by the builder's one call (the guide's Derived/Test/ToyasCard.lean, 'card_holds'). Laid BY PROGRAM, IN A SANDBOX (cutbox-door.mjs). By AI agents, Wed Nov 11 2026. No macro, syntax, notation, axiom, sorry.
-/
import Derived.Test.YthobpahnmmdbiaaGreatDoorRows
import GoSem.ClaimSeven
namespace Go.Proofs.YthobpahnmmdbiaaGreatDoor
namespace Rows

/-- THE TIED CARD OF 'laws.FnJudges'. -/
def fnJudgesCard : Claim7 := { stood := { row := fnJudgesRow, standIns := [], harness := (true, "7a077d426ea1e1b736abe72558551faa4df6eea05c817a0e17ef2afdfa2afa7a"), looks := true }, kinds := [], alts := [], laidByText := true, laidKinds := [.handle], laidTests := true, laidLooks := .later }
def FnJudgesCardSaid : Prop := Claim7.holds Tryz.pinned (.plain (OpenSpec.ofChange fnJudgesSpec)) fnJudgesCard

/-- THE TIED CARD OF 'laws.FnExactJudgeTurns'. -/
def fnExactJudgeTurnsCard : Claim7 := { stood := { row := fnExactJudgeTurnsRow, standIns := [], harness := (true, "7a077d426ea1e1b736abe72558551faa4df6eea05c817a0e17ef2afdfa2afa7a"), looks := true }, kinds := [], alts := [], laidByText := true, laidKinds := [.handle], laidTests := true, laidLooks := .later }
def FnExactJudgeTurnsCardSaid : Prop := Claim7.holds Tryz.pinned (.plain (OpenSpec.ofChange fnExactJudgeTurnsSpec)) fnExactJudgeTurnsCard

/-- THE TIED CARD OF 'laws.FnExactJudgeDue'. -/
def fnExactJudgeDueCard : Claim7 := { stood := { row := fnExactJudgeDueRow, standIns := [], harness := (true, "7a077d426ea1e1b736abe72558551faa4df6eea05c817a0e17ef2afdfa2afa7a"), looks := true }, kinds := [], alts := [], laidByText := true, laidKinds := [.handle], laidTests := true, laidLooks := .later }
def FnExactJudgeDueCardSaid : Prop := Claim7.holds Tryz.pinned (.plain (OpenSpec.ofChange fnExactJudgeDueSpec)) fnExactJudgeDueCard

/-- THE TIED CARD OF 'laws.FnExactJudgeFair'. -/
def fnExactJudgeFairCard : Claim7 := { stood := { row := fnExactJudgeFairRow, standIns := [], harness := (true, "7a077d426ea1e1b736abe72558551faa4df6eea05c817a0e17ef2afdfa2afa7a"), looks := true }, kinds := [], alts := [], laidByText := true, laidKinds := [.handle], laidTests := true, laidLooks := .later }
def FnExactJudgeFairCardSaid : Prop := Claim7.holds Tryz.pinned (.plain (OpenSpec.ofChange fnExactJudgeFairSpec)) fnExactJudgeFairCard

/-- THE TIED CARD OF 'laws.FnExactJudgeBest'. -/
def fnExactJudgeBestCard : Claim7 := { stood := { row := fnExactJudgeBestRow, standIns := [], harness := (true, "7a077d426ea1e1b736abe72558551faa4df6eea05c817a0e17ef2afdfa2afa7a"), looks := true }, kinds := [], alts := [], laidByText := true, laidKinds := [.handle], laidTests := true, laidLooks := .later }
def FnExactJudgeBestCardSaid : Prop := Claim7.holds Tryz.pinned (.plain (OpenSpec.ofChange fnExactJudgeBestSpec)) fnExactJudgeBestCard

/-- THE TIED CARD OF 'laws.FnExactJudgeAlone'. -/
def fnExactJudgeAloneCard : Claim7 := { stood := { row := fnExactJudgeAloneRow, standIns := [], harness := (true, "7a077d426ea1e1b736abe72558551faa4df6eea05c817a0e17ef2afdfa2afa7a"), looks := true }, kinds := [], alts := [], laidByText := true, laidKinds := [.handle], laidTests := true, laidLooks := .later }
def FnExactJudgeAloneCardSaid : Prop := Claim7.holds Tryz.pinned (.plain (OpenSpec.ofChange fnExactJudgeAloneSpec)) fnExactJudgeAloneCard

/-- THE TIED CARD OF 'laws.FnExactJudgeAll'. -/
def fnExactJudgeAllCard : Claim7 := { stood := { row := fnExactJudgeAllRow, standIns := [], harness := (true, "7a077d426ea1e1b736abe72558551faa4df6eea05c817a0e17ef2afdfa2afa7a"), looks := true }, kinds := [], alts := [], laidByText := true, laidKinds := [.handle], laidTests := true, laidLooks := .later }
def FnExactJudgeAllCardSaid : Prop := Claim7.holds Tryz.pinned (.plain (OpenSpec.ofChange fnExactJudgeAllSpec)) fnExactJudgeAllCard

/-- THE SECOND FORM's CARD OF 'laws.FnJudges'. -/
def fnJudgesUptoCard : Claim7 := { stood := { row := fnJudgesUptoRow, standIns := [], harness := (true, "7a077d426ea1e1b736abe72558551faa4df6eea05c817a0e17ef2afdfa2afa7a"), looks := true }, kinds := [], alts := [], laidByText := true, laidKinds := [.handle], laidTests := true, laidLooks := .later }
def FnJudgesUptoCardSaid : Prop := Claim7.holds Tryz.pinned (.plain (OpenSpec.upto fnJudgesSpec)) fnJudgesUptoCard

/-- THE SECOND FORM's CARD OF 'laws.FnExactJudgeTurns'. -/
def fnExactJudgeTurnsUptoCard : Claim7 := { stood := { row := fnExactJudgeTurnsUptoRow, standIns := [], harness := (true, "7a077d426ea1e1b736abe72558551faa4df6eea05c817a0e17ef2afdfa2afa7a"), looks := true }, kinds := [], alts := [], laidByText := true, laidKinds := [.handle], laidTests := true, laidLooks := .later }
def FnExactJudgeTurnsUptoCardSaid : Prop := Claim7.holds Tryz.pinned (.plain (OpenSpec.upto fnExactJudgeTurnsSpec)) fnExactJudgeTurnsUptoCard

/-- THE SECOND FORM's CARD OF 'laws.FnExactJudgeDue'. -/
def fnExactJudgeDueUptoCard : Claim7 := { stood := { row := fnExactJudgeDueUptoRow, standIns := [], harness := (true, "7a077d426ea1e1b736abe72558551faa4df6eea05c817a0e17ef2afdfa2afa7a"), looks := true }, kinds := [], alts := [], laidByText := true, laidKinds := [.handle], laidTests := true, laidLooks := .later }
def FnExactJudgeDueUptoCardSaid : Prop := Claim7.holds Tryz.pinned (.plain (OpenSpec.upto fnExactJudgeDueSpec)) fnExactJudgeDueUptoCard

/-- THE SECOND FORM's CARD OF 'laws.FnExactJudgeFair'. -/
def fnExactJudgeFairUptoCard : Claim7 := { stood := { row := fnExactJudgeFairUptoRow, standIns := [], harness := (true, "7a077d426ea1e1b736abe72558551faa4df6eea05c817a0e17ef2afdfa2afa7a"), looks := true }, kinds := [], alts := [], laidByText := true, laidKinds := [.handle], laidTests := true, laidLooks := .later }
def FnExactJudgeFairUptoCardSaid : Prop := Claim7.holds Tryz.pinned (.plain (OpenSpec.upto fnExactJudgeFairSpec)) fnExactJudgeFairUptoCard

/-- THE SECOND FORM's CARD OF 'laws.FnExactJudgeBest'. -/
def fnExactJudgeBestUptoCard : Claim7 := { stood := { row := fnExactJudgeBestUptoRow, standIns := [], harness := (true, "7a077d426ea1e1b736abe72558551faa4df6eea05c817a0e17ef2afdfa2afa7a"), looks := true }, kinds := [], alts := [], laidByText := true, laidKinds := [.handle], laidTests := true, laidLooks := .later }
def FnExactJudgeBestUptoCardSaid : Prop := Claim7.holds Tryz.pinned (.plain (OpenSpec.upto fnExactJudgeBestSpec)) fnExactJudgeBestUptoCard

/-- THE SECOND FORM's CARD OF 'laws.FnExactJudgeAlone'. -/
def fnExactJudgeAloneUptoCard : Claim7 := { stood := { row := fnExactJudgeAloneUptoRow, standIns := [], harness := (true, "7a077d426ea1e1b736abe72558551faa4df6eea05c817a0e17ef2afdfa2afa7a"), looks := true }, kinds := [], alts := [], laidByText := true, laidKinds := [.handle], laidTests := true, laidLooks := .later }
def FnExactJudgeAloneUptoCardSaid : Prop := Claim7.holds Tryz.pinned (.plain (OpenSpec.upto fnExactJudgeAloneSpec)) fnExactJudgeAloneUptoCard

/-- THE SECOND FORM's CARD OF 'laws.FnExactJudgeAll'. -/
def fnExactJudgeAllUptoCard : Claim7 := { stood := { row := fnExactJudgeAllUptoRow, standIns := [], harness := (true, "7a077d426ea1e1b736abe72558551faa4df6eea05c817a0e17ef2afdfa2afa7a"), looks := true }, kinds := [], alts := [], laidByText := true, laidKinds := [.handle], laidTests := true, laidLooks := .later }
def FnExactJudgeAllUptoCardSaid : Prop := Claim7.holds Tryz.pinned (.plain (OpenSpec.upto fnExactJudgeAllSpec)) fnExactJudgeAllUptoCard
end Rows
end Go.Proofs.YthobpahnmmdbiaaGreatDoor
