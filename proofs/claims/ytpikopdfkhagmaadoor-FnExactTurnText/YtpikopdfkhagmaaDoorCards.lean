/-
  DERIVED. GIVEN WITH THE SEED: THE CARDS: each row of YtpikopdfkhagmaaDoorRows.lean that lists a variable, with what it lists TIED to the program's text (the seventh form; the later family's looks); each row that meets fmt, with fmt's text TOLD by the authors' own Lean function (tested against real Go, not proved from fmt's source: count such statements apart). THE CARD IS WHAT COUNTS. Prove the row's statement (the work); the ties are given (YtpikopdfkhagmaaDoorTie.lean); close each card by the builder's one call (the guide's Derived/Test/ToyasCard.lean, 'card_holds'). Laid BY PROGRAM, IN A SANDBOX (cutbox-door.mjs). By AI agents, Wed Nov 11 2026. No macro, syntax, notation, axiom, sorry.
-/
import Derived.Test.YtpikopdfkhagmaaDoorRows
import GoSem.ClaimSeven
namespace Go.Proofs.YtpikopdfkhagmaaDoor
namespace Rows

/-- THE TIED CARD OF 'laws.FnExactCallLine'. -/
def fnExactCallLineCard : Claim7 := { stood := { row := fnExactCallLineRow, standIns := [], harness := (true, "11e31a2d29421c17d827c84018f5b0fa3cae09e58f1cd0100b4f4b7544a31e94"), looks := false }, kinds := [], alts := [], laidByText := true, laidKinds := [.data, .data, .data, .sentinel], laidTests := true, laidLooks := .later }
def FnExactCallLineCardSaid : Prop := Claim7.holds Tryd.pinned (.plain (OpenSpec.ofChange fnExactCallLineSpec)) fnExactCallLineCard

/-- THE TIED CARD OF 'laws.FnExactCallParse'. -/
def fnExactCallParseCard : Claim7 := { stood := { row := fnExactCallParseRow, standIns := [], harness := (true, "11e31a2d29421c17d827c84018f5b0fa3cae09e58f1cd0100b4f4b7544a31e94"), looks := false }, kinds := [], alts := [], laidByText := true, laidKinds := [.data, .data, .data, .sentinel], laidTests := true, laidLooks := .later }
def FnExactCallParseCardSaid : Prop := Claim7.holds Tryd.pinned (.plain (OpenSpec.ofChange fnExactCallParseSpec)) fnExactCallParseCard

/-- THE TIED CARD OF 'laws.FnExactTurnText'. -/
def fnExactTurnTextCard : Claim7 := { stood := { row := fnExactTurnTextRow, standIns := [], harness := (true, "11e31a2d29421c17d827c84018f5b0fa3cae09e58f1cd0100b4f4b7544a31e94"), looks := false }, kinds := [], alts := [], laidByText := true, laidKinds := [.data, .data, .data], laidTests := true, laidLooks := .later }
def FnExactTurnTextCardSaid : Prop := Claim7.holds Tryd.pinned (.plain (OpenSpec.ofChange fnExactTurnTextSpec)) fnExactTurnTextCard

/-- THE SECOND FORM's CARD OF 'laws.FnExactCallLine'. -/
def fnExactCallLineUptoCard : Claim7 := { stood := { row := fnExactCallLineUptoRow, standIns := [], harness := (true, "11e31a2d29421c17d827c84018f5b0fa3cae09e58f1cd0100b4f4b7544a31e94"), looks := false }, kinds := [], alts := [], laidByText := true, laidKinds := [.data, .data, .data, .sentinel], laidTests := true, laidLooks := .later }
def FnExactCallLineUptoCardSaid : Prop := Claim7.holds Tryd.pinned (.plain (OpenSpec.upto fnExactCallLineSpec)) fnExactCallLineUptoCard

/-- THE SECOND FORM's CARD OF 'laws.FnExactCallParse'. -/
def fnExactCallParseUptoCard : Claim7 := { stood := { row := fnExactCallParseUptoRow, standIns := [], harness := (true, "11e31a2d29421c17d827c84018f5b0fa3cae09e58f1cd0100b4f4b7544a31e94"), looks := false }, kinds := [], alts := [], laidByText := true, laidKinds := [.data, .data, .data, .sentinel], laidTests := true, laidLooks := .later }
def FnExactCallParseUptoCardSaid : Prop := Claim7.holds Tryd.pinned (.plain (OpenSpec.upto fnExactCallParseSpec)) fnExactCallParseUptoCard

/-- THE SECOND FORM's CARD OF 'laws.FnExactTurnText'. -/
def fnExactTurnTextUptoCard : Claim7 := { stood := { row := fnExactTurnTextUptoRow, standIns := [], harness := (true, "11e31a2d29421c17d827c84018f5b0fa3cae09e58f1cd0100b4f4b7544a31e94"), looks := false }, kinds := [], alts := [], laidByText := true, laidKinds := [.data, .data, .data], laidTests := true, laidLooks := .later }
def FnExactTurnTextUptoCardSaid : Prop := Claim7.holds Tryd.pinned (.plain (OpenSpec.upto fnExactTurnTextSpec)) fnExactTurnTextUptoCard
end Rows
end Go.Proofs.YtpikopdfkhagmaaDoor
