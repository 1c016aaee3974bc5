/-
  No cell of these rows narrows 'for every input' (looked for: loops, veiled, ifaces, maps, wideKeys, modest, calm, conditions, laid).
  DERIVED. THE GIVEN ROWS OF THIS SEAT. 10 by the template 'for every input the law returns true; each argument reads behind the call as it read before'; 0 by the template 'total and deterministic' (their statements: YtdndgacaohmdnaaTotals.lean).
  GIVEN WITH THE SEED: the statements are not yours to turn. If you find one false, say at which input.
  Laid BY PROGRAM, IN A SANDBOX (cutbox-rows.mjs): the forced cells as the released guide's own fill.sh prints them over the translation 6b871740e8cb4144… (all of the seat's roots in one cut). By AI agents, Wed Nov 11 2026. No macro, syntax, notation, axiom, sorry.
-/
import Derived.Test.YtdndgacaohmdnaaChecked
import GoSem.Claim
import GoSem.ClaimJoined
import GoSem.ClaimMapViews
import Derived.JoinedTies
import Derived.KernelRfl
namespace Go.Proofs.Ytdndgacaohmdnaa
/- THE CELL 'sum', in the pinned program and in every row, IS THE sha256 OF THE DUMP (.gsa) THAT YtdndgacaohmdnaaProg.lean LOADS. Nothing in Lean hashes anything: it is a label: what it is worth is what the hold of that sum in a sandbox is worth. -/
noncomputable def Try.pinned : Pinned := { name := "ytdndgacaohmdnaa", sum := "6b871740e8cb41440062cd6c98da7947c4d2d6fb71e558075441fef05922c02b", checked := Try.checked }
namespace Rows
def none {H : Type} : Left H := { results := [], args := [] }

/-- 'laws.FnInClass': WHATEVER THE INPUT: true; the input reads as it did. -/
def fnInClassSpec : ChangeSpec := { name := "fnInClass", fn := fun _ => fun
  | [d] => { results := [.lit (.bool true)], args := [d] }
  | _ => none }
def fnInClassRow : OpenClaim := { program := "ytdndgacaohmdnaa", sum := "6b871740e8cb41440062cd6c98da7947c4d2d6fb71e558075441fef05922c02b", func := "loop.example/g00185/laws.FnInClass", spec := "fnInClass", unfollowed := true, recurses := true, apart := false }
def FnInClassSaid : Prop := fnInClassRow.holds Try.pinned (OpenSpec.ofChange fnInClassSpec)

/-- ITS FALSE NEIGHBOUR: 'it returns false'. Refute it at one input. -/
def fnInClassWrong : ChangeSpec := { name := "fnInClass", fn := fun _ => fun
  | [d] => { results := [.lit (.bool false)], args := [d] }
  | _ => none }
def FnInClassWrongFalsely : Prop := fnInClassRow.holds Try.pinned (OpenSpec.ofChange fnInClassWrong)

/-- 'laws.FnFairSteps': WHATEVER THE INPUT: true; the input reads as it did. -/
def fnFairStepsSpec : ChangeSpec := { name := "fnFairSteps", fn := fun _ => fun
  | [d] => { results := [.lit (.bool true)], args := [d] }
  | _ => none }
def fnFairStepsRow : OpenClaim := { program := "ytdndgacaohmdnaa", sum := "6b871740e8cb41440062cd6c98da7947c4d2d6fb71e558075441fef05922c02b", func := "loop.example/g00185/laws.FnFairSteps", spec := "fnFairSteps", apart := false }
def FnFairStepsSaid : Prop := fnFairStepsRow.holds Try.pinned (OpenSpec.ofChange fnFairStepsSpec)

/-- ITS FALSE NEIGHBOUR: 'it returns false'. Refute it at one input. -/
def fnFairStepsWrong : ChangeSpec := { name := "fnFairSteps", fn := fun _ => fun
  | [d] => { results := [.lit (.bool false)], args := [d] }
  | _ => none }
def FnFairStepsWrongFalsely : Prop := fnFairStepsRow.holds Try.pinned (OpenSpec.ofChange fnFairStepsWrong)

/-- 'laws.FnFloor': WHATEVER THE INPUT: true; the input reads as it did. -/
def fnFloorSpec : ChangeSpec := { name := "fnFloor", fn := fun _ => fun
  | [d] => { results := [.lit (.bool true)], args := [d] }
  | _ => none }
def fnFloorRow : OpenClaim := { program := "ytdndgacaohmdnaa", sum := "6b871740e8cb41440062cd6c98da7947c4d2d6fb71e558075441fef05922c02b", func := "loop.example/g00185/laws.FnFloor", spec := "fnFloor", unfollowed := true, recurses := true, apart := false }
def FnFloorSaid : Prop := fnFloorRow.holds Try.pinned (OpenSpec.ofChange fnFloorSpec)

/-- ITS FALSE NEIGHBOUR: 'it returns false'. Refute it at one input. -/
def fnFloorWrong : ChangeSpec := { name := "fnFloor", fn := fun _ => fun
  | [d] => { results := [.lit (.bool false)], args := [d] }
  | _ => none }
def FnFloorWrongFalsely : Prop := fnFloorRow.holds Try.pinned (OpenSpec.ofChange fnFloorWrong)

/-- 'laws.FnMoved': WHATEVER THE INPUT: true; the input reads as it did. -/
def fnMovedSpec : ChangeSpec := { name := "fnMoved", fn := fun _ => fun
  | [d] => { results := [.lit (.bool true)], args := [d] }
  | _ => none }
def fnMovedRow : OpenClaim := { program := "ytdndgacaohmdnaa", sum := "6b871740e8cb41440062cd6c98da7947c4d2d6fb71e558075441fef05922c02b", func := "loop.example/g00185/laws.FnMoved", spec := "fnMoved", apart := false }
def FnMovedSaid : Prop := fnMovedRow.holds Try.pinned (OpenSpec.ofChange fnMovedSpec)

/-- ITS FALSE NEIGHBOUR: 'it returns false'. Refute it at one input. -/
def fnMovedWrong : ChangeSpec := { name := "fnMoved", fn := fun _ => fun
  | [d] => { results := [.lit (.bool false)], args := [d] }
  | _ => none }
def FnMovedWrongFalsely : Prop := fnMovedRow.holds Try.pinned (OpenSpec.ofChange fnMovedWrong)

/-- 'laws.FnExactFairBefore': WHATEVER THE INPUT: true; the input reads as it did. -/
def fnExactFairBeforeSpec : ChangeSpec := { name := "fnExactFairBefore", fn := fun _ => fun
  | [d1, d2] => { results := [.lit (.bool true)], args := [d1, d2] }
  | _ => none }
def fnExactFairBeforeRow : OpenClaim := { program := "ytdndgacaohmdnaa", sum := "6b871740e8cb41440062cd6c98da7947c4d2d6fb71e558075441fef05922c02b", func := "loop.example/g00185/laws.FnExactFairBefore", spec := "fnExactFairBefore", unfollowed := true, recurses := true, apart := false }
def FnExactFairBeforeSaid : Prop := fnExactFairBeforeRow.holds Try.pinned (OpenSpec.ofChange fnExactFairBeforeSpec)

/-- ITS FALSE NEIGHBOUR: 'it returns false'. Refute it at one input. -/
def fnExactFairBeforeWrong : ChangeSpec := { name := "fnExactFairBefore", fn := fun _ => fun
  | [d1, d2] => { results := [.lit (.bool false)], args := [d1, d2] }
  | _ => none }
def FnExactFairBeforeWrongFalsely : Prop := fnExactFairBeforeRow.holds Try.pinned (OpenSpec.ofChange fnExactFairBeforeWrong)

/-- 'laws.FnExactFairSpend': WHATEVER THE INPUT: true; the input reads as it did. -/
def fnExactFairSpendSpec : ChangeSpec := { name := "fnExactFairSpend", fn := fun _ => fun
  | [d] => { results := [.lit (.bool true)], args := [d] }
  | _ => none }
def fnExactFairSpendRow : OpenClaim := { program := "ytdndgacaohmdnaa", sum := "6b871740e8cb41440062cd6c98da7947c4d2d6fb71e558075441fef05922c02b", func := "loop.example/g00185/laws.FnExactFairSpend", spec := "fnExactFairSpend", apart := false }
def FnExactFairSpendSaid : Prop := fnExactFairSpendRow.holds Try.pinned (OpenSpec.ofChange fnExactFairSpendSpec)

/-- ITS FALSE NEIGHBOUR: 'it returns false'. Refute it at one input. -/
def fnExactFairSpendWrong : ChangeSpec := { name := "fnExactFairSpend", fn := fun _ => fun
  | [d] => { results := [.lit (.bool false)], args := [d] }
  | _ => none }
def FnExactFairSpendWrongFalsely : Prop := fnExactFairSpendRow.holds Try.pinned (OpenSpec.ofChange fnExactFairSpendWrong)

/-- 'laws.FnExactFairWake': WHATEVER THE INPUT: true; the input reads as it did. -/
def fnExactFairWakeSpec : ChangeSpec := { name := "fnExactFairWake", fn := fun _ => fun
  | [d1, d2] => { results := [.lit (.bool true)], args := [d1, d2] }
  | _ => none }
def fnExactFairWakeRow : OpenClaim := { program := "ytdndgacaohmdnaa", sum := "6b871740e8cb41440062cd6c98da7947c4d2d6fb71e558075441fef05922c02b", func := "loop.example/g00185/laws.FnExactFairWake", spec := "fnExactFairWake", apart := false }
def FnExactFairWakeSaid : Prop := fnExactFairWakeRow.holds Try.pinned (OpenSpec.ofChange fnExactFairWakeSpec)

/-- ITS FALSE NEIGHBOUR: 'it returns false'. Refute it at one input. -/
def fnExactFairWakeWrong : ChangeSpec := { name := "fnExactFairWake", fn := fun _ => fun
  | [d1, d2] => { results := [.lit (.bool false)], args := [d1, d2] }
  | _ => none }
def FnExactFairWakeWrongFalsely : Prop := fnExactFairWakeRow.holds Try.pinned (OpenSpec.ofChange fnExactFairWakeWrong)

/-- 'laws.FnExactFairFloor': WHATEVER THE INPUT: true; the input reads as it did. -/
def fnExactFairFloorSpec : ChangeSpec := { name := "fnExactFairFloor", fn := fun _ => fun
  | [d1, d2] => { results := [.lit (.bool true)], args := [d1, d2] }
  | _ => none }
def fnExactFairFloorRow : OpenClaim := { program := "ytdndgacaohmdnaa", sum := "6b871740e8cb41440062cd6c98da7947c4d2d6fb71e558075441fef05922c02b", func := "loop.example/g00185/laws.FnExactFairFloor", spec := "fnExactFairFloor", unfollowed := true, recurses := true, apart := false }
def FnExactFairFloorSaid : Prop := fnExactFairFloorRow.holds Try.pinned (OpenSpec.ofChange fnExactFairFloorSpec)

/-- ITS FALSE NEIGHBOUR: 'it returns false'. Refute it at one input. -/
def fnExactFairFloorWrong : ChangeSpec := { name := "fnExactFairFloor", fn := fun _ => fun
  | [d1, d2] => { results := [.lit (.bool false)], args := [d1, d2] }
  | _ => none }
def FnExactFairFloorWrongFalsely : Prop := fnExactFairFloorRow.holds Try.pinned (OpenSpec.ofChange fnExactFairFloorWrong)

/-- 'laws.FnExactFairMove': WHATEVER THE INPUT: true; the input reads as it did. -/
def fnExactFairMoveSpec : ChangeSpec := { name := "fnExactFairMove", fn := fun _ => fun
  | [d1, d2, d3, d4] => { results := [.lit (.bool true)], args := [d1, d2, d3, d4] }
  | _ => none }
def fnExactFairMoveRow : OpenClaim := { program := "ytdndgacaohmdnaa", sum := "6b871740e8cb41440062cd6c98da7947c4d2d6fb71e558075441fef05922c02b", func := "loop.example/g00185/laws.FnExactFairMove", spec := "fnExactFairMove", apart := false }
def FnExactFairMoveSaid : Prop := fnExactFairMoveRow.holds Try.pinned (OpenSpec.ofChange fnExactFairMoveSpec)

/-- ITS FALSE NEIGHBOUR: 'it returns false'. Refute it at one input. -/
def fnExactFairMoveWrong : ChangeSpec := { name := "fnExactFairMove", fn := fun _ => fun
  | [d1, d2, d3, d4] => { results := [.lit (.bool false)], args := [d1, d2, d3, d4] }
  | _ => none }
def FnExactFairMoveWrongFalsely : Prop := fnExactFairMoveRow.holds Try.pinned (OpenSpec.ofChange fnExactFairMoveWrong)

/-- 'laws.FnExactFairSpread': WHATEVER THE INPUT: true; the input reads as it did. -/
def fnExactFairSpreadSpec : ChangeSpec := { name := "fnExactFairSpread", fn := fun _ => fun
  | [d] => { results := [.lit (.bool true)], args := [d] }
  | _ => none }
def fnExactFairSpreadRow : OpenClaim := { program := "ytdndgacaohmdnaa", sum := "6b871740e8cb41440062cd6c98da7947c4d2d6fb71e558075441fef05922c02b", func := "loop.example/g00185/laws.FnExactFairSpread", spec := "fnExactFairSpread", unfollowed := true, recurses := true, apart := false }
def FnExactFairSpreadSaid : Prop := fnExactFairSpreadRow.holds Try.pinned (OpenSpec.ofChange fnExactFairSpreadSpec)

/-- ITS FALSE NEIGHBOUR: 'it returns false'. Refute it at one input. -/
def fnExactFairSpreadWrong : ChangeSpec := { name := "fnExactFairSpread", fn := fun _ => fun
  | [d] => { results := [.lit (.bool false)], args := [d] }
  | _ => none }
def FnExactFairSpreadWrongFalsely : Prop := fnExactFairSpreadRow.holds Try.pinned (OpenSpec.ofChange fnExactFairSpreadWrong)

/- THE SECOND FORM. 'bulk': how many values and letters a reading holds, each counted each time it is reached (what is shared counts as often as it is met; a slice's spare places count too). A statement '..UptoSaid' is the law's where the arguments, and the package variables that the reading takes, are together of bulk at most 1048576: NARROWER than '..Said'. Prove '..Said' where nothing that the law and all that it calls make is longer than what came in: it says more and counts as full. Else prove '..UptoSaid'. A law counts once. -/
mutual
def uptoBulk {H : Type} : DataW H → Nat
  | .lit (.string bytes) => bytes.length + 1
  | .lit _ => 1
  | .nil => 1
  | .ptr d => uptoBulk d + 1
  | .slice elems spare => uptoBulkAll elems + uptoBulkAll spare + 1
  | .agg parts => uptoBulkAll parts + 1
  | .iface _ d => uptoBulk d + 1
  | .map entries => uptoBulkEntries entries + 1
  | .held _ => 1
def uptoBulkAll {H : Type} : List (DataW H) → Nat
  | [] => 0
  | d :: r => uptoBulk d + uptoBulkAll r
def uptoBulkEntries {H : Type} : List (Lit × DataW H) → Nat
  | [] => 0
  | x :: r => uptoBulkEntry x + uptoBulkEntries r
def uptoBulkEntry {H : Type} : Lit × DataW H → Nat
  | (.string bytes, d) => bytes.length + uptoBulk d + 1
  | (_, d) => uptoBulk d + 1
 end
def uptoSmall : (H : Type) → List (DataW H) → Bool := fun _ ds => decide (uptoBulkAll ds ≤ 1048576)
def OpenSpec.upto (s : _root_.Go.ChangeSpec) : _root_.Go.OpenSpec := { _root_.Go.OpenSpec.ofChange s with cond := some uptoSmall }

/-- 'laws.FnInClass', WHERE WHAT IT READS IS OF BULK AT MOST 1048576: true; the input reads as it did. -/
def fnInClassUptoRow : OpenClaim := { program := "ytdndgacaohmdnaa", sum := "6b871740e8cb41440062cd6c98da7947c4d2d6fb71e558075441fef05922c02b", func := "loop.example/g00185/laws.FnInClass", spec := "fnInClass", unfollowed := true, recurses := true, apart := false, narrowed := true }
def FnInClassUptoSaid : Prop := fnInClassUptoRow.holds Try.pinned (OpenSpec.upto fnInClassSpec)

/-- 'laws.FnFairSteps', WHERE WHAT IT READS IS OF BULK AT MOST 1048576: true; the input reads as it did. -/
def fnFairStepsUptoRow : OpenClaim := { program := "ytdndgacaohmdnaa", sum := "6b871740e8cb41440062cd6c98da7947c4d2d6fb71e558075441fef05922c02b", func := "loop.example/g00185/laws.FnFairSteps", spec := "fnFairSteps", apart := false, narrowed := true }
def FnFairStepsUptoSaid : Prop := fnFairStepsUptoRow.holds Try.pinned (OpenSpec.upto fnFairStepsSpec)

/-- 'laws.FnFloor', WHERE WHAT IT READS IS OF BULK AT MOST 1048576: true; the input reads as it did. -/
def fnFloorUptoRow : OpenClaim := { program := "ytdndgacaohmdnaa", sum := "6b871740e8cb41440062cd6c98da7947c4d2d6fb71e558075441fef05922c02b", func := "loop.example/g00185/laws.FnFloor", spec := "fnFloor", unfollowed := true, recurses := true, apart := false, narrowed := true }
def FnFloorUptoSaid : Prop := fnFloorUptoRow.holds Try.pinned (OpenSpec.upto fnFloorSpec)

/-- 'laws.FnMoved', WHERE WHAT IT READS IS OF BULK AT MOST 1048576: true; the input reads as it did. -/
def fnMovedUptoRow : OpenClaim := { program := "ytdndgacaohmdnaa", sum := "6b871740e8cb41440062cd6c98da7947c4d2d6fb71e558075441fef05922c02b", func := "loop.example/g00185/laws.FnMoved", spec := "fnMoved", apart := false, narrowed := true }
def FnMovedUptoSaid : Prop := fnMovedUptoRow.holds Try.pinned (OpenSpec.upto fnMovedSpec)

/-- 'laws.FnExactFairBefore', WHERE WHAT IT READS IS OF BULK AT MOST 1048576: true; the input reads as it did. -/
def fnExactFairBeforeUptoRow : OpenClaim := { program := "ytdndgacaohmdnaa", sum := "6b871740e8cb41440062cd6c98da7947c4d2d6fb71e558075441fef05922c02b", func := "loop.example/g00185/laws.FnExactFairBefore", spec := "fnExactFairBefore", unfollowed := true, recurses := true, apart := false, narrowed := true }
def FnExactFairBeforeUptoSaid : Prop := fnExactFairBeforeUptoRow.holds Try.pinned (OpenSpec.upto fnExactFairBeforeSpec)

/-- 'laws.FnExactFairSpend', WHERE WHAT IT READS IS OF BULK AT MOST 1048576: true; the input reads as it did. -/
def fnExactFairSpendUptoRow : OpenClaim := { program := "ytdndgacaohmdnaa", sum := "6b871740e8cb41440062cd6c98da7947c4d2d6fb71e558075441fef05922c02b", func := "loop.example/g00185/laws.FnExactFairSpend", spec := "fnExactFairSpend", apart := false, narrowed := true }
def FnExactFairSpendUptoSaid : Prop := fnExactFairSpendUptoRow.holds Try.pinned (OpenSpec.upto fnExactFairSpendSpec)

/-- 'laws.FnExactFairWake', WHERE WHAT IT READS IS OF BULK AT MOST 1048576: true; the input reads as it did. -/
def fnExactFairWakeUptoRow : OpenClaim := { program := "ytdndgacaohmdnaa", sum := "6b871740e8cb41440062cd6c98da7947c4d2d6fb71e558075441fef05922c02b", func := "loop.example/g00185/laws.FnExactFairWake", spec := "fnExactFairWake", apart := false, narrowed := true }
def FnExactFairWakeUptoSaid : Prop := fnExactFairWakeUptoRow.holds Try.pinned (OpenSpec.upto fnExactFairWakeSpec)

/-- 'laws.FnExactFairFloor', WHERE WHAT IT READS IS OF BULK AT MOST 1048576: true; the input reads as it did. -/
def fnExactFairFloorUptoRow : OpenClaim := { program := "ytdndgacaohmdnaa", sum := "6b871740e8cb41440062cd6c98da7947c4d2d6fb71e558075441fef05922c02b", func := "loop.example/g00185/laws.FnExactFairFloor", spec := "fnExactFairFloor", unfollowed := true, recurses := true, apart := false, narrowed := true }
def FnExactFairFloorUptoSaid : Prop := fnExactFairFloorUptoRow.holds Try.pinned (OpenSpec.upto fnExactFairFloorSpec)

/-- 'laws.FnExactFairMove', WHERE WHAT IT READS IS OF BULK AT MOST 1048576: true; the input reads as it did. -/
def fnExactFairMoveUptoRow : OpenClaim := { program := "ytdndgacaohmdnaa", sum := "6b871740e8cb41440062cd6c98da7947c4d2d6fb71e558075441fef05922c02b", func := "loop.example/g00185/laws.FnExactFairMove", spec := "fnExactFairMove", apart := false, narrowed := true }
def FnExactFairMoveUptoSaid : Prop := fnExactFairMoveUptoRow.holds Try.pinned (OpenSpec.upto fnExactFairMoveSpec)

/-- 'laws.FnExactFairSpread', WHERE WHAT IT READS IS OF BULK AT MOST 1048576: true; the input reads as it did. -/
def fnExactFairSpreadUptoRow : OpenClaim := { program := "ytdndgacaohmdnaa", sum := "6b871740e8cb41440062cd6c98da7947c4d2d6fb71e558075441fef05922c02b", func := "loop.example/g00185/laws.FnExactFairSpread", spec := "fnExactFairSpread", unfollowed := true, recurses := true, apart := false, narrowed := true }
def FnExactFairSpreadUptoSaid : Prop := fnExactFairSpreadUptoRow.holds Try.pinned (OpenSpec.upto fnExactFairSpreadSpec)

end Rows
end Go.Proofs.Ytdndgacaohmdnaa
