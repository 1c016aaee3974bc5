/-
  No cell of these rows narrows 'for every input' (looked for: loops, veiled, ifaces, maps, wideKeys, modest, calm, conditions, laid).
  DERIVED. THE GIVEN ROWS OF THIS SEAT. 17 by the template 'for every input the law returns true; each argument reads behind the call as it read before'; 0 by the template 'total and deterministic' (their statements: YtmdpngahofeliaaTotals.lean).
  GIVEN WITH THE SEED: the statements are not yours to turn. If you find one false, say at which input.
  Laid BY PROGRAM, IN A SANDBOX (cutbox-rows.mjs): the forced cells as the released guide's own fill.sh prints them over the translation 81ada617eed7c6ff… (all of the seat's roots in one cut). By AI agents, Wed Nov 11 2026. No macro, syntax, notation, axiom, sorry.
-/
import Derived.Test.YtmdpngahofeliaaChecked
import GoSem.Claim
import GoSem.ClaimJoined
import GoSem.ClaimMapViews
import Derived.JoinedTies
import Derived.KernelRfl
namespace Go.Proofs.Ytmdpngahofeliaa
/- THE CELL 'sum', in the pinned program and in every row, IS THE sha256 OF THE DUMP (.gsa) THAT YtmdpngahofeliaaProg.lean LOADS. Nothing in Lean hashes anything: it is a label: what it is worth is what the hold of that sum in a sandbox is worth. -/
noncomputable def Try.pinned : Pinned := { name := "ytmdpngahofeliaa", sum := "81ada617eed7c6fff5edb144fd68beda5c6fcee6e362efdb5995c0a37ab2fafe", checked := Try.checked }
namespace Rows
def none {H : Type} : Left H := { results := [], args := [] }

/-- 'laws.FnExactTaskOk': WHATEVER THE INPUT: true; the input reads as it did. -/
def fnExactTaskOkSpec : ChangeSpec := { name := "fnExactTaskOk", fn := fun _ => fun
  | [d] => { results := [.lit (.bool true)], args := [d] }
  | _ => none }
def fnExactTaskOkRow : OpenClaim := { program := "ytmdpngahofeliaa", sum := "81ada617eed7c6fff5edb144fd68beda5c6fcee6e362efdb5995c0a37ab2fafe", func := "loop.example/g00185/laws.FnExactTaskOk", spec := "fnExactTaskOk", apart := false }
def FnExactTaskOkSaid : Prop := fnExactTaskOkRow.holds Try.pinned (OpenSpec.ofChange fnExactTaskOkSpec)

/-- ITS FALSE NEIGHBOUR: 'it returns false'. Refute it at one input. -/
def fnExactTaskOkWrong : ChangeSpec := { name := "fnExactTaskOk", fn := fun _ => fun
  | [d] => { results := [.lit (.bool false)], args := [d] }
  | _ => none }
def FnExactTaskOkWrongFalsely : Prop := fnExactTaskOkRow.holds Try.pinned (OpenSpec.ofChange fnExactTaskOkWrong)

/-- 'laws.FnExactNewDue': WHATEVER THE INPUT: true; the input reads as it did. -/
def fnExactNewDueSpec : ChangeSpec := { name := "fnExactNewDue", fn := fun _ => fun
  | [d1, d2, d3, d4, d5] => { results := [.lit (.bool true)], args := [d1, d2, d3, d4, d5] }
  | _ => none }
def fnExactNewDueRow : OpenClaim := { program := "ytmdpngahofeliaa", sum := "81ada617eed7c6fff5edb144fd68beda5c6fcee6e362efdb5995c0a37ab2fafe", func := "loop.example/g00185/laws.FnExactNewDue", spec := "fnExactNewDue", apart := false }
def FnExactNewDueSaid : Prop := fnExactNewDueRow.holds Try.pinned (OpenSpec.ofChange fnExactNewDueSpec)

/-- ITS FALSE NEIGHBOUR: 'it returns false'. Refute it at one input. -/
def fnExactNewDueWrong : ChangeSpec := { name := "fnExactNewDue", fn := fun _ => fun
  | [d1, d2, d3, d4, d5] => { results := [.lit (.bool false)], args := [d1, d2, d3, d4, d5] }
  | _ => none }
def FnExactNewDueWrongFalsely : Prop := fnExactNewDueRow.holds Try.pinned (OpenSpec.ofChange fnExactNewDueWrong)

/-- 'laws.FnExactNewFixed': WHATEVER THE INPUT: true; the input reads as it did. -/
def fnExactNewFixedSpec : ChangeSpec := { name := "fnExactNewFixed", fn := fun _ => fun
  | [d1, d2, d3, d4, d5] => { results := [.lit (.bool true)], args := [d1, d2, d3, d4, d5] }
  | _ => none }
def fnExactNewFixedRow : OpenClaim := { program := "ytmdpngahofeliaa", sum := "81ada617eed7c6fff5edb144fd68beda5c6fcee6e362efdb5995c0a37ab2fafe", func := "loop.example/g00185/laws.FnExactNewFixed", spec := "fnExactNewFixed", apart := false }
def FnExactNewFixedSaid : Prop := fnExactNewFixedRow.holds Try.pinned (OpenSpec.ofChange fnExactNewFixedSpec)

/-- ITS FALSE NEIGHBOUR: 'it returns false'. Refute it at one input. -/
def fnExactNewFixedWrong : ChangeSpec := { name := "fnExactNewFixed", fn := fun _ => fun
  | [d1, d2, d3, d4, d5] => { results := [.lit (.bool false)], args := [d1, d2, d3, d4, d5] }
  | _ => none }
def FnExactNewFixedWrongFalsely : Prop := fnExactNewFixedRow.holds Try.pinned (OpenSpec.ofChange fnExactNewFixedWrong)

/-- 'laws.FnExactNewFair': WHATEVER THE INPUT: true; the input reads as it did. -/
def fnExactNewFairSpec : ChangeSpec := { name := "fnExactNewFair", fn := fun _ => fun
  | [d1, d2, d3, d4] => { results := [.lit (.bool true)], args := [d1, d2, d3, d4] }
  | _ => none }
def fnExactNewFairRow : OpenClaim := { program := "ytmdpngahofeliaa", sum := "81ada617eed7c6fff5edb144fd68beda5c6fcee6e362efdb5995c0a37ab2fafe", func := "loop.example/g00185/laws.FnExactNewFair", spec := "fnExactNewFair", apart := false }
def FnExactNewFairSaid : Prop := fnExactNewFairRow.holds Try.pinned (OpenSpec.ofChange fnExactNewFairSpec)

/-- ITS FALSE NEIGHBOUR: 'it returns false'. Refute it at one input. -/
def fnExactNewFairWrong : ChangeSpec := { name := "fnExactNewFair", fn := fun _ => fun
  | [d1, d2, d3, d4] => { results := [.lit (.bool false)], args := [d1, d2, d3, d4] }
  | _ => none }
def FnExactNewFairWrongFalsely : Prop := fnExactNewFairRow.holds Try.pinned (OpenSpec.ofChange fnExactNewFairWrong)

/-- 'laws.FnExactTaskAt': WHATEVER THE INPUT: true; the input reads as it did. -/
def fnExactTaskAtSpec : ChangeSpec := { name := "fnExactTaskAt", fn := fun _ => fun
  | [d1, d2] => { results := [.lit (.bool true)], args := [d1, d2] }
  | _ => none }
def fnExactTaskAtRow : OpenClaim := { program := "ytmdpngahofeliaa", sum := "81ada617eed7c6fff5edb144fd68beda5c6fcee6e362efdb5995c0a37ab2fafe", func := "loop.example/g00185/laws.FnExactTaskAt", spec := "fnExactTaskAt", apart := false }
def FnExactTaskAtSaid : Prop := fnExactTaskAtRow.holds Try.pinned (OpenSpec.ofChange fnExactTaskAtSpec)

/-- ITS FALSE NEIGHBOUR: 'it returns false'. Refute it at one input. -/
def fnExactTaskAtWrong : ChangeSpec := { name := "fnExactTaskAt", fn := fun _ => fun
  | [d1, d2] => { results := [.lit (.bool false)], args := [d1, d2] }
  | _ => none }
def FnExactTaskAtWrongFalsely : Prop := fnExactTaskAtRow.holds Try.pinned (OpenSpec.ofChange fnExactTaskAtWrong)

/-- 'laws.FnExactTasksOk': WHATEVER THE INPUT: true; the input reads as it did. -/
def fnExactTasksOkSpec : ChangeSpec := { name := "fnExactTasksOk", fn := fun _ => fun
  | [d] => { results := [.lit (.bool true)], args := [d] }
  | _ => none }
def fnExactTasksOkRow : OpenClaim := { program := "ytmdpngahofeliaa", sum := "81ada617eed7c6fff5edb144fd68beda5c6fcee6e362efdb5995c0a37ab2fafe", func := "loop.example/g00185/laws.FnExactTasksOk", spec := "fnExactTasksOk", apart := false }
def FnExactTasksOkSaid : Prop := fnExactTasksOkRow.holds Try.pinned (OpenSpec.ofChange fnExactTasksOkSpec)

/-- ITS FALSE NEIGHBOUR: 'it returns false'. Refute it at one input. -/
def fnExactTasksOkWrong : ChangeSpec := { name := "fnExactTasksOk", fn := fun _ => fun
  | [d] => { results := [.lit (.bool false)], args := [d] }
  | _ => none }
def FnExactTasksOkWrongFalsely : Prop := fnExactTasksOkRow.holds Try.pinned (OpenSpec.ofChange fnExactTasksOkWrong)

/-- 'laws.FnExactTaskPut': WHATEVER THE INPUT: true; the input reads as it did. -/
def fnExactTaskPutSpec : ChangeSpec := { name := "fnExactTaskPut", fn := fun _ => fun
  | [d1, d2] => { results := [.lit (.bool true)], args := [d1, d2] }
  | _ => none }
def fnExactTaskPutRow : OpenClaim := { program := "ytmdpngahofeliaa", sum := "81ada617eed7c6fff5edb144fd68beda5c6fcee6e362efdb5995c0a37ab2fafe", func := "loop.example/g00185/laws.FnExactTaskPut", spec := "fnExactTaskPut", apart := false }
def FnExactTaskPutSaid : Prop := fnExactTaskPutRow.holds Try.pinned (OpenSpec.ofChange fnExactTaskPutSpec)

/-- ITS FALSE NEIGHBOUR: 'it returns false'. Refute it at one input. -/
def fnExactTaskPutWrong : ChangeSpec := { name := "fnExactTaskPut", fn := fun _ => fun
  | [d1, d2] => { results := [.lit (.bool false)], args := [d1, d2] }
  | _ => none }
def FnExactTaskPutWrongFalsely : Prop := fnExactTaskPutRow.holds Try.pinned (OpenSpec.ofChange fnExactTaskPutWrong)

/-- 'laws.FnNewTasks': WHATEVER THE INPUT: true; the input reads as it did. -/
def fnNewTasksSpec : ChangeSpec := { name := "fnNewTasks", fn := fun _ => fun
  | [d] => { results := [.lit (.bool true)], args := [d] }
  | _ => none }
def fnNewTasksRow : OpenClaim := { program := "ytmdpngahofeliaa", sum := "81ada617eed7c6fff5edb144fd68beda5c6fcee6e362efdb5995c0a37ab2fafe", func := "loop.example/g00185/laws.FnNewTasks", spec := "fnNewTasks", apart := false }
def FnNewTasksSaid : Prop := fnNewTasksRow.holds Try.pinned (OpenSpec.ofChange fnNewTasksSpec)

/-- ITS FALSE NEIGHBOUR: 'it returns false'. Refute it at one input. -/
def fnNewTasksWrong : ChangeSpec := { name := "fnNewTasks", fn := fun _ => fun
  | [d] => { results := [.lit (.bool false)], args := [d] }
  | _ => none }
def FnNewTasksWrongFalsely : Prop := fnNewTasksRow.holds Try.pinned (OpenSpec.ofChange fnNewTasksWrong)

/-- 'laws.FnTasks': WHATEVER THE INPUT: true; the input reads as it did. -/
def fnTasksSpec : ChangeSpec := { name := "fnTasks", fn := fun _ => fun
  | [d] => { results := [.lit (.bool true)], args := [d] }
  | _ => none }
def fnTasksRow : OpenClaim := { program := "ytmdpngahofeliaa", sum := "81ada617eed7c6fff5edb144fd68beda5c6fcee6e362efdb5995c0a37ab2fafe", func := "loop.example/g00185/laws.FnTasks", spec := "fnTasks", apart := false }
def FnTasksSaid : Prop := fnTasksRow.holds Try.pinned (OpenSpec.ofChange fnTasksSpec)

/-- ITS FALSE NEIGHBOUR: 'it returns false'. Refute it at one input. -/
def fnTasksWrong : ChangeSpec := { name := "fnTasks", fn := fun _ => fun
  | [d] => { results := [.lit (.bool false)], args := [d] }
  | _ => none }
def FnTasksWrongFalsely : Prop := fnTasksRow.holds Try.pinned (OpenSpec.ofChange fnTasksWrong)

/-- 'laws.FnExactDueWake': WHATEVER THE INPUT: true; the input reads as it did. -/
def fnExactDueWakeSpec : ChangeSpec := { name := "fnExactDueWake", fn := fun _ => fun
  | [d1, d2] => { results := [.lit (.bool true)], args := [d1, d2] }
  | _ => none }
def fnExactDueWakeRow : OpenClaim := { program := "ytmdpngahofeliaa", sum := "81ada617eed7c6fff5edb144fd68beda5c6fcee6e362efdb5995c0a37ab2fafe", func := "loop.example/g00185/laws.FnExactDueWake", spec := "fnExactDueWake", apart := false }
def FnExactDueWakeSaid : Prop := fnExactDueWakeRow.holds Try.pinned (OpenSpec.ofChange fnExactDueWakeSpec)

/-- ITS FALSE NEIGHBOUR: 'it returns false'. Refute it at one input. -/
def fnExactDueWakeWrong : ChangeSpec := { name := "fnExactDueWake", fn := fun _ => fun
  | [d1, d2] => { results := [.lit (.bool false)], args := [d1, d2] }
  | _ => none }
def FnExactDueWakeWrongFalsely : Prop := fnExactDueWakeRow.holds Try.pinned (OpenSpec.ofChange fnExactDueWakeWrong)

/-- 'laws.FnExactDueRenew': WHATEVER THE INPUT: true; the input reads as it did. -/
def fnExactDueRenewSpec : ChangeSpec := { name := "fnExactDueRenew", fn := fun _ => fun
  | [d1, d2] => { results := [.lit (.bool true)], args := [d1, d2] }
  | _ => none }
def fnExactDueRenewRow : OpenClaim := { program := "ytmdpngahofeliaa", sum := "81ada617eed7c6fff5edb144fd68beda5c6fcee6e362efdb5995c0a37ab2fafe", func := "loop.example/g00185/laws.FnExactDueRenew", spec := "fnExactDueRenew", apart := false }
def FnExactDueRenewSaid : Prop := fnExactDueRenewRow.holds Try.pinned (OpenSpec.ofChange fnExactDueRenewSpec)

/-- ITS FALSE NEIGHBOUR: 'it returns false'. Refute it at one input. -/
def fnExactDueRenewWrong : ChangeSpec := { name := "fnExactDueRenew", fn := fun _ => fun
  | [d1, d2] => { results := [.lit (.bool false)], args := [d1, d2] }
  | _ => none }
def FnExactDueRenewWrongFalsely : Prop := fnExactDueRenewRow.holds Try.pinned (OpenSpec.ofChange fnExactDueRenewWrong)

/-- 'laws.FnExactDueSpend': WHATEVER THE INPUT: true; the input reads as it did. -/
def fnExactDueSpendSpec : ChangeSpec := { name := "fnExactDueSpend", fn := fun _ => fun
  | [d] => { results := [.lit (.bool true)], args := [d] }
  | _ => none }
def fnExactDueSpendRow : OpenClaim := { program := "ytmdpngahofeliaa", sum := "81ada617eed7c6fff5edb144fd68beda5c6fcee6e362efdb5995c0a37ab2fafe", func := "loop.example/g00185/laws.FnExactDueSpend", spec := "fnExactDueSpend", apart := false }
def FnExactDueSpendSaid : Prop := fnExactDueSpendRow.holds Try.pinned (OpenSpec.ofChange fnExactDueSpendSpec)

/-- ITS FALSE NEIGHBOUR: 'it returns false'. Refute it at one input. -/
def fnExactDueSpendWrong : ChangeSpec := { name := "fnExactDueSpend", fn := fun _ => fun
  | [d] => { results := [.lit (.bool false)], args := [d] }
  | _ => none }
def FnExactDueSpendWrongFalsely : Prop := fnExactDueSpendRow.holds Try.pinned (OpenSpec.ofChange fnExactDueSpendWrong)

/-- 'laws.FnExactDueBefore': WHATEVER THE INPUT: true; the input reads as it did. -/
def fnExactDueBeforeSpec : ChangeSpec := { name := "fnExactDueBefore", fn := fun _ => fun
  | [d1, d2] => { results := [.lit (.bool true)], args := [d1, d2] }
  | _ => none }
def fnExactDueBeforeRow : OpenClaim := { program := "ytmdpngahofeliaa", sum := "81ada617eed7c6fff5edb144fd68beda5c6fcee6e362efdb5995c0a37ab2fafe", func := "loop.example/g00185/laws.FnExactDueBefore", spec := "fnExactDueBefore", unfollowed := true, recurses := true, apart := false }
def FnExactDueBeforeSaid : Prop := fnExactDueBeforeRow.holds Try.pinned (OpenSpec.ofChange fnExactDueBeforeSpec)

/-- ITS FALSE NEIGHBOUR: 'it returns false'. Refute it at one input. -/
def fnExactDueBeforeWrong : ChangeSpec := { name := "fnExactDueBefore", fn := fun _ => fun
  | [d1, d2] => { results := [.lit (.bool false)], args := [d1, d2] }
  | _ => none }
def FnExactDueBeforeWrongFalsely : Prop := fnExactDueBeforeRow.holds Try.pinned (OpenSpec.ofChange fnExactDueBeforeWrong)

/-- 'laws.FnExactDueShare': WHATEVER THE INPUT: true; the input reads as it did. -/
def fnExactDueShareSpec : ChangeSpec := { name := "fnExactDueShare", fn := fun _ => fun
  | [d] => { results := [.lit (.bool true)], args := [d] }
  | _ => none }
def fnExactDueShareRow : OpenClaim := { program := "ytmdpngahofeliaa", sum := "81ada617eed7c6fff5edb144fd68beda5c6fcee6e362efdb5995c0a37ab2fafe", func := "loop.example/g00185/laws.FnExactDueShare", spec := "fnExactDueShare", apart := false }
def FnExactDueShareSaid : Prop := fnExactDueShareRow.holds Try.pinned (OpenSpec.ofChange fnExactDueShareSpec)

/-- ITS FALSE NEIGHBOUR: 'it returns false'. Refute it at one input. -/
def fnExactDueShareWrong : ChangeSpec := { name := "fnExactDueShare", fn := fun _ => fun
  | [d] => { results := [.lit (.bool false)], args := [d] }
  | _ => none }
def FnExactDueShareWrongFalsely : Prop := fnExactDueShareRow.holds Try.pinned (OpenSpec.ofChange fnExactDueShareWrong)

/-- 'laws.FnWoken': WHATEVER THE INPUT: true; the input reads as it did. -/
def fnWokenSpec : ChangeSpec := { name := "fnWoken", fn := fun _ => fun
  | [d] => { results := [.lit (.bool true)], args := [d] }
  | _ => none }
def fnWokenRow : OpenClaim := { program := "ytmdpngahofeliaa", sum := "81ada617eed7c6fff5edb144fd68beda5c6fcee6e362efdb5995c0a37ab2fafe", func := "loop.example/g00185/laws.FnWoken", spec := "fnWoken", apart := false }
def FnWokenSaid : Prop := fnWokenRow.holds Try.pinned (OpenSpec.ofChange fnWokenSpec)

/-- ITS FALSE NEIGHBOUR: 'it returns false'. Refute it at one input. -/
def fnWokenWrong : ChangeSpec := { name := "fnWoken", fn := fun _ => fun
  | [d] => { results := [.lit (.bool false)], args := [d] }
  | _ => none }
def FnWokenWrongFalsely : Prop := fnWokenRow.holds Try.pinned (OpenSpec.ofChange fnWokenWrong)

/-- 'laws.FnRenewed': WHATEVER THE INPUT: true; the input reads as it did. -/
def fnRenewedSpec : ChangeSpec := { name := "fnRenewed", fn := fun _ => fun
  | [d] => { results := [.lit (.bool true)], args := [d] }
  | _ => none }
def fnRenewedRow : OpenClaim := { program := "ytmdpngahofeliaa", sum := "81ada617eed7c6fff5edb144fd68beda5c6fcee6e362efdb5995c0a37ab2fafe", func := "loop.example/g00185/laws.FnRenewed", spec := "fnRenewed", apart := false }
def FnRenewedSaid : Prop := fnRenewedRow.holds Try.pinned (OpenSpec.ofChange fnRenewedSpec)

/-- ITS FALSE NEIGHBOUR: 'it returns false'. Refute it at one input. -/
def fnRenewedWrong : ChangeSpec := { name := "fnRenewed", fn := fun _ => fun
  | [d] => { results := [.lit (.bool false)], args := [d] }
  | _ => none }
def FnRenewedWrongFalsely : Prop := fnRenewedRow.holds Try.pinned (OpenSpec.ofChange fnRenewedWrong)

/-- 'laws.FnSpent': WHATEVER THE INPUT: true; the input reads as it did. -/
def fnSpentSpec : ChangeSpec := { name := "fnSpent", fn := fun _ => fun
  | [d] => { results := [.lit (.bool true)], args := [d] }
  | _ => none }
def fnSpentRow : OpenClaim := { program := "ytmdpngahofeliaa", sum := "81ada617eed7c6fff5edb144fd68beda5c6fcee6e362efdb5995c0a37ab2fafe", func := "loop.example/g00185/laws.FnSpent", spec := "fnSpent", apart := false }
def FnSpentSaid : Prop := fnSpentRow.holds Try.pinned (OpenSpec.ofChange fnSpentSpec)

/-- ITS FALSE NEIGHBOUR: 'it returns false'. Refute it at one input. -/
def fnSpentWrong : ChangeSpec := { name := "fnSpent", fn := fun _ => fun
  | [d] => { results := [.lit (.bool false)], args := [d] }
  | _ => none }
def FnSpentWrongFalsely : Prop := fnSpentRow.holds Try.pinned (OpenSpec.ofChange fnSpentWrong)

/- THE SECOND FORM. 'bulk': how many values and letters a reading holds, each counted each time it is reached (what is shared counts as often as it is met; a slice's spare places count too). A statement '..UptoSaid' is the law's where the arguments, and the package variables that the reading takes, are together of bulk at most 1048576: NARROWER than '..Said'. Prove '..Said' where nothing that the law and all that it calls make is longer than what came in: it says more and counts as full. Else prove '..UptoSaid'. A law counts once. -/
mutual
def uptoBulk {H : Type} : DataW H → Nat
  | .lit (.string bytes) => bytes.length + 1
  | .lit _ => 1
  | .nil => 1
  | .ptr d => uptoBulk d + 1
  | .slice elems spare => uptoBulkAll elems + uptoBulkAll spare + 1
  | .agg parts => uptoBulkAll parts + 1
  | .iface _ d => uptoBulk d + 1
  | .map entries => uptoBulkEntries entries + 1
  | .held _ => 1
def uptoBulkAll {H : Type} : List (DataW H) → Nat
  | [] => 0
  | d :: r => uptoBulk d + uptoBulkAll r
def uptoBulkEntries {H : Type} : List (Lit × DataW H) → Nat
  | [] => 0
  | x :: r => uptoBulkEntry x + uptoBulkEntries r
def uptoBulkEntry {H : Type} : Lit × DataW H → Nat
  | (.string bytes, d) => bytes.length + uptoBulk d + 1
  | (_, d) => uptoBulk d + 1
 end
def uptoSmall : (H : Type) → List (DataW H) → Bool := fun _ ds => decide (uptoBulkAll ds ≤ 1048576)
def OpenSpec.upto (s : _root_.Go.ChangeSpec) : _root_.Go.OpenSpec := { _root_.Go.OpenSpec.ofChange s with cond := some uptoSmall }

/-- 'laws.FnExactTaskOk', WHERE WHAT IT READS IS OF BULK AT MOST 1048576: true; the input reads as it did. -/
def fnExactTaskOkUptoRow : OpenClaim := { program := "ytmdpngahofeliaa", sum := "81ada617eed7c6fff5edb144fd68beda5c6fcee6e362efdb5995c0a37ab2fafe", func := "loop.example/g00185/laws.FnExactTaskOk", spec := "fnExactTaskOk", apart := false, narrowed := true }
def FnExactTaskOkUptoSaid : Prop := fnExactTaskOkUptoRow.holds Try.pinned (OpenSpec.upto fnExactTaskOkSpec)

/-- 'laws.FnExactNewDue', WHERE WHAT IT READS IS OF BULK AT MOST 1048576: true; the input reads as it did. -/
def fnExactNewDueUptoRow : OpenClaim := { program := "ytmdpngahofeliaa", sum := "81ada617eed7c6fff5edb144fd68beda5c6fcee6e362efdb5995c0a37ab2fafe", func := "loop.example/g00185/laws.FnExactNewDue", spec := "fnExactNewDue", apart := false, narrowed := true }
def FnExactNewDueUptoSaid : Prop := fnExactNewDueUptoRow.holds Try.pinned (OpenSpec.upto fnExactNewDueSpec)

/-- 'laws.FnExactNewFixed', WHERE WHAT IT READS IS OF BULK AT MOST 1048576: true; the input reads as it did. -/
def fnExactNewFixedUptoRow : OpenClaim := { program := "ytmdpngahofeliaa", sum := "81ada617eed7c6fff5edb144fd68beda5c6fcee6e362efdb5995c0a37ab2fafe", func := "loop.example/g00185/laws.FnExactNewFixed", spec := "fnExactNewFixed", apart := false, narrowed := true }
def FnExactNewFixedUptoSaid : Prop := fnExactNewFixedUptoRow.holds Try.pinned (OpenSpec.upto fnExactNewFixedSpec)

/-- 'laws.FnExactNewFair', WHERE WHAT IT READS IS OF BULK AT MOST 1048576: true; the input reads as it did. -/
def fnExactNewFairUptoRow : OpenClaim := { program := "ytmdpngahofeliaa", sum := "81ada617eed7c6fff5edb144fd68beda5c6fcee6e362efdb5995c0a37ab2fafe", func := "loop.example/g00185/laws.FnExactNewFair", spec := "fnExactNewFair", apart := false, narrowed := true }
def FnExactNewFairUptoSaid : Prop := fnExactNewFairUptoRow.holds Try.pinned (OpenSpec.upto fnExactNewFairSpec)

/-- 'laws.FnExactTaskAt', WHERE WHAT IT READS IS OF BULK AT MOST 1048576: true; the input reads as it did. -/
def fnExactTaskAtUptoRow : OpenClaim := { program := "ytmdpngahofeliaa", sum := "81ada617eed7c6fff5edb144fd68beda5c6fcee6e362efdb5995c0a37ab2fafe", func := "loop.example/g00185/laws.FnExactTaskAt", spec := "fnExactTaskAt", apart := false, narrowed := true }
def FnExactTaskAtUptoSaid : Prop := fnExactTaskAtUptoRow.holds Try.pinned (OpenSpec.upto fnExactTaskAtSpec)

/-- 'laws.FnExactTasksOk', WHERE WHAT IT READS IS OF BULK AT MOST 1048576: true; the input reads as it did. -/
def fnExactTasksOkUptoRow : OpenClaim := { program := "ytmdpngahofeliaa", sum := "81ada617eed7c6fff5edb144fd68beda5c6fcee6e362efdb5995c0a37ab2fafe", func := "loop.example/g00185/laws.FnExactTasksOk", spec := "fnExactTasksOk", apart := false, narrowed := true }
def FnExactTasksOkUptoSaid : Prop := fnExactTasksOkUptoRow.holds Try.pinned (OpenSpec.upto fnExactTasksOkSpec)

/-- 'laws.FnExactTaskPut', WHERE WHAT IT READS IS OF BULK AT MOST 1048576: true; the input reads as it did. -/
def fnExactTaskPutUptoRow : OpenClaim := { program := "ytmdpngahofeliaa", sum := "81ada617eed7c6fff5edb144fd68beda5c6fcee6e362efdb5995c0a37ab2fafe", func := "loop.example/g00185/laws.FnExactTaskPut", spec := "fnExactTaskPut", apart := false, narrowed := true }
def FnExactTaskPutUptoSaid : Prop := fnExactTaskPutUptoRow.holds Try.pinned (OpenSpec.upto fnExactTaskPutSpec)

/-- 'laws.FnNewTasks', WHERE WHAT IT READS IS OF BULK AT MOST 1048576: true; the input reads as it did. -/
def fnNewTasksUptoRow : OpenClaim := { program := "ytmdpngahofeliaa", sum := "81ada617eed7c6fff5edb144fd68beda5c6fcee6e362efdb5995c0a37ab2fafe", func := "loop.example/g00185/laws.FnNewTasks", spec := "fnNewTasks", apart := false, narrowed := true }
def FnNewTasksUptoSaid : Prop := fnNewTasksUptoRow.holds Try.pinned (OpenSpec.upto fnNewTasksSpec)

/-- 'laws.FnTasks', WHERE WHAT IT READS IS OF BULK AT MOST 1048576: true; the input reads as it did. -/
def fnTasksUptoRow : OpenClaim := { program := "ytmdpngahofeliaa", sum := "81ada617eed7c6fff5edb144fd68beda5c6fcee6e362efdb5995c0a37ab2fafe", func := "loop.example/g00185/laws.FnTasks", spec := "fnTasks", apart := false, narrowed := true }
def FnTasksUptoSaid : Prop := fnTasksUptoRow.holds Try.pinned (OpenSpec.upto fnTasksSpec)

/-- 'laws.FnExactDueWake', WHERE WHAT IT READS IS OF BULK AT MOST 1048576: true; the input reads as it did. -/
def fnExactDueWakeUptoRow : OpenClaim := { program := "ytmdpngahofeliaa", sum := "81ada617eed7c6fff5edb144fd68beda5c6fcee6e362efdb5995c0a37ab2fafe", func := "loop.example/g00185/laws.FnExactDueWake", spec := "fnExactDueWake", apart := false, narrowed := true }
def FnExactDueWakeUptoSaid : Prop := fnExactDueWakeUptoRow.holds Try.pinned (OpenSpec.upto fnExactDueWakeSpec)

/-- 'laws.FnExactDueRenew', WHERE WHAT IT READS IS OF BULK AT MOST 1048576: true; the input reads as it did. -/
def fnExactDueRenewUptoRow : OpenClaim := { program := "ytmdpngahofeliaa", sum := "81ada617eed7c6fff5edb144fd68beda5c6fcee6e362efdb5995c0a37ab2fafe", func := "loop.example/g00185/laws.FnExactDueRenew", spec := "fnExactDueRenew", apart := false, narrowed := true }
def FnExactDueRenewUptoSaid : Prop := fnExactDueRenewUptoRow.holds Try.pinned (OpenSpec.upto fnExactDueRenewSpec)

/-- 'laws.FnExactDueSpend', WHERE WHAT IT READS IS OF BULK AT MOST 1048576: true; the input reads as it did. -/
def fnExactDueSpendUptoRow : OpenClaim := { program := "ytmdpngahofeliaa", sum := "81ada617eed7c6fff5edb144fd68beda5c6fcee6e362efdb5995c0a37ab2fafe", func := "loop.example/g00185/laws.FnExactDueSpend", spec := "fnExactDueSpend", apart := false, narrowed := true }
def FnExactDueSpendUptoSaid : Prop := fnExactDueSpendUptoRow.holds Try.pinned (OpenSpec.upto fnExactDueSpendSpec)

/-- 'laws.FnExactDueBefore', WHERE WHAT IT READS IS OF BULK AT MOST 1048576: true; the input reads as it did. -/
def fnExactDueBeforeUptoRow : OpenClaim := { program := "ytmdpngahofeliaa", sum := "81ada617eed7c6fff5edb144fd68beda5c6fcee6e362efdb5995c0a37ab2fafe", func := "loop.example/g00185/laws.FnExactDueBefore", spec := "fnExactDueBefore", unfollowed := true, recurses := true, apart := false, narrowed := true }
def FnExactDueBeforeUptoSaid : Prop := fnExactDueBeforeUptoRow.holds Try.pinned (OpenSpec.upto fnExactDueBeforeSpec)

/-- 'laws.FnExactDueShare', WHERE WHAT IT READS IS OF BULK AT MOST 1048576: true; the input reads as it did. -/
def fnExactDueShareUptoRow : OpenClaim := { program := "ytmdpngahofeliaa", sum := "81ada617eed7c6fff5edb144fd68beda5c6fcee6e362efdb5995c0a37ab2fafe", func := "loop.example/g00185/laws.FnExactDueShare", spec := "fnExactDueShare", apart := false, narrowed := true }
def FnExactDueShareUptoSaid : Prop := fnExactDueShareUptoRow.holds Try.pinned (OpenSpec.upto fnExactDueShareSpec)

/-- 'laws.FnWoken', WHERE WHAT IT READS IS OF BULK AT MOST 1048576: true; the input reads as it did. -/
def fnWokenUptoRow : OpenClaim := { program := "ytmdpngahofeliaa", sum := "81ada617eed7c6fff5edb144fd68beda5c6fcee6e362efdb5995c0a37ab2fafe", func := "loop.example/g00185/laws.FnWoken", spec := "fnWoken", apart := false, narrowed := true }
def FnWokenUptoSaid : Prop := fnWokenUptoRow.holds Try.pinned (OpenSpec.upto fnWokenSpec)

/-- 'laws.FnRenewed', WHERE WHAT IT READS IS OF BULK AT MOST 1048576: true; the input reads as it did. -/
def fnRenewedUptoRow : OpenClaim := { program := "ytmdpngahofeliaa", sum := "81ada617eed7c6fff5edb144fd68beda5c6fcee6e362efdb5995c0a37ab2fafe", func := "loop.example/g00185/laws.FnRenewed", spec := "fnRenewed", apart := false, narrowed := true }
def FnRenewedUptoSaid : Prop := fnRenewedUptoRow.holds Try.pinned (OpenSpec.upto fnRenewedSpec)

/-- 'laws.FnSpent', WHERE WHAT IT READS IS OF BULK AT MOST 1048576: true; the input reads as it did. -/
def fnSpentUptoRow : OpenClaim := { program := "ytmdpngahofeliaa", sum := "81ada617eed7c6fff5edb144fd68beda5c6fcee6e362efdb5995c0a37ab2fafe", func := "loop.example/g00185/laws.FnSpent", spec := "fnSpent", apart := false, narrowed := true }
def FnSpentUptoSaid : Prop := fnSpentUptoRow.holds Try.pinned (OpenSpec.upto fnSpentSpec)

end Rows
end Go.Proofs.Ytmdpngahofeliaa
