/-
  No cell of these rows narrows 'for every input' (looked for: loops, veiled, ifaces, maps, wideKeys, modest, calm, conditions, laid).
  DERIVED. THE GIVEN ROWS OF THIS SEAT. 5 by the template 'for every input the law returns true; each argument reads behind the call as it read before'; 0 by the template 'total and deterministic' (their statements: YtfbjnhifjingeaaTotals.lean).
  GIVEN WITH THE SEED: the statements are not yours to turn. If you find one false, say at which input.
  Laid BY PROGRAM, IN A SANDBOX (cutbox-rows.mjs): the forced cells as the released guide's own fill.sh prints them over the translation df63f34fe48e6495… (all of the seat's roots in one cut). By AI agents, Wed Nov 11 2026. No macro, syntax, notation, axiom, sorry.
-/
import Derived.Test.YtfbjnhifjingeaaChecked
import GoSem.Claim
import GoSem.ClaimJoined
import GoSem.ClaimMapViews
import Derived.JoinedTies
import Derived.KernelRfl
namespace Go.Proofs.Ytfbjnhifjingeaa
/- THE CELL 'sum', in the pinned program and in every row, IS THE sha256 OF THE DUMP (.gsa) THAT YtfbjnhifjingeaaProg.lean LOADS. Nothing in Lean hashes anything: it is a label: what it is worth is what the hold of that sum in a sandbox is worth. -/
noncomputable def Try.pinned : Pinned := { name := "ytfbjnhifjingeaa", sum := "df63f34fe48e64953e526d32a4f184737ba4cf09e3423a67a98e8867eaded44d", checked := Try.checked }
namespace Rows
def none {H : Type} : Left H := { results := [], args := [] }

/-- 'laws.FnExactSysNew': WHATEVER THE INPUT: true; the input reads as it did. -/
def fnExactSysNewSpec : ChangeSpec := { name := "fnExactSysNew", fn := fun _ => fun
  | [d] => { results := [.lit (.bool true)], args := [d] }
  | _ => none }
def fnExactSysNewRow : OpenClaim := { program := "ytfbjnhifjingeaa", sum := "df63f34fe48e64953e526d32a4f184737ba4cf09e3423a67a98e8867eaded44d", func := "loop.example/g00185/laws.FnExactSysNew", spec := "fnExactSysNew", apart := false }
def FnExactSysNewSaid : Prop := fnExactSysNewRow.holds Try.pinned (OpenSpec.ofChange fnExactSysNewSpec)

/-- ITS FALSE NEIGHBOUR: 'it returns false'. Refute it at one input. -/
def fnExactSysNewWrong : ChangeSpec := { name := "fnExactSysNew", fn := fun _ => fun
  | [d] => { results := [.lit (.bool false)], args := [d] }
  | _ => none }
def FnExactSysNewWrongFalsely : Prop := fnExactSysNewRow.holds Try.pinned (OpenSpec.ofChange fnExactSysNewWrong)

/-- 'laws.FnExactSharesOn': WHATEVER THE INPUT: true; the input reads as it did. -/
def fnExactSharesOnSpec : ChangeSpec := { name := "fnExactSharesOn", fn := fun _ => fun
  | [d1, d2] => { results := [.lit (.bool true)], args := [d1, d2] }
  | _ => none }
def fnExactSharesOnRow : OpenClaim := { program := "ytfbjnhifjingeaa", sum := "df63f34fe48e64953e526d32a4f184737ba4cf09e3423a67a98e8867eaded44d", func := "loop.example/g00185/laws.FnExactSharesOn", spec := "fnExactSharesOn", apart := false }
def FnExactSharesOnSaid : Prop := fnExactSharesOnRow.holds Try.pinned (OpenSpec.ofChange fnExactSharesOnSpec)

/-- ITS FALSE NEIGHBOUR: 'it returns false'. Refute it at one input. -/
def fnExactSharesOnWrong : ChangeSpec := { name := "fnExactSharesOn", fn := fun _ => fun
  | [d1, d2] => { results := [.lit (.bool false)], args := [d1, d2] }
  | _ => none }
def FnExactSharesOnWrongFalsely : Prop := fnExactSharesOnRow.holds Try.pinned (OpenSpec.ofChange fnExactSharesOnWrong)

/-- 'laws.FnExactSameCpu': WHATEVER THE INPUT: true; the input reads as it did. -/
def fnExactSameCpuSpec : ChangeSpec := { name := "fnExactSameCpu", fn := fun _ => fun
  | [d1, d2, d3] => { results := [.lit (.bool true)], args := [d1, d2, d3] }
  | _ => none }
def fnExactSameCpuRow : OpenClaim := { program := "ytfbjnhifjingeaa", sum := "df63f34fe48e64953e526d32a4f184737ba4cf09e3423a67a98e8867eaded44d", func := "loop.example/g00185/laws.FnExactSameCpu", spec := "fnExactSameCpu", apart := false }
def FnExactSameCpuSaid : Prop := fnExactSameCpuRow.holds Try.pinned (OpenSpec.ofChange fnExactSameCpuSpec)

/-- ITS FALSE NEIGHBOUR: 'it returns false'. Refute it at one input. -/
def fnExactSameCpuWrong : ChangeSpec := { name := "fnExactSameCpu", fn := fun _ => fun
  | [d1, d2, d3] => { results := [.lit (.bool false)], args := [d1, d2, d3] }
  | _ => none }
def FnExactSameCpuWrongFalsely : Prop := fnExactSameCpuRow.holds Try.pinned (OpenSpec.ofChange fnExactSameCpuWrong)

/-- 'laws.FnExactFloorOn': WHATEVER THE INPUT: true; the input reads as it did. -/
def fnExactFloorOnSpec : ChangeSpec := { name := "fnExactFloorOn", fn := fun _ => fun
  | [d1, d2] => { results := [.lit (.bool true)], args := [d1, d2] }
  | _ => none }
def fnExactFloorOnRow : OpenClaim := { program := "ytfbjnhifjingeaa", sum := "df63f34fe48e64953e526d32a4f184737ba4cf09e3423a67a98e8867eaded44d", func := "loop.example/g00185/laws.FnExactFloorOn", spec := "fnExactFloorOn", apart := false }
def FnExactFloorOnSaid : Prop := fnExactFloorOnRow.holds Try.pinned (OpenSpec.ofChange fnExactFloorOnSpec)

/-- ITS FALSE NEIGHBOUR: 'it returns false'. Refute it at one input. -/
def fnExactFloorOnWrong : ChangeSpec := { name := "fnExactFloorOn", fn := fun _ => fun
  | [d1, d2] => { results := [.lit (.bool false)], args := [d1, d2] }
  | _ => none }
def FnExactFloorOnWrongFalsely : Prop := fnExactFloorOnRow.holds Try.pinned (OpenSpec.ofChange fnExactFloorOnWrong)

/-- 'laws.FnExactLastTurns': WHATEVER THE INPUT: true; the input reads as it did. -/
def fnExactLastTurnsSpec : ChangeSpec := { name := "fnExactLastTurns", fn := fun _ => fun
  | [d] => { results := [.lit (.bool true)], args := [d] }
  | _ => none }
def fnExactLastTurnsRow : OpenClaim := { program := "ytfbjnhifjingeaa", sum := "df63f34fe48e64953e526d32a4f184737ba4cf09e3423a67a98e8867eaded44d", func := "loop.example/g00185/laws.FnExactLastTurns", spec := "fnExactLastTurns", apart := false }
def FnExactLastTurnsSaid : Prop := fnExactLastTurnsRow.holds Try.pinned (OpenSpec.ofChange fnExactLastTurnsSpec)

/-- ITS FALSE NEIGHBOUR: 'it returns false'. Refute it at one input. -/
def fnExactLastTurnsWrong : ChangeSpec := { name := "fnExactLastTurns", fn := fun _ => fun
  | [d] => { results := [.lit (.bool false)], args := [d] }
  | _ => none }
def FnExactLastTurnsWrongFalsely : Prop := fnExactLastTurnsRow.holds Try.pinned (OpenSpec.ofChange fnExactLastTurnsWrong)

/- THE SECOND FORM. 'bulk': how many values and letters a reading holds, each counted each time it is reached (what is shared counts as often as it is met; a slice's spare places count too). A statement '..UptoSaid' is the law's where the arguments, and the package variables that the reading takes, are together of bulk at most 1048576: NARROWER than '..Said'. Prove '..Said' where nothing that the law and all that it calls make is longer than what came in: it says more and counts as full. Else prove '..UptoSaid'. A law counts once. -/
mutual
def uptoBulk {H : Type} : DataW H → Nat
  | .lit (.string bytes) => bytes.length + 1
  | .lit _ => 1
  | .nil => 1
  | .ptr d => uptoBulk d + 1
  | .slice elems spare => uptoBulkAll elems + uptoBulkAll spare + 1
  | .agg parts => uptoBulkAll parts + 1
  | .iface _ d => uptoBulk d + 1
  | .map entries => uptoBulkEntries entries + 1
  | .held _ => 1
def uptoBulkAll {H : Type} : List (DataW H) → Nat
  | [] => 0
  | d :: r => uptoBulk d + uptoBulkAll r
def uptoBulkEntries {H : Type} : List (Lit × DataW H) → Nat
  | [] => 0
  | x :: r => uptoBulkEntry x + uptoBulkEntries r
def uptoBulkEntry {H : Type} : Lit × DataW H → Nat
  | (.string bytes, d) => bytes.length + uptoBulk d + 1
  | (_, d) => uptoBulk d + 1
 end
def uptoSmall : (H : Type) → List (DataW H) → Bool := fun _ ds => decide (uptoBulkAll ds ≤ 1048576)
def OpenSpec.upto (s : _root_.Go.ChangeSpec) : _root_.Go.OpenSpec := { _root_.Go.OpenSpec.ofChange s with cond := some uptoSmall }

/-- 'laws.FnExactSysNew', WHERE WHAT IT READS IS OF BULK AT MOST 1048576: true; the input reads as it did. -/
def fnExactSysNewUptoRow : OpenClaim := { program := "ytfbjnhifjingeaa", sum := "df63f34fe48e64953e526d32a4f184737ba4cf09e3423a67a98e8867eaded44d", func := "loop.example/g00185/laws.FnExactSysNew", spec := "fnExactSysNew", apart := false, narrowed := true }
def FnExactSysNewUptoSaid : Prop := fnExactSysNewUptoRow.holds Try.pinned (OpenSpec.upto fnExactSysNewSpec)

/-- 'laws.FnExactSharesOn', WHERE WHAT IT READS IS OF BULK AT MOST 1048576: true; the input reads as it did. -/
def fnExactSharesOnUptoRow : OpenClaim := { program := "ytfbjnhifjingeaa", sum := "df63f34fe48e64953e526d32a4f184737ba4cf09e3423a67a98e8867eaded44d", func := "loop.example/g00185/laws.FnExactSharesOn", spec := "fnExactSharesOn", apart := false, narrowed := true }
def FnExactSharesOnUptoSaid : Prop := fnExactSharesOnUptoRow.holds Try.pinned (OpenSpec.upto fnExactSharesOnSpec)

/-- 'laws.FnExactSameCpu', WHERE WHAT IT READS IS OF BULK AT MOST 1048576: true; the input reads as it did. -/
def fnExactSameCpuUptoRow : OpenClaim := { program := "ytfbjnhifjingeaa", sum := "df63f34fe48e64953e526d32a4f184737ba4cf09e3423a67a98e8867eaded44d", func := "loop.example/g00185/laws.FnExactSameCpu", spec := "fnExactSameCpu", apart := false, narrowed := true }
def FnExactSameCpuUptoSaid : Prop := fnExactSameCpuUptoRow.holds Try.pinned (OpenSpec.upto fnExactSameCpuSpec)

/-- 'laws.FnExactFloorOn', WHERE WHAT IT READS IS OF BULK AT MOST 1048576: true; the input reads as it did. -/
def fnExactFloorOnUptoRow : OpenClaim := { program := "ytfbjnhifjingeaa", sum := "df63f34fe48e64953e526d32a4f184737ba4cf09e3423a67a98e8867eaded44d", func := "loop.example/g00185/laws.FnExactFloorOn", spec := "fnExactFloorOn", apart := false, narrowed := true }
def FnExactFloorOnUptoSaid : Prop := fnExactFloorOnUptoRow.holds Try.pinned (OpenSpec.upto fnExactFloorOnSpec)

/-- 'laws.FnExactLastTurns', WHERE WHAT IT READS IS OF BULK AT MOST 1048576: true; the input reads as it did. -/
def fnExactLastTurnsUptoRow : OpenClaim := { program := "ytfbjnhifjingeaa", sum := "df63f34fe48e64953e526d32a4f184737ba4cf09e3423a67a98e8867eaded44d", func := "loop.example/g00185/laws.FnExactLastTurns", spec := "fnExactLastTurns", apart := false, narrowed := true }
def FnExactLastTurnsUptoSaid : Prop := fnExactLastTurnsUptoRow.holds Try.pinned (OpenSpec.upto fnExactLastTurnsSpec)

end Rows
end Go.Proofs.Ytfbjnhifjingeaa
