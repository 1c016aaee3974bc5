/-
  The walk of FnExactSysOk, over a contract of the program's SysOk.
-/
import Derived.Test.YthpdlbcdbncnhaaGreatDoorGSys3
import Derived.Test.YthpdlbcdbncnhaaGreatDoorGSys5
import Derived.Test.YthpdlbcdbncnhaaGreatDoorErrAs
import Derived.Deep.RegionHeld3
namespace Go.Proofs.YthpdlbcdbncnhaaGreatDoor
open Go.RowKit
attribute [local go_sem] Keeps.refl Keeps.alloc Keeps.drew Keeps.drewN

/-- What the program's SysOk is held to. -/
def SaysSysOk : Prop := ∀ (w : World) (v : Sv) (s : Sy), GlobE w → SysOn w v s → Calls Tryz.prog 42 #[.agg (syc s v)] w fun e w' => e = .returned (.bool (sysB s)) ∧ Keeps w w'

end Go.Proofs.YthpdlbcdbncnhaaGreatDoor
