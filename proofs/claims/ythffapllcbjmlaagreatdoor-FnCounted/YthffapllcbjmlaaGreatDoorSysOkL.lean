/-
  The walk of FnExactSysOk, over a contract of the program's SysOk.
-/
import Derived.Test.YthffapllcbjmlaaGreatDoorGSys3
import Derived.Test.YthffapllcbjmlaaGreatDoorGSys5
import Derived.Test.YthffapllcbjmlaaGreatDoorErrAs
import Derived.Deep.RegionHeld3
namespace Go.Proofs.YthffapllcbjmlaaGreatDoor
open Go.RowKit
attribute [local go_sem] Keeps.refl Keeps.alloc Keeps.drew Keeps.drewN

/-- What the program's SysOk is held to. -/
def SaysSysOk : Prop := ∀ (w : World) (v : Sv) (s : Sy), GlobE w → SysOn w v s → Calls Tryz.prog 8 #[.agg (syc s v)] w fun e w' => e = .returned (.bool (sysB s)) ∧ Keeps w w'

end Go.Proofs.YthffapllcbjmlaaGreatDoor
