/-
  A row is copied: append onto an empty row of one's own.
-/
import Derived.Test.YthobpahnmmdbiaaGreatDoorGSys1
import Derived.Test.YthobpahnmmdbiaaGreatDoorGLock2
namespace Go.Proofs.YthobpahnmmdbiaaGreatDoor
open Go.RowKit

end Go.Proofs.YthobpahnmmdbiaaGreatDoor
