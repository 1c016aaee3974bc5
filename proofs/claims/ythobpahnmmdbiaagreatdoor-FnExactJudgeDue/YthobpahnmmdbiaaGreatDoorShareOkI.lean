/-
  A part of time is right: the contract of the program's ShareOk.
-/
import Derived.Test.YthobpahnmmdbiaaGreatDoorGTask1
namespace Go.Proofs.YthobpahnmmdbiaaGreatDoor
open Go.RowKit

end Go.Proofs.YthobpahnmmdbiaaGreatDoor
