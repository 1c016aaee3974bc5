/-
  A part of time is right: the contract of the program's ShareOk.
-/
import Derived.Test.YthffapllcbjmlaaGreatDoorGTask1
namespace Go.Proofs.YthffapllcbjmlaaGreatDoor
open Go.RowKit

end Go.Proofs.YthffapllcbjmlaaGreatDoor
