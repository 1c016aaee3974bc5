/-
  A part of time is right: the contract of the program's ShareOk.
-/
import Derived.Test.YthpdlbcdbncnhaaGreatDoorGTask1
namespace Go.Proofs.YthpdlbcdbncnhaaGreatDoor
open Go.RowKit

end Go.Proofs.YthpdlbcdbncnhaaGreatDoor
