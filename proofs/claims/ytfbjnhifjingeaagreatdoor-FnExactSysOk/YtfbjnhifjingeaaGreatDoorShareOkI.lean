/-
  A part of time is right: the contract of the program's ShareOk.
-/
import Derived.Test.YtfbjnhifjingeaaGreatDoorGTask1
namespace Go.Proofs.YtfbjnhifjingeaaGreatDoor
open Go.RowKit

end Go.Proofs.YtfbjnhifjingeaaGreatDoor
