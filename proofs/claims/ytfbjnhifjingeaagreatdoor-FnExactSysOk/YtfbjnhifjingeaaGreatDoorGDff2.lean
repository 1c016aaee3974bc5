/-
  Nothing is wanted here.
-/
import Derived.Test.YtfbjnhifjingeaaGreatDoorGPure1
import Derived.Test.YtfbjnhifjingeaaGreatDoorGBase1
import Derived.Test.YtfbjnhifjingeaaGreatDoorGDff1
import Derived.Test.YtfbjnhifjingeaaGreatDoorGTask4
namespace Go.Proofs.YtfbjnhifjingeaaGreatDoor
end Go.Proofs.YtfbjnhifjingeaaGreatDoor
