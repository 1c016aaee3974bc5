/-
  Nothing is wanted here.
-/
import Derived.Test.YtfbjnhifjingeaaGPure1
import Derived.Test.YtfbjnhifjingeaaGBase1
import Derived.Test.YtfbjnhifjingeaaGDff1
import Derived.Test.YtfbjnhifjingeaaGTask4
namespace Go.Proofs.Ytfbjnhifjingeaa
end Go.Proofs.Ytfbjnhifjingeaa
