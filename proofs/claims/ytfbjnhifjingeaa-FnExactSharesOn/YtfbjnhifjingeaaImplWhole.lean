/-
  The program's task of each class, made whole again.
-/
import Derived.Test.YtfbjnhifjingeaaGItask1
namespace Go.Proofs.Ytfbjnhifjingeaa
open Go.RowKit

end Go.Proofs.Ytfbjnhifjingeaa
