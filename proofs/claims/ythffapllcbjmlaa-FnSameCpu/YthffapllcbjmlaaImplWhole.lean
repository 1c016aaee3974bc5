/-
  The program's task of each class, made whole again.
-/
import Derived.Test.YthffapllcbjmlaaGItask1
namespace Go.Proofs.Ythffapllcbjmlaa
open Go.RowKit

end Go.Proofs.Ythffapllcbjmlaa
