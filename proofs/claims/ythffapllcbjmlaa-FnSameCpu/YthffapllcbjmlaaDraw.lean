/-
  SumTwo drawn numbers.
-/
import Derived.Test.YthffapllcbjmlaaShSlice
import Derived.Test.YthffapllcbjmlaaGBase1
import Derived.Test.YthffapllcbjmlaaGcd
namespace Go.Proofs.Ythffapllcbjmlaa
open Go.RowKit

end Go.Proofs.Ythffapllcbjmlaa
