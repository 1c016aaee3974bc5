/-
  Lists of parts of time: the law's own helpers: a copy is made, two are held against each other, how long one is.
-/
import Derived.Test.YthffapllcbjmlaaSum
import Derived.Test.YthffapllcbjmlaaGBase1
namespace Go.Proofs.Ythffapllcbjmlaa
open Go.RowKit Plain
attribute [local go_sem] Keeps.refl Keeps.alloc Keeps.drew Keeps.drewN

end Go.Proofs.Ythffapllcbjmlaa
