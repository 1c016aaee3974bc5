/-
  Sums of parts of time: contracts of the model's SumOf and Fits.
-/
import Derived.Test.YtfbjnhifjingeaaSum
namespace Go.Proofs.Ytfbjnhifjingeaa
open Go.RowKit Plain
attribute [local go_sem] Keeps.refl Keeps.alloc Keeps.drew Keeps.drewN

end Go.Proofs.Ytfbjnhifjingeaa
