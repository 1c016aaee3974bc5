/-
  The walk of the exact law of DueBefore.
-/
import Derived.Test.YtdndgacaohmdnaaDueLaws
namespace Go.Proofs.Ytdndgacaohmdnaa
open Go.RowKit
attribute [local go_sem] Keeps.refl Keeps.alloc Keeps.drew Keeps.drewN

end Go.Proofs.Ytdndgacaohmdnaa
