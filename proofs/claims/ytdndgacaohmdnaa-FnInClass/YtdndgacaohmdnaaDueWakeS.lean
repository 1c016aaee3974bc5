/-
  Deadlines: the contract of one of the model's functions.
-/
import Derived.Test.YtdndgacaohmdnaaDueSpec
namespace Go.Proofs.Ytdndgacaohmdnaa
open Go.RowKit
attribute [local go_sem] Keeps.refl Keeps.alloc Keeps.drew Keeps.drewN

end Go.Proofs.Ytdndgacaohmdnaa
