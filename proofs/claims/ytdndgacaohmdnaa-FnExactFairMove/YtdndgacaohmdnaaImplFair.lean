/-
  Fair shares, the program's side: all of it.
-/
import Derived.Test.YtdndgacaohmdnaaImplFairS
import Derived.Test.YtdndgacaohmdnaaImplFairW
import Derived.Test.YtdndgacaohmdnaaImplFairM
import Derived.Test.YtdndgacaohmdnaaImplFairB
import Derived.Test.YtdndgacaohmdnaaImplSpread
import Derived.Test.YtdndgacaohmdnaaImplBefR
namespace Go.Proofs.Ytdndgacaohmdnaa
end Go.Proofs.Ytdndgacaohmdnaa
