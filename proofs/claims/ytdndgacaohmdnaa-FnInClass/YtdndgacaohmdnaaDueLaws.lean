/-
  The walks of the exact laws of chapter 4, over contracts of the program's functions.
-/
import Derived.Test.YtdndgacaohmdnaaDueWakeS
import Derived.Test.YtdndgacaohmdnaaDueRenewS
namespace Go.Proofs.Ytdndgacaohmdnaa
open Go.RowKit
attribute [local go_sem] Keeps.refl Keeps.alloc Keeps.drew Keeps.drewN

def SaysDueBefore : Prop := ∀ (a b : Tsk) (w : World), Calls Try.prog 17 #[tk a, tk b] w fun e w' => e = .returned (.bool (dueBefB a b)) ∧ Keeps w w'
end Go.Proofs.Ytdndgacaohmdnaa
