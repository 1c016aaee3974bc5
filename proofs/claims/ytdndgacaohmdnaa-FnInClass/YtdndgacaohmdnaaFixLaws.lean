/-
  The walks of the exact laws of chapter 5, over contracts of the program's functions.
-/
import Derived.Test.YtdndgacaohmdnaaFixSpec
namespace Go.Proofs.Ytdndgacaohmdnaa
open Go.RowKit
attribute [local go_sem] Keeps.refl Keeps.alloc Keeps.drew Keeps.drewN

def SaysFixedBefore : Prop := ∀ (a b : Tsk) (w : World), Calls Try.prog 18 #[tk a, tk b] w fun e w' => e = .returned (.bool (fixBefB a b)) ∧ Keeps w w'

end Go.Proofs.Ytdndgacaohmdnaa
