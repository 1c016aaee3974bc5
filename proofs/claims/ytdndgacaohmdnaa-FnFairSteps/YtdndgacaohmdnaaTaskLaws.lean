/-
  The walks of the exact laws over one task, over contracts of the program's functions.
-/
import Derived.Test.YtdndgacaohmdnaaTaskNew
namespace Go.Proofs.Ytdndgacaohmdnaa
open Go.RowKit
attribute [local go_sem] Keeps.refl Keeps.alloc Keeps.drew Keeps.drewN

/-- What the program's functions are held to. -/
def SaysTaskOk : Prop := ∀ (t : Tsk) (w : World), Calls Try.prog 23 #[tk t] w fun e w' => e = .returned (.bool (taskB t)) ∧ Keeps w w'
end Go.Proofs.Ytdndgacaohmdnaa
