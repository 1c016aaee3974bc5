/-
  The system is marked, and looked at again: as a whole.
  The system: a new one.
  The walk of FnExactSysNew, over a contract of the program's SysNew.
  The walk of FnExactLastTurns, over a contract of the program's LastTurns.
-/
import Derived.Test.YtpikopdfkhagmaaDoorSysMark2
import Derived.RegionTactic
import Derived.BigRegion
import Derived.Deep.RegionHeld3
import Derived.Test.YtpikopdfkhagmaaDoorSysLast
namespace Go.Proofs.YtpikopdfkhagmaaDoor
open Go.RowKit
attribute [local go_sem] Keeps.refl Keeps.alloc Keeps.drew Keeps.drewN

end Go.Proofs.YtpikopdfkhagmaaDoor
namespace Go.Proofs.YtpikopdfkhagmaaDoor
open Go.RowKit
attribute [local go_sem] Keeps.refl Keeps.alloc Keeps.drew Keeps.drewN

end Go.Proofs.YtpikopdfkhagmaaDoor
namespace Go.Proofs.YtpikopdfkhagmaaDoor
open Go.RowKit
attribute [local go_sem] Keeps.refl Keeps.alloc Keeps.drew Keeps.drewN

end Go.Proofs.YtpikopdfkhagmaaDoor
namespace Go.Proofs.YtpikopdfkhagmaaDoor
open Go.RowKit
attribute [local go_sem] Keeps.refl Keeps.alloc Keeps.drew Keeps.drewN

set_option maxRecDepth 100000 in
theorem eqTurnS_n (a a' : Option Addr) (cap cap' n : Nat) (xs : List Tn) (w : World) (hl : n ≤ maxLen) (Hn : Hid (xs.length = n)) (hs : Rs w a xs) (hs' : Rs w a' xs) :
    Calls Tryd.prog 16 #[.slice a n cap, .slice a' n cap'] w fun e w' => e = .returned (.bool true) ∧ Keeps w w' := by
  have h := eqTurnS_same a a' cap cap' xs w (by rw [Hn.out]; exact hl) hs hs'
  rw [Hn.out] at h
  exact h
end Go.Proofs.YtpikopdfkhagmaaDoor
