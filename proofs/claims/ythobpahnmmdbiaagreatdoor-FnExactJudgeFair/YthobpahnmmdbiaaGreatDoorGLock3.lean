/-
  Locks: the model's copy of them.
  Rows of locks are marked, and looked at again.
  Locks: the contract of the model's asking for one.
  Locks: the contract of the model's freeing one.
  The walks of the exact laws of chapter 7, over contracts of the program's functions.
-/
import Derived.Test.YthobpahnmmdbiaaGreatDoorGLock2
namespace Go.Proofs.YthobpahnmmdbiaaGreatDoor
open Go.RowKit
attribute [local go_sem] Keeps.refl Keeps.alloc Keeps.drew Keeps.drewN

end Go.Proofs.YthobpahnmmdbiaaGreatDoor
namespace Go.Proofs.YthobpahnmmdbiaaGreatDoor
open Go.RowKit
variable {p p' : Bool}
attribute [local go_sem] Keeps.refl Keeps.alloc Keeps.drew Keeps.drewN

end Go.Proofs.YthobpahnmmdbiaaGreatDoor
namespace Go.Proofs.YthobpahnmmdbiaaGreatDoor
open Go.RowKit
attribute [local go_sem] Keeps.refl Keeps.alloc Keeps.drew Keeps.drewN

end Go.Proofs.YthobpahnmmdbiaaGreatDoor
namespace Go.Proofs.YthobpahnmmdbiaaGreatDoor
open Go.RowKit
attribute [local go_sem] Keeps.refl Keeps.alloc Keeps.drew Keeps.drewN

end Go.Proofs.YthobpahnmmdbiaaGreatDoor
namespace Go.Proofs.YthobpahnmmdbiaaGreatDoor
open Go.RowKit
variable {p : Bool}
attribute [local go_sem] Keeps.refl Keeps.alloc Keeps.drew Keeps.drewN

end Go.Proofs.YthobpahnmmdbiaaGreatDoor
