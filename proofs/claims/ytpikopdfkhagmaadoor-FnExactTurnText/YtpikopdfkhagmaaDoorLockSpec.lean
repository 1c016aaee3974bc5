/-
  Rows of locks: the laws' own helpers over them.
  Locks: contracts of the model's functions that only read.
  Locks: contracts of the model's chains, and of what is right.
-/
import Derived.Test.YtpikopdfkhagmaaDoorLockRows
import Derived.Test.YtpikopdfkhagmaaDoorPutC
import Derived.Deep.RegionHeld3
import Derived.Test.YtpikopdfkhagmaaDoorIn
namespace Go.Proofs.YtpikopdfkhagmaaDoor
open Go.RowKit
variable {p p' : Bool}
attribute [local go_sem] Keeps.refl Keeps.alloc Keeps.drew Keeps.drewN

def sumW : List Lk → Nat
  | [] => 0
  | l :: r => l.waits.length + sumW r
/-- How many numbers locks hold. -/
def sizeN (ls : List Lk) : Nat := ls.length + sumW ls
end Go.Proofs.YtpikopdfkhagmaaDoor
namespace Go.Proofs.YtpikopdfkhagmaaDoor
open Go.RowKit
variable {p : Bool}
attribute [local go_sem] Keeps.refl Keeps.alloc Keeps.drew Keeps.drewN

end Go.Proofs.YtpikopdfkhagmaaDoor
namespace Go.Proofs.YtpikopdfkhagmaaDoor
open Go.RowKit
variable {p p' : Bool}
attribute [local go_sem] Keeps.refl Keeps.alloc Keeps.drew Keeps.drewN

end Go.Proofs.YtpikopdfkhagmaaDoor
