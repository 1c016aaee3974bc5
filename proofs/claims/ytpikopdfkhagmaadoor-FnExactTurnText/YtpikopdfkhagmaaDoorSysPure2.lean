/-
  A task is put among others: the contract of the model's TaskPut.
  New tasks: contracts of the model's functions.
  Ticks and calls, as plain functions.
  Calls: what a kind names, and which calls are right.
  The line of a call, as a plain list of bytes.
  The call of a line, as a plain function: words, numbers that are read, the call that is made of them; a line is read as it was written.
-/
import Derived.Test.YtpikopdfkhagmaaDoorTasksOkS
import Derived.Test.YtpikopdfkhagmaaDoorOwn
import Derived.Test.YtpikopdfkhagmaaDoorTaskSpec
import Derived.Test.YtpikopdfkhagmaaDoorBlk
import Derived.Test.YtpikopdfkhagmaaDoorDeskTurnP
import Derived.Test.YtpikopdfkhagmaaDoorPutC
import Derived.Test.YtpikopdfkhagmaaDoorIn
import Derived.Laws.StructEq
import Derived.Test.YtpikopdfkhagmaaDoorDeskPure
namespace Go.Proofs.YtpikopdfkhagmaaDoor
open Go.RowKit
attribute [local go_sem] Keeps.refl Keeps.alloc Keeps.drew Keeps.drewN

/-- The task t ahead of the first whose number is not below its own. -/
def ins (t : Tsk) : List Tsk → List Tsk
  | [] => [t]
  | x :: r => if decide (t.no ≤ x.no) then t :: x :: r else x :: ins t r
/-- The list that comes of it, and whether. -/
def putL (ts : List Tsk) (t : Tsk) : List Tsk := if tasksB ts then (if tasksB (ins t ts) then ins t ts else ts) else []
end Go.Proofs.YtpikopdfkhagmaaDoor
namespace Go.Proofs.YtpikopdfkhagmaaDoor
open Go.RowKit

end Go.Proofs.YtpikopdfkhagmaaDoor
namespace Go.Proofs.YtpikopdfkhagmaaDoor
open Go.RowKit

end Go.Proofs.YtpikopdfkhagmaaDoor
namespace Go.Proofs.YtpikopdfkhagmaaDoor
open Go.RowKit
attribute [local go_sem] Keeps.refl Keeps.alloc Keeps.drew Keeps.drewN

end Go.Proofs.YtpikopdfkhagmaaDoor
namespace Go.Proofs.YtpikopdfkhagmaaDoor
open Go.RowKit

end Go.Proofs.YtpikopdfkhagmaaDoor
namespace Go.Proofs.YtpikopdfkhagmaaDoor
open Go.RowKit

end Go.Proofs.YtpikopdfkhagmaaDoor
