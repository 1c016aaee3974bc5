/-
  Fixed priorities, as plain functions, and what holds of them.
  Fixed priorities: contracts of the model's functions.
  Deadlines, as plain functions: what a task that wakes, is renewed, spends is; and what holds of them.
  Deadlines: contracts of the model's functions.
  A list of tasks: the contract of the model's TasksOk.
  Picking, as plain functions, and what holds of them.
-/
import Derived.Test.YtpikopdfkhagmaaDoorTaskSpec
import Derived.Test.YtpikopdfkhagmaaDoorPutC
import Derived.Test.YtpikopdfkhagmaaDoorLockPure3
import Derived.Test.YtpikopdfkhagmaaDoorHas
namespace Go.Proofs.YtpikopdfkhagmaaDoor
open Go.RowKit

/-- So many ticks spent, of at most its round. -/
def turned (t : Tsk) (seq i : Int) : Tsk := if i < t.left then { t with left := t.left - i } else { t with left := t.round - (i - t.left), seq := seq }
end Go.Proofs.YtpikopdfkhagmaaDoor
namespace Go.Proofs.YtpikopdfkhagmaaDoor
open Go.RowKit
attribute [local go_sem] Keeps.refl Keeps.alloc Keeps.drew Keeps.drewN

end Go.Proofs.YtpikopdfkhagmaaDoor
namespace Go.Proofs.YtpikopdfkhagmaaDoor
open Go.RowKit

end Go.Proofs.YtpikopdfkhagmaaDoor
namespace Go.Proofs.YtpikopdfkhagmaaDoor
open Go.RowKit
attribute [local go_sem] Keeps.refl Keeps.alloc Keeps.drew Keeps.drewN

end Go.Proofs.YtpikopdfkhagmaaDoor
namespace Go.Proofs.YtpikopdfkhagmaaDoor
open Go.RowKit
attribute [local go_sem] Keeps.refl Keeps.alloc Keeps.drew Keeps.drewN

/-- Ascending by number. -/
def ascB : List Tsk → Bool
  | a :: b :: r => decide (a.no < b.no) && ascB (b :: r)
  | _ => true
/-- It is a list of tasks. -/
def tasksB (ts : List Tsk) : Bool := ts.all taskB && ascB ts && decide (ts.length ≤ 12)
end Go.Proofs.YtpikopdfkhagmaaDoor
namespace Go.Proofs.YtpikopdfkhagmaaDoor
open Go.RowKit

end Go.Proofs.YtpikopdfkhagmaaDoor
