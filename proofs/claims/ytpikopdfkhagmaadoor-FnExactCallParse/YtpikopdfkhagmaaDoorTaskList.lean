/-
  A task is written over an element of a row.
  Lists of tasks: the laws' own helpers, and what the model's functions that only read a list answer.
  A list of tasks: the contract of the model's TasksOk.
  A task is put among others: the contract of the model's TaskPut.
  Fixed priorities, as plain functions, and what holds of them.
  Fair shares, as plain functions, and what holds of them.
  Deadlines, as plain functions: what a task that wakes, is renewed, spends is; and what holds of them.
  Picking, as plain functions, and what holds of them.
-/
import Derived.Test.YtpikopdfkhagmaaDoorTaskSpec
import Derived.Test.YtpikopdfkhagmaaDoorLies
import Derived.Test.YtpikopdfkhagmaaDoorOwn
import Derived.Test.YtpikopdfkhagmaaDoorIn
import Derived.Test.YtpikopdfkhagmaaDoorLockPure3
namespace Go.Proofs.YtpikopdfkhagmaaDoor
open Go.RowKit

end Go.Proofs.YtpikopdfkhagmaaDoor
namespace Go.Proofs.YtpikopdfkhagmaaDoor
open Go.RowKit
attribute [local go_sem] Keeps.refl Keeps.alloc Keeps.drew Keeps.drewN

end Go.Proofs.YtpikopdfkhagmaaDoor
namespace Go.Proofs.YtpikopdfkhagmaaDoor
open Go.RowKit
attribute [local go_sem] Keeps.refl Keeps.alloc Keeps.drew Keeps.drewN

/-- Ascending by number. -/
def ascB : List Tsk → Bool
  | a :: b :: r => decide (a.no < b.no) && ascB (b :: r)
  | _ => true
/-- It is a list of tasks. -/
def tasksB (ts : List Tsk) : Bool := ts.all taskB && ascB ts && decide (ts.length ≤ 12)
end Go.Proofs.YtpikopdfkhagmaaDoor
namespace Go.Proofs.YtpikopdfkhagmaaDoor
open Go.RowKit
attribute [local go_sem] Keeps.refl Keeps.alloc Keeps.drew Keeps.drewN

/-- The task t ahead of the first whose number is not below its own. -/
def ins (t : Tsk) : List Tsk → List Tsk
  | [] => [t]
  | x :: r => if decide (t.no ≤ x.no) then t :: x :: r else x :: ins t r
/-- The list that comes of it, and whether. -/
def putL (ts : List Tsk) (t : Tsk) : List Tsk := if tasksB ts then (if tasksB (ins t ts) then ins t ts else ts) else []
end Go.Proofs.YtpikopdfkhagmaaDoor
namespace Go.Proofs.YtpikopdfkhagmaaDoor
open Go.RowKit

/-- So many ticks spent, of at most its round. -/
def turned (t : Tsk) (seq i : Int) : Tsk := if i < t.left then { t with left := t.left - i } else { t with left := t.round - (i - t.left), seq := seq }
end Go.Proofs.YtpikopdfkhagmaaDoor
namespace Go.Proofs.YtpikopdfkhagmaaDoor
open Go.RowKit

end Go.Proofs.YtpikopdfkhagmaaDoor
namespace Go.Proofs.YtpikopdfkhagmaaDoor
open Go.RowKit

end Go.Proofs.YtpikopdfkhagmaaDoor
namespace Go.Proofs.YtpikopdfkhagmaaDoor
open Go.RowKit

end Go.Proofs.YtpikopdfkhagmaaDoor
