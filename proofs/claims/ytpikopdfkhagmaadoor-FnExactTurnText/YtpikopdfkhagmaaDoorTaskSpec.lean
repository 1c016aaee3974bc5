/-
  What a task is: contracts of the model's functions over one task.
  Lists of tasks: the laws' own helpers, and what the model's functions that only read a list answer.
-/
import Derived.Test.YtpikopdfkhagmaaDoorTaskPutAt
import Derived.Test.YtpikopdfkhagmaaDoorShare
import Derived.Test.YtpikopdfkhagmaaDoorIn
import Derived.Deep.DeepCutAuto
namespace Go.Proofs.YtpikopdfkhagmaaDoor
open Go.RowKit

def dueZ (t : Tsk) : Bool := t.q == 0 && t.p == 0 && t.due == 0
def fixZ (t : Tsk) : Bool := t.prio == 0 && t.round == 0 && t.seq == 0
def fairZ (t : Tsk) : Bool := t.nice == 0 && t.v == 0
/-- Nothing is set that its class does not name. -/
def cleanB (t : Tsk) : Bool := if t.cls == 1 then fixZ t && fairZ t else if t.cls == 2 then dueZ t && fairZ t else dueZ t && fixZ t && t.left == 0
/-- What the class asks. -/
def ofClassB (t : Tsk) : Bool := if t.cls == 1 then okB t.q t.p && inB t.left 0 t.q && inB t.due 0 100040 else if t.cls == 2 then inB t.prio 1 20 && inB t.round 0 10 && inB t.left (min t.round 1) t.round && inB t.seq 0 1000000 else inB t.nice (-4) 4 && inB t.v 0 100000000
/-- It is a task. -/
def taskB (t : Tsk) : Bool := inB t.no 1 1000 && inB t.cls 1 3 && inB t.cpu 0 3 && inB t.st 1 2 && cleanB t && ofClassB t

end Go.Proofs.YtpikopdfkhagmaaDoor
namespace Go.Proofs.YtpikopdfkhagmaaDoor
open Go.RowKit
attribute [local go_sem] Keeps.refl Keeps.alloc Keeps.drew Keeps.drewN

/-- The tasks ts lie there. -/
abbrev Ts (w : World) (a : Option Addr) (ts : List Tsk) : Prop := Lies 14 tc w a ts

theorem some_at {α : Type} {xs : List α} {k : Nat} (h : k < xs.length) : ∃ x, xs[k]? = some x := ⟨xs[k], List.getElem?_eq_getElem h⟩

end Go.Proofs.YtpikopdfkhagmaaDoor
