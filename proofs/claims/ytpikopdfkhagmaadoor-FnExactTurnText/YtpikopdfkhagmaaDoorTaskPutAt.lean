/-
  A task as a value, and the laws' own helpers over one: a copy is made, two are held against each other.
  A task is written over an element of a row.
-/
import Derived.Test.YtpikopdfkhagmaaDoorBlk
import Derived.Laws.ResultCell
import Derived.Deep.RegionHeld3
import Derived.Test.YtpikopdfkhagmaaDoorLies
namespace Go.Proofs.YtpikopdfkhagmaaDoor
open Go.RowKit

/-- A task's numbers. -/
structure Tsk where
  no : Int
  cls : Int
  cpu : Int
  st : Int
  idle : Bool
  q : Int
  p : Int
  left : Int
  due : Int
  prio : Int
  round : Int
  seq : Int
  nice : Int
  v : Int

/-- No task. -/
def Tsk.zero : Tsk := ⟨0, 0, 0, 0, false, 0, 0, 0, 0, 0, 0, 0, 0, 0⟩

/-- Its cells, in their order. -/
abbrev tc (t : Tsk) : Array Value := #[.int .i64 t.no, .int .i64 t.cls, .int .i64 t.cpu, .int .i64 t.st, .bool t.idle, .int .i64 t.q, .int .i64 t.p, .int .i64 t.left, .int .i64 t.due, .int .i64 t.prio, .int .i64 t.round, .int .i64 t.seq, .int .i64 t.nice, .int .i64 t.v]
end Go.Proofs.YtpikopdfkhagmaaDoor
namespace Go.Proofs.YtpikopdfkhagmaaDoor
open Go.RowKit

/-- From the place o of the block b on stands the task t. -/
abbrev putAt (w : World) (b o : Nat) (t : Tsk) : World := ((((((((((((((w.setCell ⟨b, o, none⟩ (.int .i64 t.no)).setCell ⟨b, o + 1, none⟩ (.int .i64 t.cls)).setCell ⟨b, o + 2, none⟩ (.int .i64 t.cpu)).setCell ⟨b, o + 3, none⟩ (.int .i64 t.st)).setCell ⟨b, o + 4, none⟩ (.bool t.idle)).setCell ⟨b, o + 5, none⟩ (.int .i64 t.q)).setCell ⟨b, o + 6, none⟩ (.int .i64 t.p)).setCell ⟨b, o + 7, none⟩ (.int .i64 t.left)).setCell ⟨b, o + 8, none⟩ (.int .i64 t.due)).setCell ⟨b, o + 9, none⟩ (.int .i64 t.prio)).setCell ⟨b, o + 10, none⟩ (.int .i64 t.round)).setCell ⟨b, o + 11, none⟩ (.int .i64 t.seq)).setCell ⟨b, o + 12, none⟩ (.int .i64 t.nice)).setCell ⟨b, o + 13, none⟩ (.int .i64 t.v))
theorem Keeps.putAt {a w : World} {b o : Nat} (h : Keeps a w) (hp : a.heap.size ≤ b) (t : Tsk) : Keeps a (Go.Proofs.YtpikopdfkhagmaaDoor.putAt w b o t) := (((((((((((((h.setCell hp _).setCell hp _).setCell hp _).setCell hp _).setCell hp _).setCell hp _).setCell hp _).setCell hp _).setCell hp _).setCell hp _).setCell hp _).setCell hp _).setCell hp _).setCell hp _
end Go.Proofs.YtpikopdfkhagmaaDoor
