/-
  The system, as a plain record, and what chapter 9 asks of it.
  New tasks: contracts of the model's functions.
  Ticks and calls, as plain functions.
-/
import Derived.Test.YtpikopdfkhagmaaDoorTaskList
import Derived.Test.YtpikopdfkhagmaaDoorSum
import Derived.Test.YtpikopdfkhagmaaDoorTaskSpec
import Derived.Test.YtpikopdfkhagmaaDoorBlk
namespace Go.Proofs.YtpikopdfkhagmaaDoor
open Go.RowKit

/-- A part of time that is still counted. -/
structure Gh where
  cpu : Int
  q : Int
  p : Int
  til : Int
/-- A turn. -/
structure Tn where
  cpu : Int
  ctx : Int
  exe : Int
/-- A system. -/
structure Sy where
  now : Int
  cpus : Int
  tasks : List Tsk
  locks : List Lk
  ghosts : List Gh
  floors : List Int
  seq : Int
  missed : Int
  trace : List Tn
def Gh.zero : Gh := ⟨0, 0, 0, 0⟩
def Tn.zero : Tn := ⟨0, 0, 0⟩
def Sy.zero : Sy := ⟨0, 0, [], [], [], [], 0, 0, []⟩
end Go.Proofs.YtpikopdfkhagmaaDoor
namespace Go.Proofs.YtpikopdfkhagmaaDoor
open Go.RowKit

end Go.Proofs.YtpikopdfkhagmaaDoor
namespace Go.Proofs.YtpikopdfkhagmaaDoor
open Go.RowKit

/-- A call. -/
structure Cl where
  kind : Int
  no : Int
  cpu : Int
  a : Int
  b : Int
def cleanC (c : Cl) : Cl :=
  if c.kind == 1 || c.kind == 2 then c
  else if c.kind == 3 then { c with b := 0 }
  else if c.kind == 4 || c.kind == 5 || c.kind == 6 then { c with cpu := 0, a := 0, b := 0 }
  else if c.kind == 7 || c.kind == 8 || c.kind == 9 then { c with cpu := 0, b := 0 }
  else if c.kind == 10 then { c with a := 0, b := 0 }
  else if c.kind == 11 then { c with no := 0, cpu := 0, b := 0 }
  else c
def eqC (x y : Cl) : Bool := x.kind == y.kind && (x.no == y.no && (x.cpu == y.cpu && (x.a == y.a && x.b == y.b)))
def callB (c : Cl) : Bool := inB c.kind 1 11 && eqC c (cleanC c)
end Go.Proofs.YtpikopdfkhagmaaDoor
