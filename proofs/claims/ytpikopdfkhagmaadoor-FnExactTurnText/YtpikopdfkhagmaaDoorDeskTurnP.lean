/-
  The system, as a plain record, and what chapter 9 asks of it.
  The text of turns, as a plain list of bytes.
-/
import Derived.Test.YtpikopdfkhagmaaDoorTasksOkS
import Derived.Test.YtpikopdfkhagmaaDoorSum
import Derived.Test.YtpikopdfkhagmaaDoorDeskPure
namespace Go.Proofs.YtpikopdfkhagmaaDoor
open Go.RowKit

/-- A part of time that is still counted. -/
structure Gh where
  cpu : Int
  q : Int
  p : Int
  til : Int
/-- A turn. -/
structure Tn where
  cpu : Int
  ctx : Int
  exe : Int
/-- A system. -/
structure Sy where
  now : Int
  cpus : Int
  tasks : List Tsk
  locks : List Lk
  ghosts : List Gh
  floors : List Int
  seq : Int
  missed : Int
  trace : List Tn
def Gh.zero : Gh := ⟨0, 0, 0, 0⟩
def Tn.zero : Tn := ⟨0, 0, 0⟩
def Sy.zero : Sy := ⟨0, 0, [], [], [], [], 0, 0, []⟩
end Go.Proofs.YtpikopdfkhagmaaDoor
namespace Go.Proofs.YtpikopdfkhagmaaDoor
open Go.RowKit

def turnNumB (t : Tn) : Bool := inB t.cpu 0 1000 && (inB t.ctx 0 1000 && inB t.exe 0 1000)
def turnL (t : Tn) : List UInt8 := numL t.cpu ++ [58] ++ numL t.ctx ++ (if t.exe == t.ctx then [] else [47] ++ numL t.exe)
/-- The text of the first k turns. -/
def textK (xs : List Tn) : Nat → List UInt8
  | 0 => []
  | k + 1 => (textK xs k ++ (if k = 0 then [] else [32])) ++ turnL (xs.getD k ⟨0, 0, 0⟩)
def turnsL (xs : List Tn) : List UInt8 := if xs.all turnNumB then textK xs xs.length else []
theorem turnsL_no {xs : List Tn} {k : Nat} {t : Tn} (h : xs[k]? = some t) (ht : turnNumB t = false) : turnsL xs = [] := by
  unfold turnsL
  rw [if_neg]
  intro e
  have := List.all_eq_true.1 e t (List.mem_of_getElem? h)
  rw [ht] at this
  cases this
theorem turnL_length {t : Tn} (h : turnNumB t = true) : (turnL t).length ≤ 30 := by
  unfold turnNumB at h
  simp only [Bool.and_eq_true, inB_iff] at h
  have h1 := numL_length (n := t.cpu) (by omega) (by omega)
  have h2 := numL_length (n := t.ctx) (by omega) (by omega)
  have h3 := numL_length (n := t.exe) (by omega) (by omega)
  unfold turnL
  split <;> simp <;> omega
end Go.Proofs.YtpikopdfkhagmaaDoor
