/-
  New tasks: contracts of the model's functions.
-/
import Derived.Test.YtfbjnhifjingeaaGTask2
import Derived.Test.YtfbjnhifjingeaaGBase1
import Derived.Test.YtfbjnhifjingeaaGTask1
namespace Go.Proofs.Ytfbjnhifjingeaa
open Go.RowKit

/-- What a new task is, and whether. -/
def newT (t : Tsk) : Tsk := if taskB t then t else Tsk.zero

/-- A new task with a deadline; with a priority; that shares fairly. -/
def dueT (no cpu q p now : Int) : Tsk := ⟨no, 1, cpu, 1, false, q, p, q, now + p, 0, 0, 0, 0, 0⟩
def fixT (no cpu prio round seq : Int) : Tsk := ⟨no, 2, cpu, 1, false, 0, 0, round, 0, prio, round, seq, 0, 0⟩
def fairT (no cpu nice v : Int) : Tsk := ⟨no, 3, cpu, 1, false, 0, 0, 0, 0, 0, 0, 0, nice, v⟩
/-- Whether there is one with a deadline. -/
def dueNewB (no cpu q p now : Int) : Bool := inB now 0 100000 && okB q p && taskB (dueT no cpu q p now)
def dueNewT (no cpu q p now : Int) : Tsk := if dueNewB no cpu q p now then dueT no cpu q p now else Tsk.zero

end Go.Proofs.Ytfbjnhifjingeaa
