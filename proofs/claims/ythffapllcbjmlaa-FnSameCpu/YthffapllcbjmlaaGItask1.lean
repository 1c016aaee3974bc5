/-
  The program's own test whether a number lies between two.
  The program's task by its parts: the head that all classes share, and each class's own numbers.
  The program's task of each class: taken out of a task, and made whole again.
-/
import Derived.Test.YthffapllcbjmlaaGBase1
import Derived.Test.YthffapllcbjmlaaGTask2
import Derived.Test.YthffapllcbjmlaaGTask4
import Derived.BigRegion
namespace Go.Proofs.Ythffapllcbjmlaa
open Go.RowKit

set_option maxRecDepth 100000 in
theorem isWithin_any (x lo hi : Int) (w : World) :
    Calls Try.prog 24 #[.int .i64 x, .int .i64 lo, .int .i64 hi] w fun e w' => e = .returned (.bool (inB x lo hi)) ∧ w' = w := by
  by_cases h1 : lo ≤ x
  · by_cases h2 : x ≤ hi
    · have Hr : Hid (inB x lo hi = true) := inB_yes h1 h2
      go_enter Try.func24, Try.ntmps24
      go_wp2
      go_ret
      exact ⟨by rw [Hr.out]; rfl, rfl⟩
    · have Hr : Hid (inB x lo hi = false) := inB_no (.inr (by omega))
      have hd : decide (x ≤ hi) = false := by simpa using h2
      go_enter Try.func24, Try.ntmps24
      go_wp2
      go_ret
      exact ⟨by rw [Hr.out]; rfl, rfl⟩
  · have Hr : Hid (inB x lo hi = false) := inB_no (.inl (by omega))
    have hd : decide (lo ≤ x) = false := by simpa using h1
    go_enter Try.func24, Try.ntmps24
    go_wp2
    go_ret
    exact ⟨by rw [Hr.out]; rfl, rfl⟩
end Go.Proofs.Ythffapllcbjmlaa
namespace Go.Proofs.Ythffapllcbjmlaa
open Go.RowKit

/-- The cells of a task's head. -/
abbrev hc (t : Tsk) : Array Value := #[.int .i64 t.no, .int .i64 t.cls, .int .i64 t.cpu, .int .i64 t.st, .bool t.idle]
/-- The cells of the numbers of each class. -/
abbrev dnc (t : Tsk) : Array Value := #[.int .i64 t.q, .int .i64 t.p, .int .i64 t.left, .int .i64 t.due]
abbrev fnc (t : Tsk) : Array Value := #[.int .i64 t.prio, .int .i64 t.round, .int .i64 t.left, .int .i64 t.seq]
abbrev rnc (t : Tsk) : Array Value := #[.int .i64 t.nice, .int .i64 t.v]

/-- The head alone, as a task. -/
def Tsk.bare (t : Tsk) : Tsk := ⟨t.no, t.cls, t.cpu, t.st, t.idle, 0, 0, 0, 0, 0, 0, 0, 0, 0⟩
/-- The head is right. -/
def headB (t : Tsk) : Bool := inB t.no 1 1000 && inB t.cpu 0 3 && (t.st == 1 || t.st == 2)
def dueNB (t : Tsk) : Bool := okB t.q t.p && inB t.left 0 t.q && inB t.due 0 100040
def leftB (t : Tsk) : Bool := if t.round == 0 then t.left == 0 else inB t.left 1 t.round
def fixNB (t : Tsk) : Bool := inB t.prio 1 20 && inB t.round 0 10 && leftB t && inB t.seq 0 1000000
def fairNB (t : Tsk) : Bool := inB t.nice (-4) 4 && inB t.v 0 100000000

end Go.Proofs.Ythffapllcbjmlaa
namespace Go.Proofs.Ythffapllcbjmlaa
open Go.RowKit

/-- The cells of a task of each class. -/
abbrev dtc (t : Tsk) : Array Value := #[.int .i64 t.no, .int .i64 t.cls, .int .i64 t.cpu, .int .i64 t.st, .bool t.idle, .int .i64 t.q, .int .i64 t.p, .int .i64 t.left, .int .i64 t.due]
abbrev ftc (t : Tsk) : Array Value := #[.int .i64 t.no, .int .i64 t.cls, .int .i64 t.cpu, .int .i64 t.st, .bool t.idle, .int .i64 t.prio, .int .i64 t.round, .int .i64 t.left, .int .i64 t.seq]
abbrev rtc (t : Tsk) : Array Value := #[.int .i64 t.no, .int .i64 t.cls, .int .i64 t.cpu, .int .i64 t.st, .bool t.idle, .int .i64 t.nice, .int .i64 t.v]
/-- What is left of a task where only what its class names is kept. -/
def Tsk.asDue (t : Tsk) : Tsk := ⟨t.no, t.cls, t.cpu, t.st, t.idle, t.q, t.p, t.left, t.due, 0, 0, 0, 0, 0⟩
def Tsk.asFix (t : Tsk) : Tsk := ⟨t.no, t.cls, t.cpu, t.st, t.idle, 0, 0, t.left, 0, t.prio, t.round, t.seq, 0, 0⟩
def Tsk.asFair (t : Tsk) : Tsk := ⟨t.no, t.cls, t.cpu, t.st, t.idle, 0, 0, 0, 0, 0, 0, 0, t.nice, t.v⟩

end Go.Proofs.Ythffapllcbjmlaa
