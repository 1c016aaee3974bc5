/-
  New tasks: contracts of the model's functions.
  What is a nice: the contract of the program's NiceOk.
  The walks of the exact laws over one task, over contracts of the program's functions.
-/
import Derived.Test.YtfbjnhifjingeaaGreatDoorGTask2
import Derived.Test.YtfbjnhifjingeaaGreatDoorGBase1
import Derived.Test.YtfbjnhifjingeaaGreatDoorGTask1
namespace Go.Proofs.YtfbjnhifjingeaaGreatDoor
open Go.RowKit

/-- What a new task is, and whether. -/
def newT (t : Tsk) : Tsk := if taskB t then t else Tsk.zero

/-- A new task with a deadline; with a priority; that shares fairly. -/
def dueT (no cpu q p now : Int) : Tsk := ⟨no, 1, cpu, 1, false, q, p, q, now + p, 0, 0, 0, 0, 0⟩
def fixT (no cpu prio round seq : Int) : Tsk := ⟨no, 2, cpu, 1, false, 0, 0, round, 0, prio, round, seq, 0, 0⟩
def fairT (no cpu nice v : Int) : Tsk := ⟨no, 3, cpu, 1, false, 0, 0, 0, 0, 0, 0, 0, nice, v⟩
/-- Whether there is one with a deadline. -/
def dueNewB (no cpu q p now : Int) : Bool := inB now 0 100000 && okB q p && taskB (dueT no cpu q p now)
def dueNewT (no cpu q p now : Int) : Tsk := if dueNewB no cpu q p now then dueT no cpu q p now else Tsk.zero

end Go.Proofs.YtfbjnhifjingeaaGreatDoor
namespace Go.Proofs.YtfbjnhifjingeaaGreatDoor
open Go.RowKit

theorem implNiceOk_any (x : Int) (w : World) :
    Calls Tryz.prog 106 #[.int .i64 x] w fun e w' => e = .returned (.bool (inB x (-4) 4)) ∧ w' = w := by
  by_cases h1 : -4 ≤ x
  · by_cases h2 : x ≤ 4
    · have Hr : Hid (inB x (-4) 4 = true) := inB_yes h1 h2
      go_enter Tryz.func106, Tryz.ntmps106
      go_wp2
      go_ret
      exact ⟨by rw [Hr.out]; rfl, rfl⟩
    · have Hr : Hid (inB x (-4) 4 = false) := inB_no (.inr (by omega))
      have hd : decide (x ≤ 4) = false := by simpa using h2
      go_enter Tryz.func106, Tryz.ntmps106
      go_wp2
      go_ret
      exact ⟨by rw [Hr.out]; rfl, rfl⟩
  · have Hr : Hid (inB x (-4) 4 = false) := inB_no (.inl (by omega))
    have hd : decide (-4 ≤ x) = false := by simpa using h1
    go_enter Tryz.func106, Tryz.ntmps106
    go_wp2
    go_ret
    exact ⟨by rw [Hr.out]; rfl, rfl⟩

end Go.Proofs.YtfbjnhifjingeaaGreatDoor
namespace Go.Proofs.YtfbjnhifjingeaaGreatDoor
open Go.RowKit
attribute [local go_sem] Keeps.refl Keeps.alloc Keeps.drew Keeps.drewN

/-- What the program's functions are held to. -/
def SaysTaskOk : Prop := ∀ (t : Tsk) (w : World), Calls Tryz.prog 77 #[tk t] w fun e w' => e = .returned (.bool (taskB t)) ∧ Keeps w w'
end Go.Proofs.YtfbjnhifjingeaaGreatDoor
