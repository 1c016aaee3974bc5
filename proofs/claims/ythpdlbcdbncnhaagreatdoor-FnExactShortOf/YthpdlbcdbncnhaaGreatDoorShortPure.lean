/-
  How short a task with a deadline is; how far apart those are that share fairly on a processor: plain functions of the system.
-/
import Derived.Test.YthpdlbcdbncnhaaGreatDoorGPure2
import Derived.Test.YthpdlbcdbncnhaaGreatDoorGTask2
import Derived.Test.YthpdlbcdbncnhaaGreatDoorGSys4
import Derived.Test.YthpdlbcdbncnhaaGreatDoorGTask3
namespace Go.Proofs.YthpdlbcdbncnhaaGreatDoor
open Go.RowKit

def shortOk (s : Sy) (no : Int) : Bool := sysB s && match s.tasks.findIdx? (fun t => t.no == no) with
  | some i => (s.tasks.getD i Tsk.zero).cls == 1
  | none => false
def shortI (s : Sy) (no : Int) : Int := if shortOk s no then (match s.tasks.findIdx? (fun t => t.no == no) with
  | some i => (s.tasks.getD i Tsk.zero).left - ((s.tasks.getD i Tsk.zero).due - s.now)
  | none => 0) else 0
def spreadOnI (s : Sy) (cpu : Int) : Int := if sysB s then fairSpreadI (awakeL s cpu) else 0
theorem short_none {s : Sy} {no : Int} (h : s.tasks.findIdx? (fun t => t.no == no) = none) : shortOk s no = false ∧ shortI s no = 0 := by
  have e : shortOk s no = false := by unfold shortOk; rw [h]; simp
  exact ⟨e, by unfold shortI; rw [e]; rfl⟩
theorem short_bad {s : Sy} {no : Int} (h : sysB s = false) : shortOk s no = false ∧ shortI s no = 0 := by
  have e : shortOk s no = false := by unfold shortOk; rw [h]; rfl
  exact ⟨e, by unfold shortI; rw [e]; rfl⟩
theorem short_at {s : Sy} {no : Int} {i : Nat} {t : Tsk} (h : s.tasks.findIdx? (fun t => t.no == no) = some i) (ht : s.tasks[i]? = some t) (hs : sysB s = true) :
    shortOk s no = (t.cls == 1) ∧ ((t.cls == 1) = true → shortI s no = t.left - (t.due - s.now)) ∧ ((t.cls == 1) = false → shortI s no = 0) := by
  have e0 : s.tasks.getD i Tsk.zero = t := by rw [List.getD_eq_getElem?_getD, ht]; rfl
  have e : shortOk s no = (t.cls == 1) := by unfold shortOk; rw [h, hs]; simp only [e0, Bool.true_and]
  refine ⟨e, fun c => ?_, fun c => ?_⟩
  · unfold shortI; rw [e, c, h]; simp only [e0, if_true]
  · unfold shortI; rw [e, c]; rfl
theorem find_at {α : Type} {p : α → Bool} : ∀ {xs : List α} {i : Nat}, xs.findIdx? p = some i → ∃ x, xs[i]? = some x ∧ p x = true := by
  intro xs i h
  obtain ⟨h1, h2, _⟩ := List.findIdx?_eq_some_iff_getElem.1 h
  exact ⟨xs[i], by simp [h1], h2⟩
/-- The numbers of a task with a deadline of a right system are small. -/
theorem due_small {t : Tsk} (h : taskB t = true) (c : (t.cls == 1) = true) : (0 ≤ t.left ∧ t.left ≤ 40) ∧ 0 ≤ t.due ∧ t.due ≤ 100040 := by
  unfold taskB at h
  simp only [Bool.and_eq_true] at h
  have h1 := h.2
  unfold ofClassB at h1
  rw [c, if_pos rfl] at h1
  simp only [Bool.and_eq_true, okB, inB_iff] at h1
  omega
end Go.Proofs.YthpdlbcdbncnhaaGreatDoor
