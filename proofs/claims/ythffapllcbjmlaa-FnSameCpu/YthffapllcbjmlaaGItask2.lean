/-
  What a task is: the program's TaskOk.
  Lists of tasks: the program's TaskAt, TasksOk and what puts a task among others.
  New tasks: the program's.
  Weights and steps: the program's.
-/
import Derived.Test.YthffapllcbjmlaaImplWhole
import Derived.Test.YthffapllcbjmlaaGTask3
import Derived.Test.YthffapllcbjmlaaGTask4
import Derived.Test.YthffapllcbjmlaaGBase1
import Derived.Test.YthffapllcbjmlaaGTask2
namespace Go.Proofs.Ythffapllcbjmlaa
open Go.RowKit
attribute [local go_sem high] run_eql_task

theorem head_iff (t : Tsk) : headB t = true ↔ (1 ≤ t.no ∧ t.no ≤ 1000) ∧ (0 ≤ t.cpu ∧ t.cpu ≤ 3) ∧ (1 ≤ t.st ∧ t.st ≤ 2) := by
  simp only [headB, Bool.and_eq_true, Bool.or_eq_true, beq_iff_eq, inB_iff]; omega
theorem taskB_due (t : Tsk) (c1 : (t.cls == 1) = true) : taskB t = (headB t && dueNB t && eqT t.asDue t) := by
  obtain ⟨no, cls, cpu, st, idle, q, p, left, due, prio, round, seq, nice, v⟩ := t
  simp only [beq_iff_eq] at c1
  subst c1
  rw [Bool.eq_iff_iff]
  simp only [Bool.and_eq_true, head_iff, eqT_iff]
  simp [taskB, cleanB, ofClassB, dueNB, fixZ, fairZ, Tsk.asDue, inB_iff, okB_iff]
  omega
theorem taskB_fix (t : Tsk) (c2 : (t.cls == 2) = true) : taskB t = (headB t && fixNB t && eqT t.asFix t) := by
  obtain ⟨no, cls, cpu, st, idle, q, p, left, due, prio, round, seq, nice, v⟩ := t
  simp only [beq_iff_eq] at c2
  subst c2
  rw [Bool.eq_iff_iff]
  simp only [Bool.and_eq_true, head_iff, eqT_iff]
  by_cases hr : round = 0
  · subst hr
    simp [taskB, cleanB, ofClassB, fixNB, leftB, dueZ, fairZ, Tsk.asFix, inB_iff]
    omega
  · simp [taskB, cleanB, ofClassB, fixNB, leftB, dueZ, fairZ, Tsk.asFix, inB_iff, hr]
    omega
theorem taskB_fair (t : Tsk) (c3 : (t.cls == 3) = true) : taskB t = (headB t && fairNB t && eqT t.asFair t) := by
  obtain ⟨no, cls, cpu, st, idle, q, p, left, due, prio, round, seq, nice, v⟩ := t
  simp only [beq_iff_eq] at c3
  subst c3
  rw [Bool.eq_iff_iff]
  simp only [Bool.and_eq_true, head_iff, eqT_iff]
  simp [taskB, cleanB, ofClassB, fairNB, dueZ, fixZ, Tsk.asFair, inB_iff]
  omega
theorem taskB_none (t : Tsk) (c1 : (t.cls == 1) = false) (c2 : (t.cls == 2) = false) (c3 : (t.cls == 3) = false) : taskB t = false := by
  have : inB t.cls 1 3 = false := inB_no (by simp at c1 c2 c3; omega)
  simp [taskB, this]

end Go.Proofs.Ythffapllcbjmlaa
namespace Go.Proofs.Ythffapllcbjmlaa
open Go.RowKit
attribute [local go_sem] Keeps.refl Keeps.alloc Keeps.drew Keeps.drewN

theorem atFrom_here {ts : List Tsk} {no : Int} {k : Nat} {t : Tsk} (ht : ts[k]? = some t) (hq : (t.no == no) = true) (H : ∀ (j : Nat) (s : Tsk), j < k → ts[j]? = some s → (s.no == no) = false) : atFrom ts no = k := by
  have hk' : k < ts.length := by
    rcases Nat.lt_or_ge k ts.length with h | h
    · exact h
    · simp [List.getElem?_eq_none h] at ht
  have : ts.findIdx? (fun t => t.no == no) = some k := by
    rw [List.findIdx?_eq_some_iff_getElem]
    have e1 : ts[k] = t := by rw [List.getElem?_eq_getElem hk'] at ht; simpa using ht
    refine ⟨hk', by rw [e1]; exact hq, fun j hj => ?_⟩
    have := H j ts[j] hj (List.getElem?_eq_getElem _)
    simp [this]
  simp [atFrom, this]
theorem atFrom_none {ts : List Tsk} {no : Int} (H : ∀ (j : Nat) (s : Tsk), ts[j]? = some s → (s.no == no) = false) : atFrom ts no = -1 := by
  have : ts.findIdx? (fun t => t.no == no) = none := by
    rw [List.findIdx?_eq_none_iff]
    intro t ht
    obtain ⟨j, hj, rfl⟩ := List.mem_iff_getElem.1 ht
    exact H j _ (List.getElem?_eq_getElem hj)
  simp [atFrom, this]

set_option maxRecDepth 100000 in
set_option maxHeartbeats 1000000 in
theorem implTaskAt_says : SaysTaskAt := by
  intro a cap ts no w hl hs
  unfold maxLen at hl
  generalize hn : ts.length = n at hl
  have Hn : Hid (ts.length = n) := hn
  clear hn
  go_enter Try.func15, Try.ntmps15
  go_wp2
  go_loopw [9] (fun i wr => ∃ k : Nat, k ≤ n ∧ i = .int .i64 k ∧ Keeps w wr ∧ Hid (∀ j t, j < k → ts[j]? = some t → (t.no == no) = false)) (fun i _ => n - (intOf i).toNat)
  case atStart => exact ⟨0, Nat.zero_le _, rfl, Keeps.refl _, fun j t hj => by omega⟩
  case round =>
    obtain ⟨k, hk, rfl, hK, H⟩ := hrel
    by_cases hlt : k < n
    · obtain ⟨t, ht⟩ := some_at (xs := ts) (k := k) (by rw [Hn.out]; exact hlt)
      obtain ⟨b, off, rfl, r0, r1⟩ := hs.at ht (by omega)
      have hlt' : (k : Int) < (n : Int) := by omega
      have Ht : Hid (ts[k]? = some t) := ht
      clear hs ht
      cases hq : (t.no == no)
      · go_wp2
        exact ⟨⟨k + 1, by omega, by go_num, hK.alloc _, fun j s hj hs => by
          by_cases e : j = k
          · subst e; rw [Ht.out] at hs; cases hs; exact hq
          · exact H.out j s (by omega) hs⟩, by simp only [intOf]; omega⟩
      · have Hr : Hid (atFrom ts no = k) := atFrom_here Ht.out hq H.out
        go_wp2
        go_ret
        exact ⟨by rw [Hr.out]; rfl, hK.alloc _⟩
    · have Hr : Hid (atFrom ts no = -1) := atFrom_none fun j s hs => by
        refine H.out j s ?_ hs
        rcases Nat.lt_or_ge j ts.length with h' | h'
        · have := Hn.out; omega
        · simp [List.getElem?_eq_none h'] at hs
      go_wp2
      go_ret
      exact ⟨by rw [Hr.out]; rfl, hK⟩
end Go.Proofs.Ythffapllcbjmlaa
namespace Go.Proofs.Ythffapllcbjmlaa
open Go.RowKit

/-- A new task with a deadline at whatever number. -/
def dueAt (no cpu q p d : Int) : Tsk := ⟨no, 1, cpu, 1, false, q, p, q, d, 0, 0, 0, 0, 0⟩
theorem wrap64_in {n : Int} (h : -9223372036854775808 ≤ n ∧ n ≤ 9223372036854775807) : wrap64 n = n := by
  unfold wrap64; omega
theorem taskB_dueAt {no cpu q p d : Int} (h : okB q p = false) : taskB (dueAt no cpu q p d) = false := by
  simp [taskB, ofClassB, dueAt, h]

end Go.Proofs.Ythffapllcbjmlaa
namespace Go.Proofs.Ythffapllcbjmlaa
open Go.RowKit

theorem nine0 {x : Int} (h1 : 0 ≤ x) (h2 : x ≤ 8) : x = 0 ∨ x = 1 ∨ x = 2 ∨ x = 3 ∨ x = 4 ∨ x = 5 ∨ x = 6 ∨ x = 7 ∨ x = 8 := by omega

end Go.Proofs.Ythffapllcbjmlaa
