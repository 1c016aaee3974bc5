/-
  Deadlines, as plain functions: what a task that wakes, is renewed, spends is; and what holds of them.
-/
import Derived.Test.YtdndgacaohmdnaaTaskSpec
namespace Go.Proofs.Ytdndgacaohmdnaa
open Go.RowKit

/-- It is a task with a deadline. -/
def dueB (t : Tsk) : Bool := taskB t && t.cls == 1
/-- Its deadline has come, or more is left than its part of the time up to it. -/
def lateB (t : Tsk) (now : Int) : Bool := decide (t.due ≤ now) || decide ((t.due - now) * t.q < t.left * t.p)
def wakeB (t : Tsk) (now : Int) : Bool := dueB t && inB now 0 100000 && lateB t now
def wakeT (t : Tsk) (now : Int) : Tsk := if wakeB t now then { t with left := t.q, due := now + t.p } else t
def renewB (t : Tsk) (now : Int) : Bool := dueB t && inB now 0 100000 && decide (t.due ≤ now)
def renewT (t : Tsk) (now : Int) : Tsk := if renewB t now then { t with left := t.q, due := t.due + t.p } else t
def spendB (t : Tsk) : Bool := dueB t && decide (0 < t.left)
def spendT (t : Tsk) : Tsk := if spendB t then { t with left := t.left - 1 } else t
def dueBefB (a b : Tsk) : Bool := dueB a && dueB b && (decide (a.due < b.due) || a.due == b.due && decide (a.no < b.no))
def dueQ (t : Tsk) : Int := if dueB t then t.q else 0
def dueP (t : Tsk) : Int := if dueB t then t.p else 0

/-- What a task with a deadline holds. -/
structure IsDue (t : Tsk) : Prop where
  cls : t.cls = 1
  no : 1 ≤ t.no ∧ t.no ≤ 1000
  cpu : 0 ≤ t.cpu ∧ t.cpu ≤ 3
  st : 1 ≤ t.st ∧ t.st ≤ 2
  p : 1 ≤ t.p ∧ t.p ≤ 40
  q : 1 ≤ t.q ∧ t.q ≤ t.p
  left : 0 ≤ t.left ∧ t.left ≤ t.q
  due : 0 ≤ t.due ∧ t.due ≤ 100040
  none : t.prio = 0 ∧ t.round = 0 ∧ t.seq = 0 ∧ t.nice = 0 ∧ t.v = 0
theorem dueB_iff (t : Tsk) : dueB t = true ↔ IsDue t := by
  constructor
  · intro h
    simp only [dueB, Bool.and_eq_true, beq_iff_eq] at h
    obtain ⟨h1, h2⟩ := h
    simp [taskB, cleanB, ofClassB, h2, fixZ, fairZ, inB_iff, okB_iff] at h1
    obtain ⟨⟨⟨⟨hno, hcpu⟩, hst⟩, hz⟩, ⟨⟨hp, hq⟩, hl⟩, hd⟩ := h1
    exact ⟨h2, by omega, by omega, by omega, by omega, by omega, by omega, by omega, by omega, by omega, by omega, by omega, by omega⟩
  · rintro ⟨h2, hno, hcpu, hst, hp, hq, hl, hd, h0, h1, h3, h4, h5⟩
    simp [dueB, taskB, cleanB, ofClassB, h2, fixZ, fairZ, inB_iff, okB_iff, h0, h1, h3, h4, h5]
    omega
theorem mul_bd {a b A B : Int} (a0 : 0 ≤ a) (a1 : a ≤ A) (b0 : 0 ≤ b) (b1 : b ≤ B) : 0 ≤ a * b ∧ a * b ≤ A * B :=
  ⟨Int.mul_nonneg a0 b0, Int.mul_le_mul a1 b1 b0 (by omega)⟩

/-- A task that is woken: right, its deadline ahead, no more left than its part; woken again it is as it is. -/
theorem wake_due {t : Tsk} (h : IsDue t) {now : Int} (hn : 0 ≤ now ∧ now ≤ 100000) :
    IsDue (wakeT t now) ∧ now < (wakeT t now).due ∧ (wakeT t now).left * (wakeT t now).p ≤ ((wakeT t now).due - now) * (wakeT t now).q ∧ wakeT (wakeT t now) now = wakeT t now ∧
      ((wakeT t now).due = t.due ∧ (wakeT t now).left = t.left ∨ (wakeT t now).due = now + t.p ∧ (wakeT t now).left = t.q) := by
  have hn' : inB now 0 100000 = true := inB_iff.2 hn
  have hd : dueB t = true := (dueB_iff t).2 h
  cases hl : lateB t now
  · have e : wakeT t now = t := by simp [wakeT, wakeB, hl]
    have hl' := hl
    simp only [lateB, Bool.or_eq_false_iff, decide_eq_false_iff_not] at hl'
    rw [e]
    exact ⟨h, by omega, by omega, e, .inl ⟨rfl, rfl⟩⟩
  · have e : wakeT t now = { t with left := t.q, due := now + t.p } := by simp [wakeT, wakeB, hl, hn', hd]
    have i2 : IsDue { t with left := t.q, due := now + t.p } := by
      obtain ⟨h1, h2, h3, h4, h5, h6, h7, h8, h9⟩ := h
      exact ⟨h1, h2, h3, h4, h5, h6, by constructor <;> dsimp only <;> omega, by constructor <;> dsimp only <;> omega, h9⟩
    have e2 : wakeT { t with left := t.q, due := now + t.p } now = { t with left := t.q, due := now + t.p } := by
      have : lateB { t with left := t.q, due := now + t.p } now = false := by
        simp only [lateB, Bool.or_eq_false_iff, decide_eq_false_iff_not]
        have hp := h.p
        refine ⟨by omega, ?_⟩
        rw [show now + t.p - now = t.p by omega, Int.mul_comm]
        omega
      simp [wakeT, wakeB, this]
    rw [e]
    have hp := h.p
    refine ⟨i2, by dsimp only; omega, ?_, e2, .inr ⟨rfl, rfl⟩⟩
    dsimp only
    rw [show now + t.p - now = t.p by omega, Int.mul_comm]
    omega
theorem renew_due {t : Tsk} (h : IsDue t) {now : Int} (hn : 0 ≤ now ∧ now ≤ 100000) (hd : t.due ≤ now) : renewT t now = { t with left := t.q, due := t.due + t.p } ∧ IsDue (renewT t now) := by
  have e : renewT t now = { t with left := t.q, due := t.due + t.p } := by simp [renewT, renewB, (dueB_iff t).2 h, inB_iff.2 hn, hd]
  refine ⟨e, ?_⟩
  rw [e]
  obtain ⟨h1, h2, h3, h4, h5, h6, h7, h8, h9⟩ := h
  exact ⟨h1, h2, h3, h4, h5, h6, by constructor <;> dsimp only <;> omega, by constructor <;> dsimp only <;> omega, h9⟩
/-- So many spent. -/
def spentT (t : Tsk) (i : Int) : Tsk := { t with left := max 0 (t.left - i) }
theorem spent_due {t : Tsk} (h : IsDue t) {i : Int} (hi : 0 ≤ i) : IsDue (spentT t i) := by
  obtain ⟨h1, h2, h3, h4, h5, h6, h7, h8, h9⟩ := h
  exact ⟨h1, h2, h3, h4, h5, h6, by unfold spentT; constructor <;> dsimp only <;> omega, h8, h9⟩
theorem spent_step {t : Tsk} (h : IsDue t) {i : Int} (hi : 0 ≤ i) : spendT (spentT t i) = spentT t (i + 1) := by
  have hd := (dueB_iff _).2 (spent_due h hi)
  have hl := h.left
  unfold spendT spendB
  rw [hd, Bool.true_and]
  by_cases h0 : 0 < (spentT t i).left
  · rw [if_pos (by simpa using h0)]
    unfold spentT at h0 ⊢
    dsimp only at h0 ⊢
    congr 1
    omega
  · rw [if_neg (by simpa using h0)]
    unfold spentT at h0 ⊢
    dsimp only at h0 ⊢
    congr 1
    omega
theorem spent_zero {t : Tsk} (h : IsDue t) : spentT t 0 = t := by
  have hl := h.left
  unfold spentT
  have : max 0 (t.left - 0) = t.left := by omega
  rw [this]
end Go.Proofs.Ytdndgacaohmdnaa
