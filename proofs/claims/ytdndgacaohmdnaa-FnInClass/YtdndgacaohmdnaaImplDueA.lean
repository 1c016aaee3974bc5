/-
  Deadlines, the program's side: what its functions are made of.
-/
import Derived.Test.YtdndgacaohmdnaaImplTaskOk
import Derived.Test.YtdndgacaohmdnaaDueLaws
namespace Go.Proofs.Ytdndgacaohmdnaa
open Go.RowKit
attribute [local go_sem] Keeps.refl Keeps.alloc Keeps.drew Keeps.drewN

theorem asDue_of {t : Tsk} (h : t.prio = 0 ∧ t.round = 0 ∧ t.seq = 0 ∧ t.nice = 0 ∧ t.v = 0) : t.asDue = t := by
  obtain ⟨no, cls, cpu, st, idle, q, p, left, due, prio, round, seq, nice, v⟩ := t
  obtain ⟨rfl, rfl, rfl, rfl, rfl⟩ := h
  rfl

set_option maxRecDepth 100000 in
theorem isDue_any (t : Tsk) (w : World) :
    Calls Try.prog 48 #[tk t] w fun e w' => e = .returned (.bool (dueB t)) ∧ Keeps w w' := by
  cases c1 : (t.cls == 1)
  · have Hr : Hid (dueB t = false) := by show _ = _; simp [dueB, c1]
    go_enter Try.func48, Try.ntmps48
    go_wp2
    go_ret
    exact ⟨by rw [Hr.out]; rfl, (Keeps.refl _).alloc _⟩
  · have Hr : Hid (dueB t = taskB t) := by show _ = _; simp [dueB, c1]
    go_enter Try.func48, Try.ntmps48
    go_wp2_with (go_at_call 23; refine (implTaskOk_says t _).mono ?_; rintro e w1 ⟨rfl, k1⟩)
    go_ret
    exact ⟨by rw [Hr.out]; rfl, ((Keeps.refl w).alloc _).trans k1⟩

/-- A task whose time begins anew. -/
abbrev refT (t : Tsk) (d : Int) : Tsk := { t with left := t.q, due := d }
end Go.Proofs.Ytdndgacaohmdnaa
