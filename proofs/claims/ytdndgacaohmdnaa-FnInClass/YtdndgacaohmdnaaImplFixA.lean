/-
  Fixed priorities, the program's side: what its functions are made of.
-/
import Derived.Test.YtdndgacaohmdnaaImplTaskOk
import Derived.Test.YtdndgacaohmdnaaFixLaws
import Derived.Test.YtdndgacaohmdnaaBut
import Derived.Test.YtdndgacaohmdnaaJumps
namespace Go.Proofs.Ytdndgacaohmdnaa
open Go.RowKit
attribute [local go_sem] Keeps.refl Keeps.alloc Keeps.drew Keeps.drewN

theorem asFix_of {t : Tsk} (h : t.q = 0 ∧ t.p = 0 ∧ t.due = 0 ∧ t.nice = 0 ∧ t.v = 0) : t.asFix = t := by
  obtain ⟨no, cls, cpu, st, idle, q, p, left, due, prio, round, seq, nice, v⟩ := t
  obtain ⟨rfl, rfl, rfl, rfl, rfl⟩ := h
  rfl
theorem Blk.besides {w w' : World} {b g : Nat} {C : Array Value} (h : Blk w b C) (k : KeepsBut g w w') (hg : b ≠ g) : Blk w' b C := by
  have e := k.block b h.lt hg
  exact ⟨Nat.lt_of_lt_of_le h.lt k.size, fun i => (World.cell?_of_block (w := w) e).trans (h.cells i), fun i => (World.frozen?_of_block (w := w) e).trans (h.frozens i)⟩

set_option maxRecDepth 100000 in
theorem isFixed_any (t : Tsk) (w : World) :
    Calls Try.prog 52 #[tk t] w fun e w' => e = .returned (.bool (fixB t)) ∧ Keeps w w' := by
  cases c1 : (t.cls == 2)
  · have Hr : Hid (fixB t = false) := by show _ = _; simp [fixB, c1]
    go_enter Try.func52, Try.ntmps52
    go_wp2
    go_ret
    exact ⟨by rw [Hr.out]; rfl, (Keeps.refl _).alloc _⟩
  · have Hr : Hid (fixB t = taskB t) := by show _ = _; simp [fixB, c1]
    go_enter Try.func52, Try.ntmps52
    go_wp2_with (go_at_call 23; refine (implTaskOk_says t _).mono ?_; rintro e w1 ⟨rfl, k1⟩)
    go_ret
    exact ⟨by rw [Hr.out]; rfl, ((Keeps.refl w).alloc _).trans k1⟩

end Go.Proofs.Ytdndgacaohmdnaa
