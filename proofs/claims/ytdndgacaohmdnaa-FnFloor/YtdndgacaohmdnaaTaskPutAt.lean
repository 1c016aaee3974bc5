/-
  A task is written over an element of a row.
-/
import Derived.Test.YtdndgacaohmdnaaTaskBase
import Derived.Test.YtdndgacaohmdnaaLies
namespace Go.Proofs.Ytdndgacaohmdnaa
open Go.RowKit

/-- From the place o of the block b on stands the task t. -/
abbrev putAt (w : World) (b o : Nat) (t : Tsk) : World := ((((((((((((((w.setCell ⟨b, o, none⟩ (.int .i64 t.no)).setCell ⟨b, o + 1, none⟩ (.int .i64 t.cls)).setCell ⟨b, o + 2, none⟩ (.int .i64 t.cpu)).setCell ⟨b, o + 3, none⟩ (.int .i64 t.st)).setCell ⟨b, o + 4, none⟩ (.bool t.idle)).setCell ⟨b, o + 5, none⟩ (.int .i64 t.q)).setCell ⟨b, o + 6, none⟩ (.int .i64 t.p)).setCell ⟨b, o + 7, none⟩ (.int .i64 t.left)).setCell ⟨b, o + 8, none⟩ (.int .i64 t.due)).setCell ⟨b, o + 9, none⟩ (.int .i64 t.prio)).setCell ⟨b, o + 10, none⟩ (.int .i64 t.round)).setCell ⟨b, o + 11, none⟩ (.int .i64 t.seq)).setCell ⟨b, o + 12, none⟩ (.int .i64 t.nice)).setCell ⟨b, o + 13, none⟩ (.int .i64 t.v))
theorem putAt_other {w : World} {b o b' o' : Nat} (t : Tsk) (h : b ≠ b' ∨ o' < o ∨ o + 14 ≤ o') : (putAt w b o t).cell? ⟨b', o', none⟩ = w.cell? ⟨b', o', none⟩ := by
  rw [setCell_other (by omega)]
  rw [setCell_other (by omega)]
  rw [setCell_other (by omega)]
  rw [setCell_other (by omega)]
  rw [setCell_other (by omega)]
  rw [setCell_other (by omega)]
  rw [setCell_other (by omega)]
  rw [setCell_other (by omega)]
  rw [setCell_other (by omega)]
  rw [setCell_other (by omega)]
  rw [setCell_other (by omega)]
  rw [setCell_other (by omega)]
  rw [setCell_other (by omega)]
  rw [setCell_other (by omega)]
theorem putAt_frozen {w : World} {b o b' o' : Nat} (t : Tsk) : (putAt w b o t).frozen? ⟨b', o', none⟩ = w.frozen? ⟨b', o', none⟩ := by simp
theorem putAt_in {w : World} {b o : Nat} (t : Tsk) (h : ∀ m, m < 14 → ∃ v, w.cell? ⟨b, o + m, none⟩ = some v) : ∀ m, m < 14 → (putAt w b o t).cell? ⟨b, o + m, none⟩ = (tc t)[m]? := by
  intro m hm
  obtain ⟨u, hu⟩ := h m hm
  by_cases e0 : m = 0
  · subst e0
    simp only [Nat.add_zero] at hu ⊢
    rw [setCell_other (by omega), setCell_other (by omega), setCell_other (by omega), setCell_other (by omega), setCell_other (by omega), setCell_other (by omega), setCell_other (by omega), setCell_other (by omega), setCell_other (by omega), setCell_other (by omega), setCell_other (by omega), setCell_other (by omega), setCell_other (by omega)]
    exact setCell_same (u := u) hu _
  by_cases e1 : m = 1
  · subst e1
    rw [setCell_other (by omega), setCell_other (by omega), setCell_other (by omega), setCell_other (by omega), setCell_other (by omega), setCell_other (by omega), setCell_other (by omega), setCell_other (by omega), setCell_other (by omega), setCell_other (by omega), setCell_other (by omega), setCell_other (by omega)]
    exact setCell_same (u := u) (by rw [setCell_other (by omega)]; exact hu) _
  by_cases e2 : m = 2
  · subst e2
    rw [setCell_other (by omega), setCell_other (by omega), setCell_other (by omega), setCell_other (by omega), setCell_other (by omega), setCell_other (by omega), setCell_other (by omega), setCell_other (by omega), setCell_other (by omega), setCell_other (by omega), setCell_other (by omega)]
    exact setCell_same (u := u) (by rw [setCell_other (by omega), setCell_other (by omega)]; exact hu) _
  by_cases e3 : m = 3
  · subst e3
    rw [setCell_other (by omega), setCell_other (by omega), setCell_other (by omega), setCell_other (by omega), setCell_other (by omega), setCell_other (by omega), setCell_other (by omega), setCell_other (by omega), setCell_other (by omega), setCell_other (by omega)]
    exact setCell_same (u := u) (by rw [setCell_other (by omega), setCell_other (by omega), setCell_other (by omega)]; exact hu) _
  by_cases e4 : m = 4
  · subst e4
    rw [setCell_other (by omega), setCell_other (by omega), setCell_other (by omega), setCell_other (by omega), setCell_other (by omega), setCell_other (by omega), setCell_other (by omega), setCell_other (by omega), setCell_other (by omega)]
    exact setCell_same (u := u) (by rw [setCell_other (by omega), setCell_other (by omega), setCell_other (by omega), setCell_other (by omega)]; exact hu) _
  by_cases e5 : m = 5
  · subst e5
    rw [setCell_other (by omega), setCell_other (by omega), setCell_other (by omega), setCell_other (by omega), setCell_other (by omega), setCell_other (by omega), setCell_other (by omega), setCell_other (by omega)]
    exact setCell_same (u := u) (by rw [setCell_other (by omega), setCell_other (by omega), setCell_other (by omega), setCell_other (by omega), setCell_other (by omega)]; exact hu) _
  by_cases e6 : m = 6
  · subst e6
    rw [setCell_other (by omega), setCell_other (by omega), setCell_other (by omega), setCell_other (by omega), setCell_other (by omega), setCell_other (by omega), setCell_other (by omega)]
    exact setCell_same (u := u) (by rw [setCell_other (by omega), setCell_other (by omega), setCell_other (by omega), setCell_other (by omega), setCell_other (by omega), setCell_other (by omega)]; exact hu) _
  by_cases e7 : m = 7
  · subst e7
    rw [setCell_other (by omega), setCell_other (by omega), setCell_other (by omega), setCell_other (by omega), setCell_other (by omega), setCell_other (by omega)]
    exact setCell_same (u := u) (by rw [setCell_other (by omega), setCell_other (by omega), setCell_other (by omega), setCell_other (by omega), setCell_other (by omega), setCell_other (by omega), setCell_other (by omega)]; exact hu) _
  by_cases e8 : m = 8
  · subst e8
    rw [setCell_other (by omega), setCell_other (by omega), setCell_other (by omega), setCell_other (by omega), setCell_other (by omega)]
    exact setCell_same (u := u) (by rw [setCell_other (by omega), setCell_other (by omega), setCell_other (by omega), setCell_other (by omega), setCell_other (by omega), setCell_other (by omega), setCell_other (by omega), setCell_other (by omega)]; exact hu) _
  by_cases e9 : m = 9
  · subst e9
    rw [setCell_other (by omega), setCell_other (by omega), setCell_other (by omega), setCell_other (by omega)]
    exact setCell_same (u := u) (by rw [setCell_other (by omega), setCell_other (by omega), setCell_other (by omega), setCell_other (by omega), setCell_other (by omega), setCell_other (by omega), setCell_other (by omega), setCell_other (by omega), setCell_other (by omega)]; exact hu) _
  by_cases e10 : m = 10
  · subst e10
    rw [setCell_other (by omega), setCell_other (by omega), setCell_other (by omega)]
    exact setCell_same (u := u) (by rw [setCell_other (by omega), setCell_other (by omega), setCell_other (by omega), setCell_other (by omega), setCell_other (by omega), setCell_other (by omega), setCell_other (by omega), setCell_other (by omega), setCell_other (by omega), setCell_other (by omega)]; exact hu) _
  by_cases e11 : m = 11
  · subst e11
    rw [setCell_other (by omega), setCell_other (by omega)]
    exact setCell_same (u := u) (by rw [setCell_other (by omega), setCell_other (by omega), setCell_other (by omega), setCell_other (by omega), setCell_other (by omega), setCell_other (by omega), setCell_other (by omega), setCell_other (by omega), setCell_other (by omega), setCell_other (by omega), setCell_other (by omega)]; exact hu) _
  by_cases e12 : m = 12
  · subst e12
    rw [setCell_other (by omega)]
    exact setCell_same (u := u) (by rw [setCell_other (by omega), setCell_other (by omega), setCell_other (by omega), setCell_other (by omega), setCell_other (by omega), setCell_other (by omega), setCell_other (by omega), setCell_other (by omega), setCell_other (by omega), setCell_other (by omega), setCell_other (by omega), setCell_other (by omega)]; exact hu) _
  by_cases e13 : m = 13
  · subst e13
    exact setCell_same (u := u) (by rw [setCell_other (by omega), setCell_other (by omega), setCell_other (by omega), setCell_other (by omega), setCell_other (by omega), setCell_other (by omega), setCell_other (by omega), setCell_other (by omega), setCell_other (by omega), setCell_other (by omega), setCell_other (by omega), setCell_other (by omega), setCell_other (by omega)]; exact hu) _
  omega
theorem putAt_row {w : World} {b o n : Nat} {T : TypeId} {f : Nat → Value} (h : w.rowIs b T n f) (t : Tsk) : ∃ f', (putAt w b o t).rowIs b T n f' := ⟨_, (((((((((((((h.set _ _).set _ _).set _ _).set _ _).set _ _).set _ _).set _ _).set _ _).set _ _).set _ _).set _ _).set _ _).set _ _).set _ _⟩
theorem Keeps.putAt {a w : World} {b o : Nat} (h : Keeps a w) (hp : a.heap.size ≤ b) (t : Tsk) : Keeps a (Go.Proofs.Ytdndgacaohmdnaa.putAt w b o t) := (((((((((((((h.setCell hp _).setCell hp _).setCell hp _).setCell hp _).setCell hp _).setCell hp _).setCell hp _).setCell hp _).setCell hp _).setCell hp _).setCell hp _).setCell hp _).setCell hp _).setCell hp _
end Go.Proofs.Ytdndgacaohmdnaa
