/-
  What would be wrong is not done.
-/
import Derived.Test.YtdndgacaohmdnaaFairPure
import Derived.Test.YtdndgacaohmdnaaImplHead
import Derived.Test.YtdndgacaohmdnaaImplTask
namespace Go.Proofs.Ytdndgacaohmdnaa
open Go.RowKit

theorem asFair_of {t : Tsk} (h : t.q = 0 ∧ t.p = 0 ∧ t.left = 0 ∧ t.due = 0 ∧ t.prio = 0 ∧ t.round = 0 ∧ t.seq = 0) : t.asFair = t := by
  obtain ⟨no, cls, cpu, st, idle, q, p, left, due, prio, round, seq, nice, v⟩ := t
  obtain ⟨rfl, rfl, rfl, rfl, rfl, rfl, rfl⟩ := h
  rfl

/-- The next, if it is right. -/
def rightT (s t : Tsk) : Tsk := if taskB s then s else t
theorem right_fair {s t : Tsk} (hc : s.cls = 3) : rightT s t = if fairB s then s else t := by simp [rightT, fairB, hc]
theorem right_to {t : Tsk} (H : IsFair t) (x : Int) : rightT { t with v := x } t = fairTo t x := by
  rw [right_fair (s := { t with v := x }) H.cls]
  unfold fairTo
  cases hx : inB x 0 100000000
  · rw [if_neg (by rw [fairB_iff]; intro h; have := h.v; have h2 : inB x 0 100000000 = true := inB_iff.2 this; rw [hx] at h2; cases h2), if_neg (by simp)]
  · rw [if_pos rfl, if_pos ((fairB_iff { t with v := x }).2 ⟨H.cls, H.no, H.cpu, H.st, H.nice, inB_iff.1 hx, H.none⟩)]
theorem right_mv {t : Tsk} (H : IsFair t) {cpu frm dst : Int} (h1 : inB frm 0 100000000 = true) (h2 : inB dst 0 100000000 = true) : rightT { t with cpu := cpu, v := dst + max (t.v - frm) 0 } t = fairMoveT t cpu frm dst := by
  rw [right_fair (s := { t with cpu := cpu, v := dst + max (t.v - frm) 0 }) H.cls]
  unfold fairMoveT moveB
  rw [(fairB_iff t).2 H, h1, h2]
  have g1 := inB_iff.1 h1
  have g2 := inB_iff.1 h2
  have hv := H.v
  cases hx : inB cpu 0 3
  · rw [if_neg (by rw [fairB_iff]; intro h; have h2 : inB cpu 0 3 = true := inB_iff.2 h.cpu; rw [hx] at h2; cases h2)]
    simp
  · by_cases hb : 100000000 < dst + max (t.v - frm) 0
    · rw [if_neg (by rw [fairB_iff]; intro h; have := h.v.2; dsimp only at this; omega), if_neg (by simp [hb])]
    · rw [if_pos ((fairB_iff { t with cpu := cpu, v := dst + max (t.v - frm) 0 }).2 ⟨H.cls, H.no, inB_iff.1 hx, H.st, H.nice, ⟨by dsimp only; omega, by dsimp only; omega⟩, H.none⟩), if_pos (by simp [hb])]
end Go.Proofs.Ytdndgacaohmdnaa
