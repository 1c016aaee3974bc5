/-
  The program's CallOk.
-/
import Derived.Test.YtpikopdfkhagmaaDoorCallLaws
namespace Go.Proofs.YtpikopdfkhagmaaDoor
open Go.RowKit
attribute [local go_sem] Keeps.refl Keeps.alloc Keeps.drew Keeps.drewN
attribute [local go_sem high] run_eql_call

set_option maxRecDepth 100000 in
set_option linter.unusedSimpArgs false in
set_option maxHeartbeats 4000000 in
theorem implCallOk_says : SaysCallOk := by
  intro c w
  cases c1 : (c.kind == 1)
  rotate_left
  · have Hr : Hid (callB c = true) := by
      show _ = _
      have hk : c.kind = 1 := by simpa using c1
      simp [callB, cleanC, eqC, inB, hk]
    go_enter Tryd.func39, Tryd.ntmps39
    go_wp2
    go_ret
    exact ⟨by rw [Hr.out]; rfl, (Keeps.refl w).alloc _⟩
  cases c2 : (c.kind == 2)
  rotate_left
  · have Hr : Hid (callB c = true) := by
      show _ = _
      have hk : c.kind = 2 := by simpa using c2
      simp [callB, cleanC, eqC, inB, hk]
    go_enter Tryd.func39, Tryd.ntmps39
    go_wp2
    go_ret
    exact ⟨by rw [Hr.out]; rfl, (Keeps.refl w).alloc _⟩
  cases c3 : (c.kind == 3)
  rotate_left
  · have Hr : Hid (callB c = eqC c ⟨c.kind, c.no, c.cpu, c.a, 0⟩) := by
      show _ = _
      have hk : c.kind = 3 := by simpa using c3
      simp [callB, cleanC, inB, hk]
    go_enter Tryd.func39, Tryd.ntmps39
    go_wp2
    all_goals go_ret
    all_goals exact ⟨by rw [Hr.out]; first | rfl | (simp_all [eqC, go_sem]; done), by repeat (first | exact Keeps.refl _ | refine Keeps.alloc ?_ _ | refine Keeps.drewN ?_ _ | refine Keeps.drew ?_)⟩
  cases c4 : (c.kind == 4)
  rotate_left
  · have Hr : Hid (callB c = eqC c ⟨c.kind, c.no, 0, 0, 0⟩) := by
      show _ = _
      have hk : c.kind = 4 := by simpa using c4
      simp [callB, cleanC, inB, hk]
    go_enter Tryd.func39, Tryd.ntmps39
    go_wp2
    all_goals go_ret
    all_goals exact ⟨by rw [Hr.out]; first | rfl | (simp_all [eqC, go_sem]; done), by repeat (first | exact Keeps.refl _ | refine Keeps.alloc ?_ _ | refine Keeps.drewN ?_ _ | refine Keeps.drew ?_)⟩
  cases c5 : (c.kind == 5)
  rotate_left
  · have Hr : Hid (callB c = eqC c ⟨c.kind, c.no, 0, 0, 0⟩) := by
      show _ = _
      have hk : c.kind = 5 := by simpa using c5
      simp [callB, cleanC, inB, hk]
    go_enter Tryd.func39, Tryd.ntmps39
    go_wp2
    all_goals go_ret
    all_goals exact ⟨by rw [Hr.out]; first | rfl | (simp_all [eqC, go_sem]; done), by repeat (first | exact Keeps.refl _ | refine Keeps.alloc ?_ _ | refine Keeps.drewN ?_ _ | refine Keeps.drew ?_)⟩
  cases c6 : (c.kind == 6)
  rotate_left
  · have Hr : Hid (callB c = eqC c ⟨c.kind, c.no, 0, 0, 0⟩) := by
      show _ = _
      have hk : c.kind = 6 := by simpa using c6
      simp [callB, cleanC, inB, hk]
    go_enter Tryd.func39, Tryd.ntmps39
    go_wp2
    all_goals go_ret
    all_goals exact ⟨by rw [Hr.out]; first | rfl | (simp_all [eqC, go_sem]; done), by repeat (first | exact Keeps.refl _ | refine Keeps.alloc ?_ _ | refine Keeps.drewN ?_ _ | refine Keeps.drew ?_)⟩
  cases c7 : (c.kind == 7)
  rotate_left
  · have Hr : Hid (callB c = eqC c ⟨c.kind, c.no, 0, c.a, 0⟩) := by
      show _ = _
      have hk : c.kind = 7 := by simpa using c7
      simp [callB, cleanC, inB, hk]
    go_enter Tryd.func39, Tryd.ntmps39
    go_wp2
    all_goals go_ret
    all_goals exact ⟨by rw [Hr.out]; first | rfl | (simp_all [eqC, go_sem]; done), by repeat (first | exact Keeps.refl _ | refine Keeps.alloc ?_ _ | refine Keeps.drewN ?_ _ | refine Keeps.drew ?_)⟩
  cases c8 : (c.kind == 8)
  rotate_left
  · have Hr : Hid (callB c = eqC c ⟨c.kind, c.no, 0, c.a, 0⟩) := by
      show _ = _
      have hk : c.kind = 8 := by simpa using c8
      simp [callB, cleanC, inB, hk]
    go_enter Tryd.func39, Tryd.ntmps39
    go_wp2
    all_goals go_ret
    all_goals exact ⟨by rw [Hr.out]; first | rfl | (simp_all [eqC, go_sem]; done), by repeat (first | exact Keeps.refl _ | refine Keeps.alloc ?_ _ | refine Keeps.drewN ?_ _ | refine Keeps.drew ?_)⟩
  cases c9 : (c.kind == 9)
  rotate_left
  · have Hr : Hid (callB c = eqC c ⟨c.kind, c.no, 0, c.a, 0⟩) := by
      show _ = _
      have hk : c.kind = 9 := by simpa using c9
      simp [callB, cleanC, inB, hk]
    go_enter Tryd.func39, Tryd.ntmps39
    go_wp2
    all_goals go_ret
    all_goals exact ⟨by rw [Hr.out]; first | rfl | (simp_all [eqC, go_sem]; done), by repeat (first | exact Keeps.refl _ | refine Keeps.alloc ?_ _ | refine Keeps.drewN ?_ _ | refine Keeps.drew ?_)⟩
  cases c10 : (c.kind == 10)
  rotate_left
  · have Hr : Hid (callB c = eqC c ⟨c.kind, c.no, c.cpu, 0, 0⟩) := by
      show _ = _
      have hk : c.kind = 10 := by simpa using c10
      simp [callB, cleanC, inB, hk]
    go_enter Tryd.func39, Tryd.ntmps39
    go_wp2
    all_goals go_ret
    all_goals exact ⟨by rw [Hr.out]; first | rfl | (simp_all [eqC, go_sem]; done), by repeat (first | exact Keeps.refl _ | refine Keeps.alloc ?_ _ | refine Keeps.drewN ?_ _ | refine Keeps.drew ?_)⟩
  cases c11 : (c.kind == 11)
  rotate_left
  · have Hr : Hid (callB c = eqC c ⟨c.kind, 0, 0, c.a, 0⟩) := by
      show _ = _
      have hk : c.kind = 11 := by simpa using c11
      simp [callB, cleanC, inB, hk]
    go_enter Tryd.func39, Tryd.ntmps39
    go_wp2
    all_goals go_ret
    all_goals exact ⟨by rw [Hr.out]; first | rfl | (simp_all [eqC, go_sem]; done), by repeat (first | exact Keeps.refl _ | refine Keeps.alloc ?_ _ | refine Keeps.drewN ?_ _ | refine Keeps.drew ?_)⟩
  have Hr : Hid (callB c = false) := by
    show _ = _
    simp only [beq_eq_false_iff_ne, ne_eq] at c1 c2 c3 c4 c5 c6 c7 c8 c9 c10 c11
    have : inB c.kind 1 11 = false := by
      simp [inB]
      omega
    simp [callB, this]
  go_enter Tryd.func39, Tryd.ntmps39
  go_wp2
  go_ret
  exact ⟨by rw [Hr.out]; rfl, (Keeps.refl w).alloc _⟩
end Go.Proofs.YtpikopdfkhagmaaDoor
