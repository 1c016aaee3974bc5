/-
  Deadlines, the program's side: it spends.
-/
import Derived.Test.YtmdpngahofeliaaImplDueA
namespace Go.Proofs.Ytmdpngahofeliaa
open Go.RowKit
attribute [local go_sem] Keeps.refl Keeps.alloc Keeps.drew Keeps.drewN

set_option maxRecDepth 100000 in
set_option maxHeartbeats 4000000 in
theorem implDueSpend_says : SaysDueSpend := by
  intro t w
  go_enter Try.func51, Try.ntmps51
  go_wp2_with fail
  refine (isDue_any t _).mono ?_
  rintro e w1 ⟨rfl, k1⟩
  have B1 := ((Blk.new w (tc t) 25).alloc (.cells (tc Tsk.zero) 25)).keeps k1
  have B2 := (Blk.new (w.alloc (.cells (tc t) 25)) (tc Tsk.zero) 25).keeps k1
  have K1 : Hid (Keeps w w1) := (((Keeps.refl w).alloc _).alloc _).trans k1
  simp only [World.size_alloc] at B2
  have R : Hid (Blk w1 (w.heap.size + 1) (tc Tsk.zero)) := B2
  obtain ⟨_, b1, b2⟩ := B1
  obtain ⟨_, c1, c2⟩ := B2
  clear k1
  cases hd : dueB t
  · have Hn : Hid (spendT t = t) := by show _ = _; simp [spendT, spendB, hd]
    go_wp2
    have D := R.out.putC (tc (t)).toList rfl
    have K := Keeps.putC (b := w.heap.size + 1) (by omega) (tc (t)).toList 0 K1.out
    change bodyPost _ _ _ _ _ (putC w1 (w.heap.size + 1) 0 (tc (t)).toList)
    generalize putC w1 (w.heap.size + 1) 0 (tc (t)).toList = X at D K ⊢
    exact bodyPost_ret (v := tk (t)) (by simp [results, Try.results51, go_sem, D.cells]) rfl ⟨by rw [Hn.out], K⟩
  · have H := (dueB_iff t).1 hd
    have Ha0 : Hid (t.asDue = t) := asDue_of H.none
    have Ha1 : Hid (({ t with left := t.left - 1 } : Tsk).asDue = { t with left := t.left - 1 }) := asDue_of H.none
    obtain ⟨p0, p1⟩ := H.p
    obtain ⟨q0, q1⟩ := H.q
    obtain ⟨l0, l1⟩ := H.left
    have e1 : IntKind.i64.wrap (t.left - 1) = t.left - 1 := Go.IntWalk.i64_in _ (by omega)
    clear H
    cases hl : decide (0 < t.left)
    · have Hn : Hid (spendT t = t) := by show _ = _; simp only [spendT, spendB, hl, Bool.and_false, Bool.false_eq_true, if_false]
      have Ha := Ha0
      go_wp2_with fail
      refine (dueTaskOf_any t _).mono ?_
      rintro e w2 ⟨rfl, k2⟩
      have R2 : Hid (Blk w2 (w.heap.size + 1) (tc Tsk.zero)) := R.out.keeps k2
      have K2 : Hid (Keeps w w2) := K1.out.trans k2
      clear b1 b2 c1 c2 k2
      go_wp2_with fail
      refine (dueWhole_any (t) _).mono ?_
      rintro e w9 ⟨rfl, k9⟩
      rw [Ha.out]
      have R9 : Hid (Blk w9 (w.heap.size + 1) (tc Tsk.zero)) := (R2.out.alloc _).keeps k9
      have K9 : Hid (Keeps w w9) := (K2.out.alloc _).trans k9
      obtain ⟨_, y1, y2⟩ := R9.out
      clear k9
      go_wp2
      have D := R9.out.putC (tc (t)).toList rfl
      have K := Keeps.putC (b := w.heap.size + 1) (by omega) (tc (t)).toList 0 K9.out
      change bodyPost _ _ _ _ _ (putC w9 (w.heap.size + 1) 0 (tc (t)).toList)
      generalize putC w9 (w.heap.size + 1) 0 (tc (t)).toList = X at D K ⊢
      exact bodyPost_ret (v := tk (t)) (by simp [results, Try.results51, go_sem, D.cells]) rfl ⟨by rw [Hn.out], K⟩
    · have Hn : Hid (spendT t = { t with left := t.left - 1 }) := by show _ = _; simp only [spendT, spendB, hl, hd, Bool.and_true, if_true]
      have Ha := Ha1
      go_wp2_with fail
      refine (dueTaskOf_any t _).mono ?_
      rintro e w2 ⟨rfl, k2⟩
      have R2 : Hid (Blk w2 (w.heap.size + 1) (tc Tsk.zero)) := R.out.keeps k2
      have K2 : Hid (Keeps w w2) := K1.out.trans k2
      clear b1 b2 c1 c2 k2
      go_wp2_with fail
      refine (dueWhole_any ({ t with left := t.left - 1 }) _).mono ?_
      rintro e w9 ⟨rfl, k9⟩
      rw [Ha.out]
      have R9 : Hid (Blk w9 (w.heap.size + 1) (tc Tsk.zero)) := (R2.out.alloc _).keeps k9
      have K9 : Hid (Keeps w w9) := (K2.out.alloc _).trans k9
      obtain ⟨_, y1, y2⟩ := R9.out
      clear k9
      go_wp2
      have D := R9.out.putC (tc ({ t with left := t.left - 1 })).toList rfl
      have K := Keeps.putC (b := w.heap.size + 1) (by omega) (tc ({ t with left := t.left - 1 })).toList 0 K9.out
      change bodyPost _ _ _ _ _ (putC w9 (w.heap.size + 1) 0 (tc ({ t with left := t.left - 1 })).toList)
      generalize putC w9 (w.heap.size + 1) 0 (tc ({ t with left := t.left - 1 })).toList = X at D K ⊢
      exact bodyPost_ret (v := tk ({ t with left := t.left - 1 })) (by simp [results, Try.results51, go_sem, D.cells]) rfl ⟨by rw [Hn.out], K⟩
end Go.Proofs.Ytmdpngahofeliaa
