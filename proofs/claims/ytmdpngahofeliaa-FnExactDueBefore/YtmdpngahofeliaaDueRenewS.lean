/-
  Deadlines: the contract of one of the model's functions.
-/
import Derived.Test.YtmdpngahofeliaaDueSpec
namespace Go.Proofs.Ytmdpngahofeliaa
open Go.RowKit
attribute [local go_sem] Keeps.refl Keeps.alloc Keeps.drew Keeps.drewN

set_option maxHeartbeats 2000000 in
theorem specDueRenew_any (t : Tsk) (now : Int) (w : World) :
    Calls Try.prog 48 #[tk t, .int .i64 now] w fun e w' => e = .returned (tk (renewT t now)) ∧ Keeps w w' := by
  go_enter Try.func48, Try.ntmps48
  go_wp2_with fail
  refine (l4Due_any t _).mono ?_
  rintro e w1 ⟨rfl, k1⟩
  have B1 := ((Blk.new w (tc t) 25).alloc (.cells (tc Tsk.zero) 25)).keeps k1
  have B2 := (Blk.new (w.alloc (.cells (tc t) 25)) (tc Tsk.zero) 25).keeps k1
  have K1 : Hid (Keeps w w1) := (((Keeps.refl w).alloc _).alloc _).trans k1
  simp only [World.size_alloc] at B2
  have R : Hid (Blk w1 (w.heap.size + 1) (tc Tsk.zero)) := B2
  obtain ⟨_, b1, b2⟩ := B1
  obtain ⟨_, c1, c2⟩ := B2
  clear k1
  cases hd : dueB t
  · have Hn : Hid (renewT t now = t) := by show _ = _; simp [renewT, renewB, hd]
    go_wp2
    have D := R.out.putC (tc (t)).toList rfl
    have K := Keeps.putC (b := w.heap.size + 1) (by omega) (tc (t)).toList 0 K1.out
    change bodyPost _ _ _ _ _ (putC w1 (w.heap.size + 1) 0 (tc (t)).toList)
    generalize putC w1 (w.heap.size + 1) 0 (tc (t)).toList = X at D K ⊢
    exact bodyPost_ret (v := tk (t)) (by simp [results, Try.results48, go_sem, D.cells]) rfl ⟨by rw [Hn.out], K⟩
  · cases hi : inB now 0 100000
    · have Hn : Hid (renewT t now = t) := by show _ = _; simp [renewT, renewB, hi]
      go_wp2_with (go_at_call 60; refine (l1In_any _ _ _ _).mono ?_; rintro e w' ⟨rfl, hw'⟩; have hw2 := hw'.symm; subst hw2)
      have D := R.out.putC (tc (t)).toList rfl
      have K := Keeps.putC (b := w.heap.size + 1) (by omega) (tc (t)).toList 0 K1.out
      change bodyPost _ _ _ _ _ (putC w1 (w.heap.size + 1) 0 (tc (t)).toList)
      generalize putC w1 (w.heap.size + 1) 0 (tc (t)).toList = X at D K ⊢
      exact bodyPost_ret (v := tk (t)) (by simp [results, Try.results48, go_sem, D.cells]) rfl ⟨by rw [Hn.out], K⟩
    · have H := (dueB_iff t).1 hd
      obtain ⟨p0, p1⟩ := H.p
      obtain ⟨d0, d1⟩ := H.due
      clear H
      cases hl : decide (now < t.due)
      · have hl' := of_decide_eq_false hl
        have Hn : Hid (renewT t now = { t with left := t.q, due := t.due + t.p }) := by show _ = _; simp only [renewT, renewB, hd, hi, decide_eq_true (show t.due ≤ now by omega), Bool.and_true, if_true]
        go_wp2_with (go_at_call 60; refine (l1In_any _ _ _ _).mono ?_; rintro e w' ⟨rfl, hw'⟩; have hw2 := hw'.symm; subst hw2)
        have D := ((R.out.far (c := w.heap.size) (o := 7) (by omega) (.int .i64 (t.q))).far (c := w.heap.size) (o := 8) (by omega) (.int .i64 (t.due + t.p))).putC (tc ({ t with left := t.q, due := t.due + t.p })).toList rfl
        have K := Keeps.putC (b := w.heap.size + 1) (by omega) (tc ({ t with left := t.q, due := t.due + t.p })).toList 0 ((K1.out.setCell (p := ⟨w.heap.size, 7, none⟩) (Nat.le_refl _) (.int .i64 (t.q))).setCell (p := ⟨w.heap.size, 8, none⟩) (Nat.le_refl _) (.int .i64 (t.due + t.p)))
        change bodyPost _ _ _ _ _ (putC ((w1.setCell ⟨w.heap.size, 7, none⟩ (.int .i64 (t.q))).setCell ⟨w.heap.size, 8, none⟩ (.int .i64 (t.due + t.p))) (w.heap.size + 1) 0 (tc ({ t with left := t.q, due := t.due + t.p })).toList)
        generalize putC ((w1.setCell ⟨w.heap.size, 7, none⟩ (.int .i64 (t.q))).setCell ⟨w.heap.size, 8, none⟩ (.int .i64 (t.due + t.p))) (w.heap.size + 1) 0 (tc ({ t with left := t.q, due := t.due + t.p })).toList = X at D K ⊢
        exact bodyPost_ret (v := tk ({ t with left := t.q, due := t.due + t.p })) (by simp [results, Try.results48, go_sem, D.cells]) rfl ⟨by rw [Hn.out], K⟩
      · have hl' := of_decide_eq_true hl
        have Hn : Hid (renewT t now = t) := by show _ = _; simp only [renewT, renewB, decide_eq_false (show ¬ t.due ≤ now by omega), Bool.and_false, Bool.false_eq_true, if_false]
        go_wp2_with (go_at_call 60; refine (l1In_any _ _ _ _).mono ?_; rintro e w' ⟨rfl, hw'⟩; have hw2 := hw'.symm; subst hw2)
        have D := R.out.putC (tc (t)).toList rfl
        have K := Keeps.putC (b := w.heap.size + 1) (by omega) (tc (t)).toList 0 K1.out
        change bodyPost _ _ _ _ _ (putC w1 (w.heap.size + 1) 0 (tc (t)).toList)
        generalize putC w1 (w.heap.size + 1) 0 (tc (t)).toList = X at D K ⊢
        exact bodyPost_ret (v := tk (t)) (by simp [results, Try.results48, go_sem, D.cells]) rfl ⟨by rw [Hn.out], K⟩

end Go.Proofs.Ytmdpngahofeliaa
