/-
  Deadlines: the contract of one of the model's functions.
-/
import Derived.Test.YtmdpngahofeliaaDueSpec
namespace Go.Proofs.Ytmdpngahofeliaa
open Go.RowKit
attribute [local go_sem] Keeps.refl Keeps.alloc Keeps.drew Keeps.drewN

set_option maxHeartbeats 2000000 in
theorem specDueWake_any (t : Tsk) (now : Int) (w : World) :
    Calls Try.prog 46 #[tk t, .int .i64 now] w fun e w' => e = .returned (tk (wakeT t now)) ∧ Keeps w w' := by
  go_enter Try.func46, Try.ntmps46
  go_wp2_with fail
  refine (l4Due_any t _).mono ?_
  rintro e w1 ⟨rfl, k1⟩
  have B1 := ((Blk.new w (tc t) 25).alloc (.cells (tc Tsk.zero) 25)).keeps k1
  have B2 := (Blk.new (w.alloc (.cells (tc t) 25)) (tc Tsk.zero) 25).keeps k1
  have K1 : Hid (Keeps w w1) := (((Keeps.refl w).alloc _).alloc _).trans k1
  simp only [World.size_alloc] at B2
  have R : Hid (Blk w1 (w.heap.size + 1) (tc Tsk.zero)) := B2
  obtain ⟨_, b1, b2⟩ := B1
  obtain ⟨_, c1, c2⟩ := B2
  clear k1
  cases hd : dueB t
  · have Hn : Hid (wakeT t now = t) := by show _ = _; simp [wakeT, wakeB, hd]
    go_wp2
    have D := R.out.putC (tc (t)).toList rfl
    have K := Keeps.putC (b := w.heap.size + 1) (by omega) (tc (t)).toList 0 K1.out
    change bodyPost _ _ _ _ _ (putC w1 (w.heap.size + 1) 0 (tc (t)).toList)
    generalize putC w1 (w.heap.size + 1) 0 (tc (t)).toList = X at D K ⊢
    exact bodyPost_ret (v := tk (t)) (by simp [results, Try.results46, go_sem, D.cells]) rfl ⟨by rw [Hn.out], K⟩
  · cases hi : inB now 0 100000
    · have Hn : Hid (wakeT t now = t) := by show _ = _; simp [wakeT, wakeB, hi]
      go_wp2_with (go_at_call 60; refine (l1In_any _ _ _ _).mono ?_; rintro e w' ⟨rfl, hw'⟩; have hw2 := hw'.symm; subst hw2)
      have D := R.out.putC (tc (t)).toList rfl
      have K := Keeps.putC (b := w.heap.size + 1) (by omega) (tc (t)).toList 0 K1.out
      change bodyPost _ _ _ _ _ (putC w1 (w.heap.size + 1) 0 (tc (t)).toList)
      generalize putC w1 (w.heap.size + 1) 0 (tc (t)).toList = X at D K ⊢
      exact bodyPost_ret (v := tk (t)) (by simp [results, Try.results46, go_sem, D.cells]) rfl ⟨by rw [Hn.out], K⟩
    · have H := (dueB_iff t).1 hd
      obtain ⟨p0, p1⟩ := H.p
      obtain ⟨q0, q1⟩ := H.q
      obtain ⟨l0, l1⟩ := H.left
      obtain ⟨d0, d1⟩ := H.due
      obtain ⟨n0, n1⟩ := inB_iff.1 hi
      clear H
      cases hl : decide (t.due ≤ now)
      · have hl' := of_decide_eq_false hl
        have m1 := mul_bd (A := 40) (B := 40) l0 (by omega) (show 0 ≤ t.p by omega) p1
        have m2 := mul_bd (A := 100040) (B := 40) (show 0 ≤ t.due - now by omega) (by omega) (show 0 ≤ t.q by omega) (by omega)
        have e1 : IntKind.i64.wrap (t.left * t.p) = t.left * t.p := Go.IntWalk.i64_in _ (by omega)
        have e2 : IntKind.i64.wrap ((t.due - now) * t.q) = (t.due - now) * t.q := Go.IntWalk.i64_in _ (by omega)
        clear m1 m2
        cases hm : decide ((t.due - now) * t.q < t.left * t.p)
        · have Hn : Hid (wakeT t now = t) := by show _ = _; simp only [wakeT, wakeB, lateB, hl, hm, Bool.or_false, Bool.and_false, Bool.false_eq_true, if_false]
          go_wp2_with (go_at_call 60; refine (l1In_any _ _ _ _).mono ?_; rintro e w' ⟨rfl, hw'⟩; have hw2 := hw'.symm; subst hw2)
          have D := R.out.putC (tc (t)).toList rfl
          have K := Keeps.putC (b := w.heap.size + 1) (by omega) (tc (t)).toList 0 K1.out
          change bodyPost _ _ _ _ _ (putC w1 (w.heap.size + 1) 0 (tc (t)).toList)
          generalize putC w1 (w.heap.size + 1) 0 (tc (t)).toList = X at D K ⊢
          exact bodyPost_ret (v := tk (t)) (by simp [results, Try.results46, go_sem, D.cells]) rfl ⟨by rw [Hn.out], K⟩
        · have Hn : Hid (wakeT t now = { t with left := t.q, due := now + t.p }) := by show _ = _; simp only [wakeT, wakeB, lateB, hl, hm, hd, hi, Bool.false_or, Bool.and_true, if_true]
          go_wp2_with (go_at_call 60; refine (l1In_any _ _ _ _).mono ?_; rintro e w' ⟨rfl, hw'⟩; have hw2 := hw'.symm; subst hw2)
          have D := ((R.out.far (c := w.heap.size) (o := 7) (by omega) (.int .i64 (t.q))).far (c := w.heap.size) (o := 8) (by omega) (.int .i64 (now + t.p))).putC (tc ({ t with left := t.q, due := now + t.p })).toList rfl
          have K := Keeps.putC (b := w.heap.size + 1) (by omega) (tc ({ t with left := t.q, due := now + t.p })).toList 0 ((K1.out.setCell (p := ⟨w.heap.size, 7, none⟩) (Nat.le_refl _) (.int .i64 (t.q))).setCell (p := ⟨w.heap.size, 8, none⟩) (Nat.le_refl _) (.int .i64 (now + t.p)))
          change bodyPost _ _ _ _ _ (putC ((w1.setCell ⟨w.heap.size, 7, none⟩ (.int .i64 (t.q))).setCell ⟨w.heap.size, 8, none⟩ (.int .i64 (now + t.p))) (w.heap.size + 1) 0 (tc ({ t with left := t.q, due := now + t.p })).toList)
          generalize putC ((w1.setCell ⟨w.heap.size, 7, none⟩ (.int .i64 (t.q))).setCell ⟨w.heap.size, 8, none⟩ (.int .i64 (now + t.p))) (w.heap.size + 1) 0 (tc ({ t with left := t.q, due := now + t.p })).toList = X at D K ⊢
          exact bodyPost_ret (v := tk ({ t with left := t.q, due := now + t.p })) (by simp [results, Try.results46, go_sem, D.cells]) rfl ⟨by rw [Hn.out], K⟩
      · have Hn : Hid (wakeT t now = { t with left := t.q, due := now + t.p }) := by show _ = _; simp only [wakeT, wakeB, lateB, hl, hd, hi, Bool.true_or, Bool.and_true, if_true]
        go_wp2_with (go_at_call 60; refine (l1In_any _ _ _ _).mono ?_; rintro e w' ⟨rfl, hw'⟩; have hw2 := hw'.symm; subst hw2)
        have D := ((R.out.far (c := w.heap.size) (o := 7) (by omega) (.int .i64 (t.q))).far (c := w.heap.size) (o := 8) (by omega) (.int .i64 (now + t.p))).putC (tc ({ t with left := t.q, due := now + t.p })).toList rfl
        have K := Keeps.putC (b := w.heap.size + 1) (by omega) (tc ({ t with left := t.q, due := now + t.p })).toList 0 ((K1.out.setCell (p := ⟨w.heap.size, 7, none⟩) (Nat.le_refl _) (.int .i64 (t.q))).setCell (p := ⟨w.heap.size, 8, none⟩) (Nat.le_refl _) (.int .i64 (now + t.p)))
        change bodyPost _ _ _ _ _ (putC ((w1.setCell ⟨w.heap.size, 7, none⟩ (.int .i64 (t.q))).setCell ⟨w.heap.size, 8, none⟩ (.int .i64 (now + t.p))) (w.heap.size + 1) 0 (tc ({ t with left := t.q, due := now + t.p })).toList)
        generalize putC ((w1.setCell ⟨w.heap.size, 7, none⟩ (.int .i64 (t.q))).setCell ⟨w.heap.size, 8, none⟩ (.int .i64 (now + t.p))) (w.heap.size + 1) 0 (tc ({ t with left := t.q, due := now + t.p })).toList = X at D K ⊢
        exact bodyPost_ret (v := tk ({ t with left := t.q, due := now + t.p })) (by simp [results, Try.results46, go_sem, D.cells]) rfl ⟨by rw [Hn.out], K⟩

end Go.Proofs.Ytmdpngahofeliaa
