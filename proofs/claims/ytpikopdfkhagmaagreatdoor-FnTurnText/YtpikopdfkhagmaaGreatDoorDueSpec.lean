/-
  Deadlines, as plain functions: what a task that wakes, is renewed, spends is; and what holds of them.
  Deadlines: contracts of the model's functions.
  Deadlines: the contract of one of the model's functions.
  Deadlines: the contract of one of the model's functions.
-/
import Derived.Test.YtpikopdfkhagmaaGreatDoorTaskSpec
import Derived.Test.YtpikopdfkhagmaaGreatDoorPutC
namespace Go.Proofs.YtpikopdfkhagmaaGreatDoor
open Go.RowKit

/-- It is a task with a deadline. -/
def dueB (t : Tsk) : Bool := taskB t && t.cls == 1
/-- Its deadline has come, or more is left than its part of the time up to it. -/
def lateB (t : Tsk) (now : Int) : Bool := decide (t.due ≤ now) || decide ((t.due - now) * t.q < t.left * t.p)
def wakeB (t : Tsk) (now : Int) : Bool := dueB t && inB now 0 100000 && lateB t now
def wakeT (t : Tsk) (now : Int) : Tsk := if wakeB t now then { t with left := t.q, due := now + t.p } else t
def renewB (t : Tsk) (now : Int) : Bool := dueB t && inB now 0 100000 && decide (t.due ≤ now)
def renewT (t : Tsk) (now : Int) : Tsk := if renewB t now then { t with left := t.q, due := t.due + t.p } else t
def spendB (t : Tsk) : Bool := dueB t && decide (0 < t.left)
def spendT (t : Tsk) : Tsk := if spendB t then { t with left := t.left - 1 } else t
def dueBefB (a b : Tsk) : Bool := dueB a && dueB b && (decide (a.due < b.due) || a.due == b.due && decide (a.no < b.no))
/-- What a task with a deadline holds. -/
structure IsDue (t : Tsk) : Prop where
  cls : t.cls = 1
  no : 1 ≤ t.no ∧ t.no ≤ 1000
  cpu : 0 ≤ t.cpu ∧ t.cpu ≤ 3
  st : 1 ≤ t.st ∧ t.st ≤ 2
  p : 1 ≤ t.p ∧ t.p ≤ 40
  q : 1 ≤ t.q ∧ t.q ≤ t.p
  left : 0 ≤ t.left ∧ t.left ≤ t.q
  due : 0 ≤ t.due ∧ t.due ≤ 100040
  none : t.prio = 0 ∧ t.round = 0 ∧ t.seq = 0 ∧ t.nice = 0 ∧ t.v = 0
theorem dueB_iff (t : Tsk) : dueB t = true ↔ IsDue t := by
  constructor
  · intro h
    simp only [dueB, Bool.and_eq_true, beq_iff_eq] at h
    obtain ⟨h1, h2⟩ := h
    simp [taskB, cleanB, ofClassB, h2, fixZ, fairZ, inB_iff, okB_iff] at h1
    obtain ⟨⟨⟨⟨hno, hcpu⟩, hst⟩, hz⟩, ⟨⟨hp, hq⟩, hl⟩, hd⟩ := h1
    exact ⟨h2, by omega, by omega, by omega, by omega, by omega, by omega, by omega, by omega, by omega, by omega, by omega, by omega⟩
  · rintro ⟨h2, hno, hcpu, hst, hp, hq, hl, hd, h0, h1, h3, h4, h5⟩
    simp [dueB, taskB, cleanB, ofClassB, h2, fixZ, fairZ, inB_iff, okB_iff, h0, h1, h3, h4, h5]
    omega
theorem mul_bd {a b A B : Int} (a0 : 0 ≤ a) (a1 : a ≤ A) (b0 : 0 ≤ b) (b1 : b ≤ B) : 0 ≤ a * b ∧ a * b ≤ A * B :=
  ⟨Int.mul_nonneg a0 b0, Int.mul_le_mul a1 b1 b0 (by omega)⟩

end Go.Proofs.YtpikopdfkhagmaaGreatDoor
namespace Go.Proofs.YtpikopdfkhagmaaGreatDoor
open Go.RowKit
attribute [local go_sem] Keeps.refl Keeps.alloc Keeps.drew Keeps.drewN

theorem l4Due_any (t : Tsk) (w : World) :
    Calls Tryz.prog 123 #[tk t] w fun e w' => e = .returned (.bool (dueB t)) ∧ Keeps w w' := by
  go_enter Tryz.func123, Tryz.ntmps123
  go_wp2_with fail
  refine (specTaskOk_any t _).mono ?_
  rintro e w1 ⟨rfl, k1⟩
  have B1 := (Blk.new w (tc t) 90).keeps k1
  have K1 : Keeps w w1 := ((Keeps.refl w).alloc _).trans k1
  obtain ⟨_, b1, b2⟩ := B1
  clear k1
  cases hb : taskB t
  · have Hr : Hid (dueB t = false) := by show _ = _; simp [dueB, hb]
    go_wp2
    go_ret
    exact ⟨by rw [Hr.out]; rfl, K1⟩
  · have Hr : Hid (dueB t = (t.cls == 1)) := by show _ = _; simp [dueB, hb]
    go_wp2
    go_ret
    exact ⟨by rw [Hr.out]; rfl, K1⟩

set_option maxHeartbeats 2000000 in
theorem specDueSpend_any (t : Tsk) (w : World) :
    Calls Tryz.prog 131 #[tk t] w fun e w' => e = .returned (tk (spendT t)) ∧ Keeps w w' := by
  go_enter Tryz.func131, Tryz.ntmps131
  go_wp2_with fail
  refine (l4Due_any t _).mono ?_
  rintro e w1 ⟨rfl, k1⟩
  have B1 := ((Blk.new w (tc t) 90).alloc (.cells (tc Tsk.zero) 90)).keeps k1
  have B2 := (Blk.new (w.alloc (.cells (tc t) 90)) (tc Tsk.zero) 90).keeps k1
  have K1 : Hid (Keeps w w1) := (((Keeps.refl w).alloc _).alloc _).trans k1
  simp only [World.size_alloc] at B2
  have R : Hid (Blk w1 (w.heap.size + 1) (tc Tsk.zero)) := B2
  obtain ⟨_, b1, b2⟩ := B1
  obtain ⟨_, c1, c2⟩ := B2
  clear k1
  cases hd : dueB t
  · have Hn : Hid (spendT t = t) := by show _ = _; simp [spendT, spendB, hd]
    go_wp2
    have D := R.out.putC (tc (t)).toList rfl
    have K := Keeps.putC (b := w.heap.size + 1) (by omega) (tc (t)).toList 0 K1.out
    change bodyPost _ _ _ _ _ (putC w1 (w.heap.size + 1) 0 (tc (t)).toList)
    generalize putC w1 (w.heap.size + 1) 0 (tc (t)).toList = X at D K ⊢
    exact bodyPost_ret (v := tk (t)) (by simp [results, Tryz.results131, go_sem, D.cells]) rfl ⟨by rw [Hn.out], K⟩
  · have H := (dueB_iff t).1 hd
    obtain ⟨p0, p1⟩ := H.p
    obtain ⟨q0, q1⟩ := H.q
    obtain ⟨l0, l1⟩ := H.left
    clear H
    cases hl : decide (0 < t.left)
    · have Hn : Hid (spendT t = t) := by show _ = _; simp only [spendT, spendB, hl, Bool.and_false, Bool.false_eq_true, if_false]
      go_wp2
      have D := R.out.putC (tc (t)).toList rfl
      have K := Keeps.putC (b := w.heap.size + 1) (by omega) (tc (t)).toList 0 K1.out
      change bodyPost _ _ _ _ _ (putC w1 (w.heap.size + 1) 0 (tc (t)).toList)
      generalize putC w1 (w.heap.size + 1) 0 (tc (t)).toList = X at D K ⊢
      exact bodyPost_ret (v := tk (t)) (by simp [results, Tryz.results131, go_sem, D.cells]) rfl ⟨by rw [Hn.out], K⟩
    · have Hn : Hid (spendT t = { t with left := t.left - 1 }) := by show _ = _; simp only [spendT, spendB, hl, hd, Bool.and_true, if_true]
      go_wp2
      have D := (R.out.far (c := w.heap.size) (o := 7) (by omega) (.int .i64 (t.left - 1))).putC (tc ({ t with left := t.left - 1 })).toList rfl
      have K := Keeps.putC (b := w.heap.size + 1) (by omega) (tc ({ t with left := t.left - 1 })).toList 0 (K1.out.setCell (p := ⟨w.heap.size, 7, none⟩) (Nat.le_refl _) (.int .i64 (t.left - 1)))
      change bodyPost _ _ _ _ _ (putC (w1.setCell ⟨w.heap.size, 7, none⟩ (.int .i64 (t.left - 1))) (w.heap.size + 1) 0 (tc ({ t with left := t.left - 1 })).toList)
      generalize putC (w1.setCell ⟨w.heap.size, 7, none⟩ (.int .i64 (t.left - 1))) (w.heap.size + 1) 0 (tc ({ t with left := t.left - 1 })).toList = X at D K ⊢
      exact bodyPost_ret (v := tk ({ t with left := t.left - 1 })) (by simp [results, Tryz.results131, go_sem, D.cells]) rfl ⟨by rw [Hn.out], K⟩

set_option maxHeartbeats 2000000 in
theorem specDueBefore_any (a b : Tsk) (w : World) :
    Calls Tryz.prog 132 #[tk a, tk b] w fun e w' => e = .returned (.bool (dueBefB a b)) ∧ Keeps w w' := by
  go_enter Tryz.func132, Tryz.ntmps132
  go_wp2_with fail
  have kW : Keeps w ((w.alloc (.cells (tc a) 90)).alloc (.cells (tc b) 90)) := ((Keeps.refl w).alloc _).alloc _
  have r1 : ∀ w', Keeps ((w.alloc (.cells (tc a) 90)).alloc (.cells (tc b) 90)) w' → ∀ k, w'.cell? ⟨w.heap.size, k, none⟩ = (tc a)[k]? := fun w' h => (((Blk.new w (tc a) 90).alloc _).keeps h).cells
  have r2 : ∀ w', Keeps ((w.alloc (.cells (tc a) 90)).alloc (.cells (tc b) 90)) w' → ∀ k, w'.cell? ⟨w.heap.size + 1, k, none⟩ = (tc b)[k]? := fun w' h => by
    have := (Blk.new (w.alloc (.cells (tc a) 90)) (tc b) 90).keeps h
    simp only [World.size_alloc] at this
    exact this.cells
  generalize (w.alloc (.cells (tc a) 90)).alloc (.cells (tc b) 90) = W at *
  refine (l4Due_any a _).mono ?_
  rintro e w1 ⟨rfl, k1⟩
  cases ha : dueB a
  · have Hr : Hid (dueBefB a b = false) := by show _ = _; simp [dueBefB, ha]
    go_wp2
    go_ret
    exact ⟨by rw [Hr.out]; rfl, kW.trans k1⟩
  · go_wp2_with fail
    refine (l4Due_any b _).mono ?_
    rintro e w2 ⟨rfl, k2⟩
    have K2 := k1.trans k2
    cases hb : dueB b
    · have Hr : Hid (dueBefB a b = false) := by show _ = _; simp [dueBefB, hb]
      go_wp2
      go_ret
      exact ⟨by rw [Hr.out]; rfl, kW.trans K2⟩
    · cases h1 : decide (a.due < b.due)
      · cases h2 : (a.due == b.due)
        · have Hr : Hid (dueBefB a b = false) := by show _ = _; simp only [dueBefB, h1, h2, Bool.false_and, Bool.or_false, Bool.and_false]
          go_wp2
          go_ret
          exact ⟨by rw [Hr.out]; rfl, kW.trans K2⟩
        · have Hr : Hid (dueBefB a b = decide (a.no < b.no)) := by show _ = _; simp only [dueBefB, ha, hb, h1, h2, Bool.true_and, Bool.false_or]
          go_wp2
          go_ret
          exact ⟨by rw [Hr.out]; rfl, kW.trans K2⟩
      · have Hr : Hid (dueBefB a b = true) := by show _ = _; simp only [dueBefB, ha, hb, h1, Bool.true_or, Bool.and_true]
        go_wp2
        go_ret
        exact ⟨by rw [Hr.out]; rfl, kW.trans K2⟩

end Go.Proofs.YtpikopdfkhagmaaGreatDoor
namespace Go.Proofs.YtpikopdfkhagmaaGreatDoor
open Go.RowKit
attribute [local go_sem] Keeps.refl Keeps.alloc Keeps.drew Keeps.drewN

set_option maxHeartbeats 2000000 in
theorem specDueRenew_any (t : Tsk) (now : Int) (w : World) :
    Calls Tryz.prog 112 #[tk t, .int .i64 now] w fun e w' => e = .returned (tk (renewT t now)) ∧ Keeps w w' := by
  go_enter Tryz.func112, Tryz.ntmps112
  go_wp2_with fail
  refine (l4Due_any t _).mono ?_
  rintro e w1 ⟨rfl, k1⟩
  have B1 := ((Blk.new w (tc t) 90).alloc (.cells (tc Tsk.zero) 90)).keeps k1
  have B2 := (Blk.new (w.alloc (.cells (tc t) 90)) (tc Tsk.zero) 90).keeps k1
  have K1 : Hid (Keeps w w1) := (((Keeps.refl w).alloc _).alloc _).trans k1
  simp only [World.size_alloc] at B2
  have R : Hid (Blk w1 (w.heap.size + 1) (tc Tsk.zero)) := B2
  obtain ⟨_, b1, b2⟩ := B1
  obtain ⟨_, c1, c2⟩ := B2
  clear k1
  cases hd : dueB t
  · have Hn : Hid (renewT t now = t) := by show _ = _; simp [renewT, renewB, hd]
    go_wp2
    have D := R.out.putC (tc (t)).toList rfl
    have K := Keeps.putC (b := w.heap.size + 1) (by omega) (tc (t)).toList 0 K1.out
    change bodyPost _ _ _ _ _ (putC w1 (w.heap.size + 1) 0 (tc (t)).toList)
    generalize putC w1 (w.heap.size + 1) 0 (tc (t)).toList = X at D K ⊢
    exact bodyPost_ret (v := tk (t)) (by simp [results, Tryz.results112, go_sem, D.cells]) rfl ⟨by rw [Hn.out], K⟩
  · cases hi : inB now 0 100000
    · have Hn : Hid (renewT t now = t) := by show _ = _; simp [renewT, renewB, hi]
      go_wp2_with (go_at_call 29; refine (l1In_any _ _ _ _).mono ?_; rintro e w' ⟨rfl, hw'⟩; have hw2 := hw'.symm; subst hw2)
      have D := R.out.putC (tc (t)).toList rfl
      have K := Keeps.putC (b := w.heap.size + 1) (by omega) (tc (t)).toList 0 K1.out
      change bodyPost _ _ _ _ _ (putC w1 (w.heap.size + 1) 0 (tc (t)).toList)
      generalize putC w1 (w.heap.size + 1) 0 (tc (t)).toList = X at D K ⊢
      exact bodyPost_ret (v := tk (t)) (by simp [results, Tryz.results112, go_sem, D.cells]) rfl ⟨by rw [Hn.out], K⟩
    · have H := (dueB_iff t).1 hd
      obtain ⟨p0, p1⟩ := H.p
      obtain ⟨d0, d1⟩ := H.due
      clear H
      cases hl : decide (now < t.due)
      · have hl' := of_decide_eq_false hl
        have Hn : Hid (renewT t now = { t with left := t.q, due := t.due + t.p }) := by show _ = _; simp only [renewT, renewB, hd, hi, decide_eq_true (show t.due ≤ now by omega), Bool.and_true, if_true]
        go_wp2_with (go_at_call 29; refine (l1In_any _ _ _ _).mono ?_; rintro e w' ⟨rfl, hw'⟩; have hw2 := hw'.symm; subst hw2)
        have D := ((R.out.far (c := w.heap.size) (o := 7) (by omega) (.int .i64 (t.q))).far (c := w.heap.size) (o := 8) (by omega) (.int .i64 (t.due + t.p))).putC (tc ({ t with left := t.q, due := t.due + t.p })).toList rfl
        have K := Keeps.putC (b := w.heap.size + 1) (by omega) (tc ({ t with left := t.q, due := t.due + t.p })).toList 0 ((K1.out.setCell (p := ⟨w.heap.size, 7, none⟩) (Nat.le_refl _) (.int .i64 (t.q))).setCell (p := ⟨w.heap.size, 8, none⟩) (Nat.le_refl _) (.int .i64 (t.due + t.p)))
        change bodyPost _ _ _ _ _ (putC ((w1.setCell ⟨w.heap.size, 7, none⟩ (.int .i64 (t.q))).setCell ⟨w.heap.size, 8, none⟩ (.int .i64 (t.due + t.p))) (w.heap.size + 1) 0 (tc ({ t with left := t.q, due := t.due + t.p })).toList)
        generalize putC ((w1.setCell ⟨w.heap.size, 7, none⟩ (.int .i64 (t.q))).setCell ⟨w.heap.size, 8, none⟩ (.int .i64 (t.due + t.p))) (w.heap.size + 1) 0 (tc ({ t with left := t.q, due := t.due + t.p })).toList = X at D K ⊢
        exact bodyPost_ret (v := tk ({ t with left := t.q, due := t.due + t.p })) (by simp [results, Tryz.results112, go_sem, D.cells]) rfl ⟨by rw [Hn.out], K⟩
      · have hl' := of_decide_eq_true hl
        have Hn : Hid (renewT t now = t) := by show _ = _; simp only [renewT, renewB, decide_eq_false (show ¬ t.due ≤ now by omega), Bool.and_false, Bool.false_eq_true, if_false]
        go_wp2_with (go_at_call 29; refine (l1In_any _ _ _ _).mono ?_; rintro e w' ⟨rfl, hw'⟩; have hw2 := hw'.symm; subst hw2)
        have D := R.out.putC (tc (t)).toList rfl
        have K := Keeps.putC (b := w.heap.size + 1) (by omega) (tc (t)).toList 0 K1.out
        change bodyPost _ _ _ _ _ (putC w1 (w.heap.size + 1) 0 (tc (t)).toList)
        generalize putC w1 (w.heap.size + 1) 0 (tc (t)).toList = X at D K ⊢
        exact bodyPost_ret (v := tk (t)) (by simp [results, Tryz.results112, go_sem, D.cells]) rfl ⟨by rw [Hn.out], K⟩

end Go.Proofs.YtpikopdfkhagmaaGreatDoor
namespace Go.Proofs.YtpikopdfkhagmaaGreatDoor
open Go.RowKit
attribute [local go_sem] Keeps.refl Keeps.alloc Keeps.drew Keeps.drewN

set_option maxHeartbeats 2000000 in
theorem specDueWake_any (t : Tsk) (now : Int) (w : World) :
    Calls Tryz.prog 126 #[tk t, .int .i64 now] w fun e w' => e = .returned (tk (wakeT t now)) ∧ Keeps w w' := by
  go_enter Tryz.func126, Tryz.ntmps126
  go_wp2_with fail
  refine (l4Due_any t _).mono ?_
  rintro e w1 ⟨rfl, k1⟩
  have B1 := ((Blk.new w (tc t) 90).alloc (.cells (tc Tsk.zero) 90)).keeps k1
  have B2 := (Blk.new (w.alloc (.cells (tc t) 90)) (tc Tsk.zero) 90).keeps k1
  have K1 : Hid (Keeps w w1) := (((Keeps.refl w).alloc _).alloc _).trans k1
  simp only [World.size_alloc] at B2
  have R : Hid (Blk w1 (w.heap.size + 1) (tc Tsk.zero)) := B2
  obtain ⟨_, b1, b2⟩ := B1
  obtain ⟨_, c1, c2⟩ := B2
  clear k1
  cases hd : dueB t
  · have Hn : Hid (wakeT t now = t) := by show _ = _; simp [wakeT, wakeB, hd]
    go_wp2
    have D := R.out.putC (tc (t)).toList rfl
    have K := Keeps.putC (b := w.heap.size + 1) (by omega) (tc (t)).toList 0 K1.out
    change bodyPost _ _ _ _ _ (putC w1 (w.heap.size + 1) 0 (tc (t)).toList)
    generalize putC w1 (w.heap.size + 1) 0 (tc (t)).toList = X at D K ⊢
    exact bodyPost_ret (v := tk (t)) (by simp [results, Tryz.results126, go_sem, D.cells]) rfl ⟨by rw [Hn.out], K⟩
  · cases hi : inB now 0 100000
    · have Hn : Hid (wakeT t now = t) := by show _ = _; simp [wakeT, wakeB, hi]
      go_wp2_with (go_at_call 29; refine (l1In_any _ _ _ _).mono ?_; rintro e w' ⟨rfl, hw'⟩; have hw2 := hw'.symm; subst hw2)
      have D := R.out.putC (tc (t)).toList rfl
      have K := Keeps.putC (b := w.heap.size + 1) (by omega) (tc (t)).toList 0 K1.out
      change bodyPost _ _ _ _ _ (putC w1 (w.heap.size + 1) 0 (tc (t)).toList)
      generalize putC w1 (w.heap.size + 1) 0 (tc (t)).toList = X at D K ⊢
      exact bodyPost_ret (v := tk (t)) (by simp [results, Tryz.results126, go_sem, D.cells]) rfl ⟨by rw [Hn.out], K⟩
    · have H := (dueB_iff t).1 hd
      obtain ⟨p0, p1⟩ := H.p
      obtain ⟨q0, q1⟩ := H.q
      obtain ⟨l0, l1⟩ := H.left
      obtain ⟨d0, d1⟩ := H.due
      obtain ⟨n0, n1⟩ := inB_iff.1 hi
      clear H
      cases hl : decide (t.due ≤ now)
      · have hl' := of_decide_eq_false hl
        have m1 := mul_bd (A := 40) (B := 40) l0 (by omega) (show 0 ≤ t.p by omega) p1
        have m2 := mul_bd (A := 100040) (B := 40) (show 0 ≤ t.due - now by omega) (by omega) (show 0 ≤ t.q by omega) (by omega)
        have e1 : IntKind.i64.wrap (t.left * t.p) = t.left * t.p := Go.IntWalk.i64_in _ (by omega)
        have e2 : IntKind.i64.wrap ((t.due - now) * t.q) = (t.due - now) * t.q := Go.IntWalk.i64_in _ (by omega)
        clear m1 m2
        cases hm : decide ((t.due - now) * t.q < t.left * t.p)
        · have Hn : Hid (wakeT t now = t) := by show _ = _; simp only [wakeT, wakeB, lateB, hl, hm, Bool.or_false, Bool.and_false, Bool.false_eq_true, if_false]
          go_wp2_with (go_at_call 29; refine (l1In_any _ _ _ _).mono ?_; rintro e w' ⟨rfl, hw'⟩; have hw2 := hw'.symm; subst hw2)
          have D := R.out.putC (tc (t)).toList rfl
          have K := Keeps.putC (b := w.heap.size + 1) (by omega) (tc (t)).toList 0 K1.out
          change bodyPost _ _ _ _ _ (putC w1 (w.heap.size + 1) 0 (tc (t)).toList)
          generalize putC w1 (w.heap.size + 1) 0 (tc (t)).toList = X at D K ⊢
          exact bodyPost_ret (v := tk (t)) (by simp [results, Tryz.results126, go_sem, D.cells]) rfl ⟨by rw [Hn.out], K⟩
        · have Hn : Hid (wakeT t now = { t with left := t.q, due := now + t.p }) := by show _ = _; simp only [wakeT, wakeB, lateB, hl, hm, hd, hi, Bool.false_or, Bool.and_true, if_true]
          go_wp2_with (go_at_call 29; refine (l1In_any _ _ _ _).mono ?_; rintro e w' ⟨rfl, hw'⟩; have hw2 := hw'.symm; subst hw2)
          have D := ((R.out.far (c := w.heap.size) (o := 7) (by omega) (.int .i64 (t.q))).far (c := w.heap.size) (o := 8) (by omega) (.int .i64 (now + t.p))).putC (tc ({ t with left := t.q, due := now + t.p })).toList rfl
          have K := Keeps.putC (b := w.heap.size + 1) (by omega) (tc ({ t with left := t.q, due := now + t.p })).toList 0 ((K1.out.setCell (p := ⟨w.heap.size, 7, none⟩) (Nat.le_refl _) (.int .i64 (t.q))).setCell (p := ⟨w.heap.size, 8, none⟩) (Nat.le_refl _) (.int .i64 (now + t.p)))
          change bodyPost _ _ _ _ _ (putC ((w1.setCell ⟨w.heap.size, 7, none⟩ (.int .i64 (t.q))).setCell ⟨w.heap.size, 8, none⟩ (.int .i64 (now + t.p))) (w.heap.size + 1) 0 (tc ({ t with left := t.q, due := now + t.p })).toList)
          generalize putC ((w1.setCell ⟨w.heap.size, 7, none⟩ (.int .i64 (t.q))).setCell ⟨w.heap.size, 8, none⟩ (.int .i64 (now + t.p))) (w.heap.size + 1) 0 (tc ({ t with left := t.q, due := now + t.p })).toList = X at D K ⊢
          exact bodyPost_ret (v := tk ({ t with left := t.q, due := now + t.p })) (by simp [results, Tryz.results126, go_sem, D.cells]) rfl ⟨by rw [Hn.out], K⟩
      · have Hn : Hid (wakeT t now = { t with left := t.q, due := now + t.p }) := by show _ = _; simp only [wakeT, wakeB, lateB, hl, hd, hi, Bool.true_or, Bool.and_true, if_true]
        go_wp2_with (go_at_call 29; refine (l1In_any _ _ _ _).mono ?_; rintro e w' ⟨rfl, hw'⟩; have hw2 := hw'.symm; subst hw2)
        have D := ((R.out.far (c := w.heap.size) (o := 7) (by omega) (.int .i64 (t.q))).far (c := w.heap.size) (o := 8) (by omega) (.int .i64 (now + t.p))).putC (tc ({ t with left := t.q, due := now + t.p })).toList rfl
        have K := Keeps.putC (b := w.heap.size + 1) (by omega) (tc ({ t with left := t.q, due := now + t.p })).toList 0 ((K1.out.setCell (p := ⟨w.heap.size, 7, none⟩) (Nat.le_refl _) (.int .i64 (t.q))).setCell (p := ⟨w.heap.size, 8, none⟩) (Nat.le_refl _) (.int .i64 (now + t.p)))
        change bodyPost _ _ _ _ _ (putC ((w1.setCell ⟨w.heap.size, 7, none⟩ (.int .i64 (t.q))).setCell ⟨w.heap.size, 8, none⟩ (.int .i64 (now + t.p))) (w.heap.size + 1) 0 (tc ({ t with left := t.q, due := now + t.p })).toList)
        generalize putC ((w1.setCell ⟨w.heap.size, 7, none⟩ (.int .i64 (t.q))).setCell ⟨w.heap.size, 8, none⟩ (.int .i64 (now + t.p))) (w.heap.size + 1) 0 (tc ({ t with left := t.q, due := now + t.p })).toList = X at D K ⊢
        exact bodyPost_ret (v := tk ({ t with left := t.q, due := now + t.p })) (by simp [results, Tryz.results126, go_sem, D.cells]) rfl ⟨by rw [Hn.out], K⟩

end Go.Proofs.YtpikopdfkhagmaaGreatDoor
