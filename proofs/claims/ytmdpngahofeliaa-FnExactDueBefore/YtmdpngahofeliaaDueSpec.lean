/-
  Deadlines: contracts of the model's functions.
-/
import Derived.Test.YtmdpngahofeliaaDuePure
import Derived.Test.YtmdpngahofeliaaPutC
namespace Go.Proofs.Ytmdpngahofeliaa
open Go.RowKit
attribute [local go_sem] Keeps.refl Keeps.alloc Keeps.drew Keeps.drewN

theorem l4Due_any (t : Tsk) (w : World) :
    Calls Try.prog 87 #[tk t] w fun e w' => e = .returned (.bool (dueB t)) ∧ Keeps w w' := by
  go_enter Try.func87, Try.ntmps87
  go_wp2_with fail
  refine (specTaskOk_any t _).mono ?_
  rintro e w1 ⟨rfl, k1⟩
  have B1 := (Blk.new w (tc t) 25).keeps k1
  have K1 : Keeps w w1 := ((Keeps.refl w).alloc _).trans k1
  obtain ⟨_, b1, b2⟩ := B1
  clear k1
  cases hb : taskB t
  · have Hr : Hid (dueB t = false) := by show _ = _; simp [dueB, hb]
    go_wp2
    go_ret
    exact ⟨by rw [Hr.out]; rfl, K1⟩
  · have Hr : Hid (dueB t = (t.cls == 1)) := by show _ = _; simp [dueB, hb]
    go_wp2
    go_ret
    exact ⟨by rw [Hr.out]; rfl, K1⟩

set_option maxHeartbeats 2000000 in
theorem specDueSpend_any (t : Tsk) (w : World) :
    Calls Try.prog 50 #[tk t] w fun e w' => e = .returned (tk (spendT t)) ∧ Keeps w w' := by
  go_enter Try.func50, Try.ntmps50
  go_wp2_with fail
  refine (l4Due_any t _).mono ?_
  rintro e w1 ⟨rfl, k1⟩
  have B1 := ((Blk.new w (tc t) 25).alloc (.cells (tc Tsk.zero) 25)).keeps k1
  have B2 := (Blk.new (w.alloc (.cells (tc t) 25)) (tc Tsk.zero) 25).keeps k1
  have K1 : Hid (Keeps w w1) := (((Keeps.refl w).alloc _).alloc _).trans k1
  simp only [World.size_alloc] at B2
  have R : Hid (Blk w1 (w.heap.size + 1) (tc Tsk.zero)) := B2
  obtain ⟨_, b1, b2⟩ := B1
  obtain ⟨_, c1, c2⟩ := B2
  clear k1
  cases hd : dueB t
  · have Hn : Hid (spendT t = t) := by show _ = _; simp [spendT, spendB, hd]
    go_wp2
    have D := R.out.putC (tc (t)).toList rfl
    have K := Keeps.putC (b := w.heap.size + 1) (by omega) (tc (t)).toList 0 K1.out
    change bodyPost _ _ _ _ _ (putC w1 (w.heap.size + 1) 0 (tc (t)).toList)
    generalize putC w1 (w.heap.size + 1) 0 (tc (t)).toList = X at D K ⊢
    exact bodyPost_ret (v := tk (t)) (by simp [results, Try.results50, go_sem, D.cells]) rfl ⟨by rw [Hn.out], K⟩
  · have H := (dueB_iff t).1 hd
    obtain ⟨p0, p1⟩ := H.p
    obtain ⟨q0, q1⟩ := H.q
    obtain ⟨l0, l1⟩ := H.left
    clear H
    cases hl : decide (0 < t.left)
    · have Hn : Hid (spendT t = t) := by show _ = _; simp only [spendT, spendB, hl, Bool.and_false, Bool.false_eq_true, if_false]
      go_wp2
      have D := R.out.putC (tc (t)).toList rfl
      have K := Keeps.putC (b := w.heap.size + 1) (by omega) (tc (t)).toList 0 K1.out
      change bodyPost _ _ _ _ _ (putC w1 (w.heap.size + 1) 0 (tc (t)).toList)
      generalize putC w1 (w.heap.size + 1) 0 (tc (t)).toList = X at D K ⊢
      exact bodyPost_ret (v := tk (t)) (by simp [results, Try.results50, go_sem, D.cells]) rfl ⟨by rw [Hn.out], K⟩
    · have Hn : Hid (spendT t = { t with left := t.left - 1 }) := by show _ = _; simp only [spendT, spendB, hl, hd, Bool.and_true, if_true]
      go_wp2
      have D := (R.out.far (c := w.heap.size) (o := 7) (by omega) (.int .i64 (t.left - 1))).putC (tc ({ t with left := t.left - 1 })).toList rfl
      have K := Keeps.putC (b := w.heap.size + 1) (by omega) (tc ({ t with left := t.left - 1 })).toList 0 (K1.out.setCell (p := ⟨w.heap.size, 7, none⟩) (Nat.le_refl _) (.int .i64 (t.left - 1)))
      change bodyPost _ _ _ _ _ (putC (w1.setCell ⟨w.heap.size, 7, none⟩ (.int .i64 (t.left - 1))) (w.heap.size + 1) 0 (tc ({ t with left := t.left - 1 })).toList)
      generalize putC (w1.setCell ⟨w.heap.size, 7, none⟩ (.int .i64 (t.left - 1))) (w.heap.size + 1) 0 (tc ({ t with left := t.left - 1 })).toList = X at D K ⊢
      exact bodyPost_ret (v := tk ({ t with left := t.left - 1 })) (by simp [results, Try.results50, go_sem, D.cells]) rfl ⟨by rw [Hn.out], K⟩

set_option maxHeartbeats 2000000 in
theorem specDueBefore_any (a b : Tsk) (w : World) :
    Calls Try.prog 52 #[tk a, tk b] w fun e w' => e = .returned (.bool (dueBefB a b)) ∧ Keeps w w' := by
  go_enter Try.func52, Try.ntmps52
  go_wp2_with fail
  have kW : Keeps w ((w.alloc (.cells (tc a) 25)).alloc (.cells (tc b) 25)) := ((Keeps.refl w).alloc _).alloc _
  have r1 : ∀ w', Keeps ((w.alloc (.cells (tc a) 25)).alloc (.cells (tc b) 25)) w' → ∀ k, w'.cell? ⟨w.heap.size, k, none⟩ = (tc a)[k]? := fun w' h => (((Blk.new w (tc a) 25).alloc _).keeps h).cells
  have r2 : ∀ w', Keeps ((w.alloc (.cells (tc a) 25)).alloc (.cells (tc b) 25)) w' → ∀ k, w'.cell? ⟨w.heap.size + 1, k, none⟩ = (tc b)[k]? := fun w' h => by
    have := (Blk.new (w.alloc (.cells (tc a) 25)) (tc b) 25).keeps h
    simp only [World.size_alloc] at this
    exact this.cells
  generalize (w.alloc (.cells (tc a) 25)).alloc (.cells (tc b) 25) = W at *
  refine (l4Due_any a _).mono ?_
  rintro e w1 ⟨rfl, k1⟩
  cases ha : dueB a
  · have Hr : Hid (dueBefB a b = false) := by show _ = _; simp [dueBefB, ha]
    go_wp2
    go_ret
    exact ⟨by rw [Hr.out]; rfl, kW.trans k1⟩
  · go_wp2_with fail
    refine (l4Due_any b _).mono ?_
    rintro e w2 ⟨rfl, k2⟩
    have K2 := k1.trans k2
    cases hb : dueB b
    · have Hr : Hid (dueBefB a b = false) := by show _ = _; simp [dueBefB, hb]
      go_wp2
      go_ret
      exact ⟨by rw [Hr.out]; rfl, kW.trans K2⟩
    · cases h1 : decide (a.due < b.due)
      · cases h2 : (a.due == b.due)
        · have Hr : Hid (dueBefB a b = false) := by show _ = _; simp only [dueBefB, h1, h2, Bool.false_and, Bool.or_false, Bool.and_false]
          go_wp2
          go_ret
          exact ⟨by rw [Hr.out]; rfl, kW.trans K2⟩
        · have Hr : Hid (dueBefB a b = decide (a.no < b.no)) := by show _ = _; simp only [dueBefB, ha, hb, h1, h2, Bool.true_and, Bool.false_or]
          go_wp2
          go_ret
          exact ⟨by rw [Hr.out]; rfl, kW.trans K2⟩
      · have Hr : Hid (dueBefB a b = true) := by show _ = _; simp only [dueBefB, ha, hb, h1, Bool.true_or, Bool.and_true]
        go_wp2
        go_ret
        exact ⟨by rw [Hr.out]; rfl, kW.trans K2⟩

set_option maxHeartbeats 2000000 in
theorem specDueShare_any (t : Tsk) (w : World) :
    Calls Try.prog 54 #[tk t] w fun e w' => e = .returned (.tuple #[sh (dueQ t) (dueP t), .bool (dueB t)]) ∧ Keeps w w' := by
  go_enter Try.func54, Try.ntmps54
  go_wp2_with fail
  refine (l4Due_any t _).mono ?_
  rintro e w1 ⟨rfl, k1⟩
  have B1 := ((Blk.new w (tc t) 25).alloc (.cells #[.int .i64 0, .int .i64 0] 59)).keeps k1
  have B2 := (Blk.new (w.alloc (.cells (tc t) 25)) #[.int .i64 0, .int .i64 0] 59).keeps k1
  have K1 : Hid (Keeps w w1) := (((Keeps.refl w).alloc _).alloc _).trans k1
  simp only [World.size_alloc] at B2
  have R : Hid (Blk w1 (w.heap.size + 1) #[.int .i64 0, .int .i64 0]) := B2
  obtain ⟨_, b1, b2⟩ := B1
  obtain ⟨_, c1, c2⟩ := B2
  clear k1
  cases hd : dueB t
  · have Hq : Hid (dueQ t = 0) := by show _ = _; simp [dueQ, hd]
    have Hp : Hid (dueP t = 0) := by show _ = _; simp [dueP, hd]
    go_wp2
    have D := R.out.putC [.int .i64 0, .int .i64 0] rfl
    have K := Keeps.putC (b := w.heap.size + 1) (by omega) [.int .i64 0, .int .i64 0] 0 K1.out
    change bodyPost _ _ _ _ _ (putC w1 (w.heap.size + 1) 0 [.int .i64 0, .int .i64 0])
    generalize putC w1 (w.heap.size + 1) 0 [.int .i64 0, .int .i64 0] = X at D K ⊢
    exact bodyPost_ret (v := .tuple #[sh 0 0, .bool false]) (by simp [results, Try.results54, go_sem, D.cells]) rfl ⟨by rw [Hq.out, Hp.out, hd], K⟩
  · have Hq : Hid (dueQ t = t.q) := by show _ = _; simp [dueQ, hd]
    have Hp : Hid (dueP t = t.p) := by show _ = _; simp [dueP, hd]
    go_wp2
    have D := R.out.putC [.int .i64 t.q, .int .i64 t.p] rfl
    have K := Keeps.putC (b := w.heap.size + 1) (by omega) [.int .i64 t.q, .int .i64 t.p] 0 K1.out
    change bodyPost _ _ _ _ _ (putC w1 (w.heap.size + 1) 0 [.int .i64 t.q, .int .i64 t.p])
    generalize putC w1 (w.heap.size + 1) 0 [.int .i64 t.q, .int .i64 t.p] = X at D K ⊢
    exact bodyPost_ret (v := .tuple #[sh t.q t.p, .bool true]) (by simp [results, Try.results54, go_sem, D.cells]) rfl ⟨by rw [Hq.out, Hp.out, hd], K⟩
end Go.Proofs.Ytmdpngahofeliaa
