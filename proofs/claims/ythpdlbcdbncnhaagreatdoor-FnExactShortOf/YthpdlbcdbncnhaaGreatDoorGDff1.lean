/-
  Deadlines: contracts of the model's functions.
  Fair shares: contracts of the model's functions.
  Fair shares: a contract of the model's function.
  Deadlines: the contract of one of the model's functions.
  Fair shares: a contract of the model's function.
  Deadlines: the contract of one of the model's functions.
  Fair shares over lists: contracts of the model's functions.
  Fair shares: a contract of the model's function.
  The walks of the exact laws of chapter 4, over contracts of the program's functions.
-/
import Derived.Test.YthpdlbcdbncnhaaGreatDoorGPure1
import Derived.Test.YthpdlbcdbncnhaaGreatDoorGBase1
import Derived.Test.YthpdlbcdbncnhaaGreatDoorGTask2
namespace Go.Proofs.YthpdlbcdbncnhaaGreatDoor
open Go.RowKit
attribute [local go_sem] Keeps.refl Keeps.alloc Keeps.drew Keeps.drewN

theorem l4Due_any (t : Tsk) (w : World) :
    Calls Tryz.prog 157 #[tk t] w fun e w' => e = .returned (.bool (dueB t)) ∧ Keeps w w' := by
  go_enter Tryz.func157, Tryz.ntmps157
  go_wp2_with fail
  refine (specTaskOk_any t _).mono ?_
  rintro e w1 ⟨rfl, k1⟩
  have B1 := (Blk.new w (tc t) 47).keeps k1
  have K1 : Keeps w w1 := ((Keeps.refl w).alloc _).trans k1
  obtain ⟨_, b1, b2⟩ := B1
  clear k1
  cases hb : taskB t
  · have Hr : Hid (dueB t = false) := by show _ = _; simp [dueB, hb]
    go_wp2
    go_ret
    exact ⟨by rw [Hr.out]; rfl, K1⟩
  · have Hr : Hid (dueB t = (t.cls == 1)) := by show _ = _; simp [dueB, hb]
    go_wp2
    go_ret
    exact ⟨by rw [Hr.out]; rfl, K1⟩

set_option maxHeartbeats 2000000 in
theorem specDueSpend_any (t : Tsk) (w : World) :
    Calls Tryz.prog 256 #[tk t] w fun e w' => e = .returned (tk (spendT t)) ∧ Keeps w w' := by
  go_enter Tryz.func256, Tryz.ntmps256
  go_wp2_with fail
  refine (l4Due_any t _).mono ?_
  rintro e w1 ⟨rfl, k1⟩
  have B1 := ((Blk.new w (tc t) 47).alloc (.cells (tc Tsk.zero) 47)).keeps k1
  have B2 := (Blk.new (w.alloc (.cells (tc t) 47)) (tc Tsk.zero) 47).keeps k1
  have K1 : Hid (Keeps w w1) := (((Keeps.refl w).alloc _).alloc _).trans k1
  simp only [World.size_alloc] at B2
  have R : Hid (Blk w1 (w.heap.size + 1) (tc Tsk.zero)) := B2
  obtain ⟨_, b1, b2⟩ := B1
  obtain ⟨_, c1, c2⟩ := B2
  clear k1
  cases hd : dueB t
  · have Hn : Hid (spendT t = t) := by show _ = _; simp [spendT, spendB, hd]
    go_wp2
    have D := R.out.putC (tc (t)).toList rfl
    have K := Keeps.putC (b := w.heap.size + 1) (by omega) (tc (t)).toList 0 K1.out
    change bodyPost _ _ _ _ _ (putC w1 (w.heap.size + 1) 0 (tc (t)).toList)
    generalize putC w1 (w.heap.size + 1) 0 (tc (t)).toList = X at D K ⊢
    exact bodyPost_ret (v := tk (t)) (by simp [results, Tryz.results256, go_sem, D.cells]) rfl ⟨by rw [Hn.out], K⟩
  · have H := (dueB_iff t).1 hd
    obtain ⟨p0, p1⟩ := H.p
    obtain ⟨q0, q1⟩ := H.q
    obtain ⟨l0, l1⟩ := H.left
    clear H
    cases hl : decide (0 < t.left)
    · have Hn : Hid (spendT t = t) := by show _ = _; simp only [spendT, spendB, hl, Bool.and_false, Bool.false_eq_true, if_false]
      go_wp2
      have D := R.out.putC (tc (t)).toList rfl
      have K := Keeps.putC (b := w.heap.size + 1) (by omega) (tc (t)).toList 0 K1.out
      change bodyPost _ _ _ _ _ (putC w1 (w.heap.size + 1) 0 (tc (t)).toList)
      generalize putC w1 (w.heap.size + 1) 0 (tc (t)).toList = X at D K ⊢
      exact bodyPost_ret (v := tk (t)) (by simp [results, Tryz.results256, go_sem, D.cells]) rfl ⟨by rw [Hn.out], K⟩
    · have Hn : Hid (spendT t = { t with left := t.left - 1 }) := by show _ = _; simp only [spendT, spendB, hl, hd, Bool.and_true, if_true]
      go_wp2
      have D := (R.out.far (c := w.heap.size) (o := 7) (by omega) (.int .i64 (t.left - 1))).putC (tc ({ t with left := t.left - 1 })).toList rfl
      have K := Keeps.putC (b := w.heap.size + 1) (by omega) (tc ({ t with left := t.left - 1 })).toList 0 (K1.out.setCell (p := ⟨w.heap.size, 7, none⟩) (Nat.le_refl _) (.int .i64 (t.left - 1)))
      change bodyPost _ _ _ _ _ (putC (w1.setCell ⟨w.heap.size, 7, none⟩ (.int .i64 (t.left - 1))) (w.heap.size + 1) 0 (tc ({ t with left := t.left - 1 })).toList)
      generalize putC (w1.setCell ⟨w.heap.size, 7, none⟩ (.int .i64 (t.left - 1))) (w.heap.size + 1) 0 (tc ({ t with left := t.left - 1 })).toList = X at D K ⊢
      exact bodyPost_ret (v := tk ({ t with left := t.left - 1 })) (by simp [results, Tryz.results256, go_sem, D.cells]) rfl ⟨by rw [Hn.out], K⟩

set_option maxHeartbeats 2000000 in
theorem specDueBefore_any (a b : Tsk) (w : World) :
    Calls Tryz.prog 110 #[tk a, tk b] w fun e w' => e = .returned (.bool (dueBefB a b)) ∧ Keeps w w' := by
  go_enter Tryz.func110, Tryz.ntmps110
  go_wp2_with fail
  have kW : Keeps w ((w.alloc (.cells (tc a) 47)).alloc (.cells (tc b) 47)) := ((Keeps.refl w).alloc _).alloc _
  have r1 : ∀ w', Keeps ((w.alloc (.cells (tc a) 47)).alloc (.cells (tc b) 47)) w' → ∀ k, w'.cell? ⟨w.heap.size, k, none⟩ = (tc a)[k]? := fun w' h => (((Blk.new w (tc a) 47).alloc _).keeps h).cells
  have r2 : ∀ w', Keeps ((w.alloc (.cells (tc a) 47)).alloc (.cells (tc b) 47)) w' → ∀ k, w'.cell? ⟨w.heap.size + 1, k, none⟩ = (tc b)[k]? := fun w' h => by
    have := (Blk.new (w.alloc (.cells (tc a) 47)) (tc b) 47).keeps h
    simp only [World.size_alloc] at this
    exact this.cells
  generalize (w.alloc (.cells (tc a) 47)).alloc (.cells (tc b) 47) = W at *
  refine (l4Due_any a _).mono ?_
  rintro e w1 ⟨rfl, k1⟩
  cases ha : dueB a
  · have Hr : Hid (dueBefB a b = false) := by show _ = _; simp [dueBefB, ha]
    go_wp2
    go_ret
    exact ⟨by rw [Hr.out]; rfl, kW.trans k1⟩
  · go_wp2_with fail
    refine (l4Due_any b _).mono ?_
    rintro e w2 ⟨rfl, k2⟩
    have K2 := k1.trans k2
    cases hb : dueB b
    · have Hr : Hid (dueBefB a b = false) := by show _ = _; simp [dueBefB, hb]
      go_wp2
      go_ret
      exact ⟨by rw [Hr.out]; rfl, kW.trans K2⟩
    · cases h1 : decide (a.due < b.due)
      · cases h2 : (a.due == b.due)
        · have Hr : Hid (dueBefB a b = false) := by show _ = _; simp only [dueBefB, h1, h2, Bool.false_and, Bool.or_false, Bool.and_false]
          go_wp2
          go_ret
          exact ⟨by rw [Hr.out]; rfl, kW.trans K2⟩
        · have Hr : Hid (dueBefB a b = decide (a.no < b.no)) := by show _ = _; simp only [dueBefB, ha, hb, h1, h2, Bool.true_and, Bool.false_or]
          go_wp2
          go_ret
          exact ⟨by rw [Hr.out]; rfl, kW.trans K2⟩
      · have Hr : Hid (dueBefB a b = true) := by show _ = _; simp only [dueBefB, ha, hb, h1, Bool.true_or, Bool.and_true]
        go_wp2
        go_ret
        exact ⟨by rw [Hr.out]; rfl, kW.trans K2⟩

end Go.Proofs.YthpdlbcdbncnhaaGreatDoor
namespace Go.Proofs.YthpdlbcdbncnhaaGreatDoor
open Go.RowKit
attribute [local go_sem] Keeps.refl Keeps.alloc Keeps.drew Keeps.drewN

set_option maxRecDepth 100000 in
theorem l1Max_any (a b : Int) (w : World) :
    Calls Tryz.prog 90 #[.int .i64 a, .int .i64 b] w fun e w' => e = .returned (.int .i64 (max a b)) ∧ w' = w := by
  by_cases h : a > b
  · have Hr : Hid (max a b = a) := by show _ = _; omega
    go_enter Tryz.func90, Tryz.ntmps90
    go_wp2
    go_ret
    exact ⟨by rw [Hr.out]; rfl, rfl⟩
  · have Hr : Hid (max a b = b) := by show _ = _; omega
    have hd : decide (a > b) = false := by simpa using h
    go_enter Tryz.func90, Tryz.ntmps90
    go_wp2
    go_ret
    exact ⟨by rw [Hr.out]; rfl, rfl⟩

set_option maxRecDepth 100000 in
theorem l6Fair_any (t : Tsk) (w : World) :
    Calls Tryz.prog 89 #[tk t] w fun e w' => e = .returned (.bool (fairB t)) ∧ Keeps w w' := by
  go_enter Tryz.func89, Tryz.ntmps89
  go_wp2_with fail
  refine (specTaskOk_any t _).mono ?_
  rintro e w1 ⟨rfl, k1⟩
  have B1 := (Blk.new w (tc t) 47).keeps k1
  have K1 : Keeps w w1 := ((Keeps.refl w).alloc _).trans k1
  obtain ⟨_, b1, b2⟩ := B1
  clear k1
  cases hb : taskB t
  · have Hr : Hid (fairB t = false) := by show _ = _; simp [fairB, hb]
    go_wp2
    go_ret
    exact ⟨by rw [Hr.out]; rfl, K1⟩
  · have Hr : Hid (fairB t = (t.cls == 3)) := by show _ = _; simp [fairB, hb]
    go_wp2
    go_ret
    exact ⟨by rw [Hr.out]; rfl, K1⟩

set_option maxRecDepth 100000 in
set_option maxHeartbeats 2000000 in
theorem specFairBefore_any (a b : Tsk) (w : World) :
    Calls Tryz.prog 112 #[tk a, tk b] w fun e w' => e = .returned (.bool (fairBefB a b)) ∧ Keeps w w' := by
  go_enter Tryz.func112, Tryz.ntmps112
  go_wp2_with fail
  have kW : Keeps w ((w.alloc (.cells (tc a) 47)).alloc (.cells (tc b) 47)) := ((Keeps.refl w).alloc _).alloc _
  have r1 : ∀ w', Keeps ((w.alloc (.cells (tc a) 47)).alloc (.cells (tc b) 47)) w' → ∀ k, w'.cell? ⟨w.heap.size, k, none⟩ = (tc a)[k]? := fun w' h => (((Blk.new w (tc a) 47).alloc _).keeps h).cells
  have r2 : ∀ w', Keeps ((w.alloc (.cells (tc a) 47)).alloc (.cells (tc b) 47)) w' → ∀ k, w'.cell? ⟨w.heap.size + 1, k, none⟩ = (tc b)[k]? := fun w' h => by
    have := (Blk.new (w.alloc (.cells (tc a) 47)) (tc b) 47).keeps h
    simp only [World.size_alloc] at this
    exact this.cells
  generalize (w.alloc (.cells (tc a) 47)).alloc (.cells (tc b) 47) = W at *
  refine (l6Fair_any a _).mono ?_
  rintro e w1 ⟨rfl, k1⟩
  cases ha : fairB a
  · have Hr : Hid (fairBefB a b = false) := by show _ = _; simp [fairBefB, ha]
    go_wp2
    go_ret
    exact ⟨by rw [Hr.out]; rfl, kW.trans k1⟩
  · go_wp2_with fail
    refine (l6Fair_any b _).mono ?_
    rintro e w2 ⟨rfl, k2⟩
    have K2 := k1.trans k2
    cases hb : fairB b
    · have Hr : Hid (fairBefB a b = false) := by show _ = _; simp [fairBefB, hb]
      go_wp2
      go_ret
      exact ⟨by rw [Hr.out]; rfl, kW.trans K2⟩
    · cases h1 : decide (a.v < b.v)
      · cases h2 : (a.v == b.v)
        · have Hr : Hid (fairBefB a b = false) := by show _ = _; simp only [fairBefB, h1, h2, Bool.false_and, Bool.or_false, Bool.and_false]
          go_wp2
          go_ret
          exact ⟨by rw [Hr.out]; rfl, kW.trans K2⟩
        · have Hr : Hid (fairBefB a b = decide (a.no < b.no)) := by show _ = _; simp only [fairBefB, ha, hb, h1, h2, Bool.true_and, Bool.false_or]
          go_wp2
          go_ret
          exact ⟨by rw [Hr.out]; rfl, kW.trans K2⟩
      · have Hr : Hid (fairBefB a b = true) := by show _ = _; simp only [fairBefB, ha, hb, h1, Bool.true_or, Bool.and_true]
        go_wp2
        go_ret
        exact ⟨by rw [Hr.out]; rfl, kW.trans K2⟩

set_option maxRecDepth 100000 in
set_option maxHeartbeats 2000000 in
theorem l6To_any (t : Tsk) (x : Int) (w : World) :
    Calls Tryz.prog 257 #[tk t, .int .i64 x] w fun e w' => e = .returned (tk (fairTo t x)) ∧ Keeps w w' := by
  cases hb : inB x 0 100000000
  · have Hn : Hid (fairTo t x = t) := by show _ = _; simp [fairTo, hb]
    go_enter Tryz.func257, Tryz.ntmps257
    go_wp2_with (go_at_call 64; refine (l1In_any _ _ _ _).mono ?_; rintro e w' ⟨rfl, rfl⟩; rw [hb])
    exact bodyPost_ret (v := tk t) (by simp [results, Tryz.results257, go_sem]) rfl ⟨by rw [Hn.out], by repeat (first | exact Keeps.refl _ | refine Keeps.alloc ?_ _ | refine Keeps.drewN ?_ _ | refine Keeps.setCell ?_ (by simp [go_sem]) _)⟩
  · have Hn : Hid (fairTo t x = { t with v := x }) := by show _ = _; simp [fairTo, hb]
    go_enter Tryz.func257, Tryz.ntmps257
    go_wp2_with (go_at_call 64; refine (l1In_any _ _ _ _).mono ?_; rintro e w' ⟨rfl, rfl⟩; rw [hb])
    exact bodyPost_ret (v := tk { t with v := x }) (by simp [results, Tryz.results257, go_sem]) rfl ⟨by rw [Hn.out], by repeat (first | exact Keeps.refl _ | refine Keeps.alloc ?_ _ | refine Keeps.drewN ?_ _ | refine Keeps.setCell ?_ (by simp [go_sem]) _)⟩

end Go.Proofs.YthpdlbcdbncnhaaGreatDoor
namespace Go.Proofs.YthpdlbcdbncnhaaGreatDoor
open Go.RowKit
attribute [local go_sem] Keeps.refl Keeps.alloc Keeps.drew Keeps.drewN

set_option maxRecDepth 100000 in
set_option maxHeartbeats 4000000 in
theorem specFairSpend_any (t : Tsk) (w : World) :
    Calls Tryz.prog 255 #[tk t] w fun e w' => e = .returned (tk (fairSpendT t)) ∧ Keeps w w' := by
  go_enter Tryz.func255, Tryz.ntmps255
  go_wp2_with fail
  refine (l6Fair_any t _).mono ?_
  rintro e w1 ⟨rfl, k1⟩
  have B1 := ((Blk.new w (tc t) 47).alloc (.cells (tc Tsk.zero) 47)).keeps k1
  have B2 := (Blk.new (w.alloc (.cells (tc t) 47)) (tc Tsk.zero) 47).keeps k1
  have K1 : Hid (Keeps w w1) := (((Keeps.refl w).alloc _).alloc _).trans k1
  simp only [World.size_alloc] at B2
  have R : Hid (Blk w1 (w.heap.size + 1) (tc Tsk.zero)) := B2
  have B0 : Hid (Blk w1 w.heap.size (tc t)) := B1
  obtain ⟨_, b1, b2⟩ := B1
  obtain ⟨_, c1, c2⟩ := B2
  clear k1
  cases hd : fairB t
  · have Hn : Hid (fairSpendT t = t) := by show _ = _; simp [fairSpendT, hd]
    go_wp2
    have D := R.out.putC (tc (t)).toList rfl
    have K := Keeps.putC (b := w.heap.size + 1) (by omega) (tc (t)).toList 0 K1.out
    change bodyPost _ _ _ _ _ (putC w1 (w.heap.size + 1) 0 (tc (t)).toList)
    generalize putC w1 (w.heap.size + 1) 0 (tc (t)).toList = X at D K ⊢
    exact bodyPost_ret (v := tk (t)) (by simp [results, Tryz.results255, go_sem, D.cells]) rfl ⟨by rw [Hn.out], K⟩
  · have H := (fairB_iff t).1 hd
    obtain ⟨v0, v1⟩ := H.v
    have hst := stepI_bd t.nice
    have e1 : IntKind.i64.wrap (t.v + stepI t.nice) = t.v + stepI t.nice := Go.IntWalk.i64_in _ (by omega)
    have Hn : Hid (fairSpendT t = fairTo t (t.v + stepI t.nice)) := by show _ = _; simp [fairSpendT, hd]
    clear H hst
    obtain ⟨N, HN⟩ : ∃ N, Hid (fairTo t (t.v + stepI t.nice) = N) := ⟨_, rfl⟩
    go_wp2_with fail
    have H0 : Has w w.heap.size (tc t) w1 := ⟨K1.out, B0.out⟩
    have r1 : ∀ w', Has w w.heap.size (tc t) w' → ∀ k, w'.cell? ⟨w.heap.size, k, none⟩ = (tc t)[k]? := fun w' h => h.box.cells
    clear b1 b2 c1 c2
    refine wp_region_held_drew (S := (fun w' => Has w w.heap.size (tc t) w')) (by kernel_rfl) ?_ (fun hHeld => ?_)
    · exact H0.go (Keeps.refl _).drew
    refine Plan.go [0, 1, 2, 3, 4] ?_
    iterate 5 (refine takeL (by simp only [opsAt]; rfl) (by kernel_rfl) (by exact fun _ _ _ h => h) (by rfl) (by assumption) (fun w _ => by go_simp; try (with_reducible rfl)) ?_; try simp only [putAtH])
    refine Plan.nil ?_
    refine callH 5 (by kernel_rfl) (by simp only [opsAt]; rfl) (fun K hK => ?_)
    go_simp
    first
      | (go_at_call 258; refine (specStepOf_any _ _).mono ?_; rintro e w2 ⟨rfl, k2⟩)
      | (go_at_call 257; refine (l6To_any t _ _).mono ?_; rintro e w3 ⟨rfl, k3⟩; rw [HN.out])
    try go_wp2_with fail
    refine hK.out _ _ ?_ (fun hHeld => ?_)
    · first | exact Has.go (by assumption) (by assumption) | assumption
    clear hK K
    try simp only [putAtH]
    refine takeH 6 (v := ?_) (by simp only [opsAt]; rfl) (by kernel_rfl) (by exact fun _ _ _ h => h) (by rfl) (by assumption) ?_ ?_
    rotate_left
    · (intro w _; go_simp; try (with_reducible rfl))
    try simp only [putAtH]
    refine callH 7 (by kernel_rfl) (by simp only [opsAt]; rfl) (fun K hK => ?_)
    go_simp
    first
      | (go_at_call 258; refine (specStepOf_any _ _).mono ?_; rintro e w2 ⟨rfl, k2⟩)
      | (go_at_call 257; refine (l6To_any t _ _).mono ?_; rintro e w3 ⟨rfl, k3⟩; rw [HN.out])
    try go_wp2_with fail
    refine hK.out _ _ ?_ (fun hHeld => ?_)
    · first | exact Has.go (by assumption) (by assumption) | assumption
    clear hK K
    try simp only [putAtH]
    refine callH 8 (by kernel_rfl) (by simp only [opsAt]; rfl) (fun K hK => ?_)
    have HB := R.out.keeps (((Keeps.refl w1).drew.trans k2).trans k3); have HD : Hid (Blk w3 (w.heap.size + 1) (tc Tsk.zero)) := HB; obtain ⟨_, q1, q2⟩ := HB
    go_simp
    try go_wp2_with fail
    refine hK.out _ _ ?_ (fun hHeld => ?_)
    · exact Has.put (by assumption) (r := w.heap.size + 1) (by omega) (by omega) 0 (tc N).toList
    clear hK K
    try simp only [putAtH]
    refine wpAnyH_done (by kernel_rfl) ?_ _
    go_wp2
    have D := HD.out.putC (tc N).toList rfl
    have K := Keeps.putC (b := w.heap.size + 1) (by omega) (tc N).toList 0 (K1.out.trans (((Keeps.refl w1).drew.trans k2).trans k3))
    change bodyPost _ _ _ _ _ (putC w3 (w.heap.size + 1) 0 (tc N).toList)
    generalize putC w3 (w.heap.size + 1) 0 (tc N).toList = X at D K ⊢
    exact bodyPost_ret (v := tk N) (by simp [results, Tryz.results255, go_sem, D.cells]) rfl ⟨by rw [Hn.out, HN.out], K⟩
end Go.Proofs.YthpdlbcdbncnhaaGreatDoor
namespace Go.Proofs.YthpdlbcdbncnhaaGreatDoor
open Go.RowKit
attribute [local go_sem] Keeps.refl Keeps.alloc Keeps.drew Keeps.drewN

set_option maxHeartbeats 2000000 in
theorem specDueWake_any (t : Tsk) (now : Int) (w : World) :
    Calls Tryz.prog 253 #[tk t, .int .i64 now] w fun e w' => e = .returned (tk (wakeT t now)) ∧ Keeps w w' := by
  go_enter Tryz.func253, Tryz.ntmps253
  go_wp2_with fail
  refine (l4Due_any t _).mono ?_
  rintro e w1 ⟨rfl, k1⟩
  have B1 := ((Blk.new w (tc t) 47).alloc (.cells (tc Tsk.zero) 47)).keeps k1
  have B2 := (Blk.new (w.alloc (.cells (tc t) 47)) (tc Tsk.zero) 47).keeps k1
  have K1 : Hid (Keeps w w1) := (((Keeps.refl w).alloc _).alloc _).trans k1
  simp only [World.size_alloc] at B2
  have R : Hid (Blk w1 (w.heap.size + 1) (tc Tsk.zero)) := B2
  obtain ⟨_, b1, b2⟩ := B1
  obtain ⟨_, c1, c2⟩ := B2
  clear k1
  cases hd : dueB t
  · have Hn : Hid (wakeT t now = t) := by show _ = _; simp [wakeT, wakeB, hd]
    go_wp2
    have D := R.out.putC (tc (t)).toList rfl
    have K := Keeps.putC (b := w.heap.size + 1) (by omega) (tc (t)).toList 0 K1.out
    change bodyPost _ _ _ _ _ (putC w1 (w.heap.size + 1) 0 (tc (t)).toList)
    generalize putC w1 (w.heap.size + 1) 0 (tc (t)).toList = X at D K ⊢
    exact bodyPost_ret (v := tk (t)) (by simp [results, Tryz.results253, go_sem, D.cells]) rfl ⟨by rw [Hn.out], K⟩
  · cases hi : inB now 0 100000
    · have Hn : Hid (wakeT t now = t) := by show _ = _; simp [wakeT, wakeB, hi]
      go_wp2_with (go_at_call 64; refine (l1In_any _ _ _ _).mono ?_; rintro e w' ⟨rfl, hw'⟩; have hw2 := hw'.symm; subst hw2)
      have D := R.out.putC (tc (t)).toList rfl
      have K := Keeps.putC (b := w.heap.size + 1) (by omega) (tc (t)).toList 0 K1.out
      change bodyPost _ _ _ _ _ (putC w1 (w.heap.size + 1) 0 (tc (t)).toList)
      generalize putC w1 (w.heap.size + 1) 0 (tc (t)).toList = X at D K ⊢
      exact bodyPost_ret (v := tk (t)) (by simp [results, Tryz.results253, go_sem, D.cells]) rfl ⟨by rw [Hn.out], K⟩
    · have H := (dueB_iff t).1 hd
      obtain ⟨p0, p1⟩ := H.p
      obtain ⟨q0, q1⟩ := H.q
      obtain ⟨l0, l1⟩ := H.left
      obtain ⟨d0, d1⟩ := H.due
      obtain ⟨n0, n1⟩ := inB_iff.1 hi
      clear H
      cases hl : decide (t.due ≤ now)
      · have hl' := of_decide_eq_false hl
        have m1 := mul_bd (A := 40) (B := 40) l0 (by omega) (show 0 ≤ t.p by omega) p1
        have m2 := mul_bd (A := 100040) (B := 40) (show 0 ≤ t.due - now by omega) (by omega) (show 0 ≤ t.q by omega) (by omega)
        have e1 : IntKind.i64.wrap (t.left * t.p) = t.left * t.p := Go.IntWalk.i64_in _ (by omega)
        have e2 : IntKind.i64.wrap ((t.due - now) * t.q) = (t.due - now) * t.q := Go.IntWalk.i64_in _ (by omega)
        clear m1 m2
        cases hm : decide ((t.due - now) * t.q < t.left * t.p)
        · have Hn : Hid (wakeT t now = t) := by show _ = _; simp only [wakeT, wakeB, lateB, hl, hm, Bool.or_false, Bool.and_false, Bool.false_eq_true, if_false]
          go_wp2_with (go_at_call 64; refine (l1In_any _ _ _ _).mono ?_; rintro e w' ⟨rfl, hw'⟩; have hw2 := hw'.symm; subst hw2)
          have D := R.out.putC (tc (t)).toList rfl
          have K := Keeps.putC (b := w.heap.size + 1) (by omega) (tc (t)).toList 0 K1.out
          change bodyPost _ _ _ _ _ (putC w1 (w.heap.size + 1) 0 (tc (t)).toList)
          generalize putC w1 (w.heap.size + 1) 0 (tc (t)).toList = X at D K ⊢
          exact bodyPost_ret (v := tk (t)) (by simp [results, Tryz.results253, go_sem, D.cells]) rfl ⟨by rw [Hn.out], K⟩
        · have Hn : Hid (wakeT t now = { t with left := t.q, due := now + t.p }) := by show _ = _; simp only [wakeT, wakeB, lateB, hl, hm, hd, hi, Bool.false_or, Bool.and_true, if_true]
          go_wp2_with (go_at_call 64; refine (l1In_any _ _ _ _).mono ?_; rintro e w' ⟨rfl, hw'⟩; have hw2 := hw'.symm; subst hw2)
          have D := ((R.out.far (c := w.heap.size) (o := 7) (by omega) (.int .i64 (t.q))).far (c := w.heap.size) (o := 8) (by omega) (.int .i64 (now + t.p))).putC (tc ({ t with left := t.q, due := now + t.p })).toList rfl
          have K := Keeps.putC (b := w.heap.size + 1) (by omega) (tc ({ t with left := t.q, due := now + t.p })).toList 0 ((K1.out.setCell (p := ⟨w.heap.size, 7, none⟩) (Nat.le_refl _) (.int .i64 (t.q))).setCell (p := ⟨w.heap.size, 8, none⟩) (Nat.le_refl _) (.int .i64 (now + t.p)))
          change bodyPost _ _ _ _ _ (putC ((w1.setCell ⟨w.heap.size, 7, none⟩ (.int .i64 (t.q))).setCell ⟨w.heap.size, 8, none⟩ (.int .i64 (now + t.p))) (w.heap.size + 1) 0 (tc ({ t with left := t.q, due := now + t.p })).toList)
          generalize putC ((w1.setCell ⟨w.heap.size, 7, none⟩ (.int .i64 (t.q))).setCell ⟨w.heap.size, 8, none⟩ (.int .i64 (now + t.p))) (w.heap.size + 1) 0 (tc ({ t with left := t.q, due := now + t.p })).toList = X at D K ⊢
          exact bodyPost_ret (v := tk ({ t with left := t.q, due := now + t.p })) (by simp [results, Tryz.results253, go_sem, D.cells]) rfl ⟨by rw [Hn.out], K⟩
      · have Hn : Hid (wakeT t now = { t with left := t.q, due := now + t.p }) := by show _ = _; simp only [wakeT, wakeB, lateB, hl, hd, hi, Bool.true_or, Bool.and_true, if_true]
        go_wp2_with (go_at_call 64; refine (l1In_any _ _ _ _).mono ?_; rintro e w' ⟨rfl, hw'⟩; have hw2 := hw'.symm; subst hw2)
        have D := ((R.out.far (c := w.heap.size) (o := 7) (by omega) (.int .i64 (t.q))).far (c := w.heap.size) (o := 8) (by omega) (.int .i64 (now + t.p))).putC (tc ({ t with left := t.q, due := now + t.p })).toList rfl
        have K := Keeps.putC (b := w.heap.size + 1) (by omega) (tc ({ t with left := t.q, due := now + t.p })).toList 0 ((K1.out.setCell (p := ⟨w.heap.size, 7, none⟩) (Nat.le_refl _) (.int .i64 (t.q))).setCell (p := ⟨w.heap.size, 8, none⟩) (Nat.le_refl _) (.int .i64 (now + t.p)))
        change bodyPost _ _ _ _ _ (putC ((w1.setCell ⟨w.heap.size, 7, none⟩ (.int .i64 (t.q))).setCell ⟨w.heap.size, 8, none⟩ (.int .i64 (now + t.p))) (w.heap.size + 1) 0 (tc ({ t with left := t.q, due := now + t.p })).toList)
        generalize putC ((w1.setCell ⟨w.heap.size, 7, none⟩ (.int .i64 (t.q))).setCell ⟨w.heap.size, 8, none⟩ (.int .i64 (now + t.p))) (w.heap.size + 1) 0 (tc ({ t with left := t.q, due := now + t.p })).toList = X at D K ⊢
        exact bodyPost_ret (v := tk ({ t with left := t.q, due := now + t.p })) (by simp [results, Tryz.results253, go_sem, D.cells]) rfl ⟨by rw [Hn.out], K⟩

end Go.Proofs.YthpdlbcdbncnhaaGreatDoor
namespace Go.Proofs.YthpdlbcdbncnhaaGreatDoor
open Go.RowKit
attribute [local go_sem] Keeps.refl Keeps.alloc Keeps.drew Keeps.drewN

set_option maxRecDepth 100000 in
set_option maxHeartbeats 4000000 in
theorem specFairWake_any (t : Tsk) (floor : Int) (w : World) :
    Calls Tryz.prog 252 #[tk t, .int .i64 floor] w fun e w' => e = .returned (tk (fairWakeT t floor)) ∧ Keeps w w' := by
  go_enter Tryz.func252, Tryz.ntmps252
  go_wp2_with fail
  refine (l6Fair_any t _).mono ?_
  rintro e w1 ⟨rfl, k1⟩
  have B1 := ((Blk.new w (tc t) 47).alloc (.cells (tc Tsk.zero) 47)).keeps k1
  have B2 := (Blk.new (w.alloc (.cells (tc t) 47)) (tc Tsk.zero) 47).keeps k1
  have K1 : Hid (Keeps w w1) := (((Keeps.refl w).alloc _).alloc _).trans k1
  simp only [World.size_alloc] at B2
  have R : Hid (Blk w1 (w.heap.size + 1) (tc Tsk.zero)) := B2
  have B0 : Hid (Blk w1 w.heap.size (tc t)) := B1
  obtain ⟨_, b1, b2⟩ := B1
  obtain ⟨_, c1, c2⟩ := B2
  clear k1
  cases hd : fairB t
  · have Hn : Hid (fairWakeT t floor = t) := by show _ = _; simp [fairWakeT, hd]
    go_wp2
    have D := R.out.putC (tc (t)).toList rfl
    have K := Keeps.putC (b := w.heap.size + 1) (by omega) (tc (t)).toList 0 K1.out
    change bodyPost _ _ _ _ _ (putC w1 (w.heap.size + 1) 0 (tc (t)).toList)
    generalize putC w1 (w.heap.size + 1) 0 (tc (t)).toList = X at D K ⊢
    exact bodyPost_ret (v := tk (t)) (by simp [results, Tryz.results252, go_sem, D.cells]) rfl ⟨by rw [Hn.out], K⟩
  · have Hn : Hid (fairWakeT t floor = fairTo t (max t.v floor)) := by show _ = _; simp [fairWakeT, hd]
    obtain ⟨N, HN⟩ : ∃ N, Hid (fairTo t (max t.v floor) = N) := ⟨_, rfl⟩
    go_wp2_with fail
    have H0 : Has w w.heap.size (tc t) w1 := ⟨K1.out, B0.out⟩
    have r1 : ∀ w', Has w w.heap.size (tc t) w' → ∀ k, w'.cell? ⟨w.heap.size, k, none⟩ = (tc t)[k]? := fun w' h => h.box.cells
    clear b1 b2 c1 c2
    refine wp_region_held_drew (S := (fun w' => Has w w.heap.size (tc t) w')) (by kernel_rfl) ?_ (fun hHeld => ?_)
    · exact H0.go (Keeps.refl _).drew
    refine Plan.go [0, 1, 2, 3] ?_
    iterate 4 (refine takeL (by simp only [opsAt]; rfl) (by kernel_rfl) (by exact fun _ _ _ h => h) (by rfl) (by assumption) (fun w _ => by go_simp; try (with_reducible rfl)) ?_; try simp only [putAtH])
    refine Plan.nil ?_
    refine callH 4 (by kernel_rfl) (by simp only [opsAt]; rfl) (fun K hK => ?_)
    go_simp
    first
      | (go_at_call 90; refine (l1Max_any _ _ _).mono ?_; rintro e w2 ⟨rfl, rfl⟩)
      | (go_at_call 257; refine (l6To_any t _ _).mono ?_; rintro e w3 ⟨rfl, k3⟩; rw [HN.out])
    try go_wp2_with fail
    refine hK.out _ _ ?_ (fun hHeld => ?_)
    · first | exact Has.go (by assumption) (by assumption) | assumption
    clear hK K
    try simp only [putAtH]
    refine callH 5 (by kernel_rfl) (by simp only [opsAt]; rfl) (fun K hK => ?_)
    go_simp
    first
      | (go_at_call 90; refine (l1Max_any _ _ _).mono ?_; rintro e w2 ⟨rfl, rfl⟩)
      | (go_at_call 257; refine (l6To_any t _ _).mono ?_; rintro e w3 ⟨rfl, k3⟩; rw [HN.out])
    try go_wp2_with fail
    refine hK.out _ _ ?_ (fun hHeld => ?_)
    · first | exact Has.go (by assumption) (by assumption) | assumption
    clear hK K
    try simp only [putAtH]
    refine callH 6 (by kernel_rfl) (by simp only [opsAt]; rfl) (fun K hK => ?_)
    have HB := R.out.keeps ((Keeps.refl w1).drew.trans k3); have HD : Hid (Blk w3 (w.heap.size + 1) (tc Tsk.zero)) := HB; obtain ⟨_, q1, q2⟩ := HB
    go_simp
    try go_wp2_with fail
    refine hK.out _ _ ?_ (fun hHeld => ?_)
    · exact Has.put (by assumption) (r := w.heap.size + 1) (by omega) (by omega) 0 (tc N).toList
    clear hK K
    try simp only [putAtH]
    refine wpAnyH_done (by kernel_rfl) ?_ _
    go_wp2
    have D := HD.out.putC (tc N).toList rfl
    have K := Keeps.putC (b := w.heap.size + 1) (by omega) (tc N).toList 0 (K1.out.trans ((Keeps.refl w1).drew.trans k3))
    change bodyPost _ _ _ _ _ (putC w3 (w.heap.size + 1) 0 (tc N).toList)
    generalize putC w3 (w.heap.size + 1) 0 (tc N).toList = X at D K ⊢
    exact bodyPost_ret (v := tk N) (by simp [results, Tryz.results252, go_sem, D.cells]) rfl ⟨by rw [Hn.out, HN.out], K⟩
end Go.Proofs.YthpdlbcdbncnhaaGreatDoor
namespace Go.Proofs.YthpdlbcdbncnhaaGreatDoor
open Go.RowKit
attribute [local go_sem] Keeps.refl Keeps.alloc Keeps.drew Keeps.drewN

set_option maxHeartbeats 2000000 in
theorem specDueRenew_any (t : Tsk) (now : Int) (w : World) :
    Calls Tryz.prog 246 #[tk t, .int .i64 now] w fun e w' => e = .returned (tk (renewT t now)) ∧ Keeps w w' := by
  go_enter Tryz.func246, Tryz.ntmps246
  go_wp2_with fail
  refine (l4Due_any t _).mono ?_
  rintro e w1 ⟨rfl, k1⟩
  have B1 := ((Blk.new w (tc t) 47).alloc (.cells (tc Tsk.zero) 47)).keeps k1
  have B2 := (Blk.new (w.alloc (.cells (tc t) 47)) (tc Tsk.zero) 47).keeps k1
  have K1 : Hid (Keeps w w1) := (((Keeps.refl w).alloc _).alloc _).trans k1
  simp only [World.size_alloc] at B2
  have R : Hid (Blk w1 (w.heap.size + 1) (tc Tsk.zero)) := B2
  obtain ⟨_, b1, b2⟩ := B1
  obtain ⟨_, c1, c2⟩ := B2
  clear k1
  cases hd : dueB t
  · have Hn : Hid (renewT t now = t) := by show _ = _; simp [renewT, renewB, hd]
    go_wp2
    have D := R.out.putC (tc (t)).toList rfl
    have K := Keeps.putC (b := w.heap.size + 1) (by omega) (tc (t)).toList 0 K1.out
    change bodyPost _ _ _ _ _ (putC w1 (w.heap.size + 1) 0 (tc (t)).toList)
    generalize putC w1 (w.heap.size + 1) 0 (tc (t)).toList = X at D K ⊢
    exact bodyPost_ret (v := tk (t)) (by simp [results, Tryz.results246, go_sem, D.cells]) rfl ⟨by rw [Hn.out], K⟩
  · cases hi : inB now 0 100000
    · have Hn : Hid (renewT t now = t) := by show _ = _; simp [renewT, renewB, hi]
      go_wp2_with (go_at_call 64; refine (l1In_any _ _ _ _).mono ?_; rintro e w' ⟨rfl, hw'⟩; have hw2 := hw'.symm; subst hw2)
      have D := R.out.putC (tc (t)).toList rfl
      have K := Keeps.putC (b := w.heap.size + 1) (by omega) (tc (t)).toList 0 K1.out
      change bodyPost _ _ _ _ _ (putC w1 (w.heap.size + 1) 0 (tc (t)).toList)
      generalize putC w1 (w.heap.size + 1) 0 (tc (t)).toList = X at D K ⊢
      exact bodyPost_ret (v := tk (t)) (by simp [results, Tryz.results246, go_sem, D.cells]) rfl ⟨by rw [Hn.out], K⟩
    · have H := (dueB_iff t).1 hd
      obtain ⟨p0, p1⟩ := H.p
      obtain ⟨d0, d1⟩ := H.due
      clear H
      cases hl : decide (now < t.due)
      · have hl' := of_decide_eq_false hl
        have Hn : Hid (renewT t now = { t with left := t.q, due := t.due + t.p }) := by show _ = _; simp only [renewT, renewB, hd, hi, decide_eq_true (show t.due ≤ now by omega), Bool.and_true, if_true]
        go_wp2_with (go_at_call 64; refine (l1In_any _ _ _ _).mono ?_; rintro e w' ⟨rfl, hw'⟩; have hw2 := hw'.symm; subst hw2)
        have D := ((R.out.far (c := w.heap.size) (o := 7) (by omega) (.int .i64 (t.q))).far (c := w.heap.size) (o := 8) (by omega) (.int .i64 (t.due + t.p))).putC (tc ({ t with left := t.q, due := t.due + t.p })).toList rfl
        have K := Keeps.putC (b := w.heap.size + 1) (by omega) (tc ({ t with left := t.q, due := t.due + t.p })).toList 0 ((K1.out.setCell (p := ⟨w.heap.size, 7, none⟩) (Nat.le_refl _) (.int .i64 (t.q))).setCell (p := ⟨w.heap.size, 8, none⟩) (Nat.le_refl _) (.int .i64 (t.due + t.p)))
        change bodyPost _ _ _ _ _ (putC ((w1.setCell ⟨w.heap.size, 7, none⟩ (.int .i64 (t.q))).setCell ⟨w.heap.size, 8, none⟩ (.int .i64 (t.due + t.p))) (w.heap.size + 1) 0 (tc ({ t with left := t.q, due := t.due + t.p })).toList)
        generalize putC ((w1.setCell ⟨w.heap.size, 7, none⟩ (.int .i64 (t.q))).setCell ⟨w.heap.size, 8, none⟩ (.int .i64 (t.due + t.p))) (w.heap.size + 1) 0 (tc ({ t with left := t.q, due := t.due + t.p })).toList = X at D K ⊢
        exact bodyPost_ret (v := tk ({ t with left := t.q, due := t.due + t.p })) (by simp [results, Tryz.results246, go_sem, D.cells]) rfl ⟨by rw [Hn.out], K⟩
      · have hl' := of_decide_eq_true hl
        have Hn : Hid (renewT t now = t) := by show _ = _; simp only [renewT, renewB, decide_eq_false (show ¬ t.due ≤ now by omega), Bool.and_false, Bool.false_eq_true, if_false]
        go_wp2_with (go_at_call 64; refine (l1In_any _ _ _ _).mono ?_; rintro e w' ⟨rfl, hw'⟩; have hw2 := hw'.symm; subst hw2)
        have D := R.out.putC (tc (t)).toList rfl
        have K := Keeps.putC (b := w.heap.size + 1) (by omega) (tc (t)).toList 0 K1.out
        change bodyPost _ _ _ _ _ (putC w1 (w.heap.size + 1) 0 (tc (t)).toList)
        generalize putC w1 (w.heap.size + 1) 0 (tc (t)).toList = X at D K ⊢
        exact bodyPost_ret (v := tk (t)) (by simp [results, Tryz.results246, go_sem, D.cells]) rfl ⟨by rw [Hn.out], K⟩

end Go.Proofs.YthpdlbcdbncnhaaGreatDoor
namespace Go.Proofs.YthpdlbcdbncnhaaGreatDoor
open Go.RowKit
attribute [local go_sem] Keeps.refl Keeps.alloc Keeps.drew Keeps.drewN

theorem foldl_take {α β : Type} (f : β → α → β) (a : β) {ts : List α} {k : Nat} {t : α} (h : ts[k]? = some t) : (ts.take (k + 1)).foldl f a = f ((ts.take k).foldl f a) t := by
  have hk : k < ts.length := by
    rcases Nat.lt_or_ge k ts.length with h' | h'
    · exact h'
    · simp [List.getElem?_eq_none h'] at h
  rw [List.getElem?_eq_getElem hk] at h
  rw [List.take_succ_eq_append_getElem hk, List.foldl_append]
  simp only [Option.some.injEq] at h
  rw [h]
  rfl
theorem foldl_all {α β : Type} (f : β → α → β) (a : β) {ts : List α} {k : Nat} (h : ts.length ≤ k) : (ts.take k).foldl f a = ts.foldl f a := by rw [List.take_of_length_le h]

set_option maxRecDepth 100000 in
set_option maxHeartbeats 2000000 in
theorem specFairFloor_any (a : Option Addr) (cap : Nat) (ts : List Tsk) (floor : Int) (w : World) (hl : ts.length ≤ maxLen) (hs : Ts w a ts) :
    Calls Tryz.prog 248 #[.slice a ts.length cap, .int .i64 floor] w fun e w' => e = .returned (.int .i64 (fairFloorI ts floor)) ∧ Keeps w w' := by
  unfold maxLen at hl
  generalize hn : ts.length = n at hl
  have Hn : Hid (ts.length = n) := hn
  clear hn
  go_enter Tryz.func248, Tryz.ntmps248
  go_wp2
  go_loopw [5, 6] (fun l i wr => ∃ k : Nat, k ≤ n ∧ i = .int .i64 k ∧ l = .int .i64 ((ts.take k).foldl leastS (-1)) ∧ Keeps w wr) (fun _ i _ => n - (intOf i).toNat)
  case atStart => exact ⟨0, Nat.zero_le _, rfl, rfl, Keeps.refl _⟩
  case round =>
    obtain ⟨k, hk, rfl, rfl, hK⟩ := hrel
    by_cases hlt : k < n
    · obtain ⟨t, ht⟩ := some_at (xs := ts) (k := k) (by rw [Hn.out]; exact hlt)
      obtain ⟨b, off, rfl, r0, r1⟩ := hs.at ht (by omega)
      have hlt' : (k : Int) < (n : Int) := by omega
      have Ht : Hid ((ts.take (k + 1)).foldl leastS (-1) = leastS ((ts.take k).foldl leastS (-1)) t) := foldl_take _ _ ht
      clear hs ht
      generalize (ts.take k).foldl leastS (-1) = L at *
      cases hf : fairB t
      · have HL : Hid (leastS L t = L) := by show _ = _; simp [leastS, hf]
        go_wp2_with (go_at_call 89; refine (l6Fair_any t _).mono ?_; rintro e w1 ⟨rfl, k1⟩; have K1 := hK.trans k1; rw [hf])
        exact ⟨⟨k + 1, by omega, by go_num, by rw [Ht.out, HL.out], K1⟩, by simp only [intOf]; omega⟩
      · cases h1 : decide (L < 0)
        · cases h2 : decide (t.v < L)
          · have HL : Hid (leastS L t = L) := by show _ = _; simp only [leastS, hf, h1, h2, Bool.or_false, Bool.and_false, Bool.false_eq_true, if_false]
            go_wp2_with (go_at_call 89; refine (l6Fair_any t _).mono ?_; rintro e w1 ⟨rfl, k1⟩; have K1 := hK.trans k1; rw [hf])
            exact ⟨⟨k + 1, by omega, by go_num, by rw [Ht.out, HL.out], K1⟩, by simp only [intOf]; omega⟩
          · have HL : Hid (leastS L t = t.v) := by show _ = _; simp only [leastS, hf, h2, Bool.or_true, Bool.and_true, if_true]
            go_wp2_with (go_at_call 89; refine (l6Fair_any t _).mono ?_; rintro e w1 ⟨rfl, k1⟩; have K1 := hK.trans k1; rw [hf])
            exact ⟨⟨k + 1, by omega, by go_num, by rw [Ht.out, HL.out], K1⟩, by simp only [intOf]; omega⟩
        · have HL : Hid (leastS L t = t.v) := by show _ = _; simp only [leastS, hf, h1, Bool.true_or, Bool.and_true, if_true]
          go_wp2_with (go_at_call 89; refine (l6Fair_any t _).mono ?_; rintro e w1 ⟨rfl, k1⟩; have K1 := hK.trans k1; rw [hf])
          exact ⟨⟨k + 1, by omega, by go_num, by rw [Ht.out, HL.out], K1⟩, by simp only [intOf]; omega⟩
    · have hlt' : decide ((k : Int) < (n : Int)) = false := by simp; omega
      rw [foldl_all leastS (-1) (show ts.length ≤ k by have := Hn.out; omega)]
      have HV : Hid (fairFloorI ts floor = if ts.foldl leastS (-1) < 0 then floor else max floor (ts.foldl leastS (-1))) := rfl
      generalize ts.foldl leastS (-1) = L at *
      clear hs
      cases h1 : decide (L < 0)
      · have HL : Hid (fairFloorI ts floor = max floor L) := by show _ = _; rw [HV.out, if_neg (of_decide_eq_false h1)]
        go_wp2_with (go_at_call 90; refine (l1Max_any _ _ _).mono ?_; rintro e w' ⟨rfl, hw'⟩; have hw2 := hw'.symm; subst hw2)
        go_ret
        exact ⟨by rw [HL.out]; rfl, hK⟩
      · have HL : Hid (fairFloorI ts floor = floor) := by show _ = _; rw [HV.out, if_pos (of_decide_eq_true h1)]
        go_wp2
        go_ret
        exact ⟨by rw [HL.out]; rfl, hK⟩

set_option maxRecDepth 100000 in
set_option maxHeartbeats 2000000 in
theorem specFairSpread_any (a : Option Addr) (cap : Nat) (ts : List Tsk) (w : World) (hl : ts.length ≤ maxLen) (hs : Ts w a ts) :
    Calls Tryz.prog 50 #[.slice a ts.length cap] w fun e w' => e = .returned (.int .i64 (fairSpreadI ts)) ∧ Keeps w w' := by
  unfold maxLen at hl
  generalize hn : ts.length = n at hl
  have Hn : Hid (ts.length = n) := hn
  clear hn
  go_enter Tryz.func50, Tryz.ntmps50
  go_wp2
  go_loopw [3, 4, 5] (fun l m i wr => ∃ k : Nat, k ≤ n ∧ i = .int .i64 k ∧ l = .int .i64 ((ts.take k).foldl leastS (-1)) ∧ m = .int .i64 ((ts.take k).foldl mostS (-1)) ∧ Keeps w wr) (fun _ _ i _ => n - (intOf i).toNat)
  case atStart => exact ⟨0, Nat.zero_le _, rfl, rfl, rfl, Keeps.refl _⟩
  case round =>
    obtain ⟨k, hk, rfl, rfl, rfl, hK⟩ := hrel
    by_cases hlt : k < n
    · obtain ⟨t, ht⟩ := some_at (xs := ts) (k := k) (by rw [Hn.out]; exact hlt)
      obtain ⟨b, off, rfl, r0, r1⟩ := hs.at ht (by omega)
      have hlt' : (k : Int) < (n : Int) := by omega
      have Ht : Hid ((ts.take (k + 1)).foldl leastS (-1) = leastS ((ts.take k).foldl leastS (-1)) t) := foldl_take _ _ ht
      have Hu : Hid ((ts.take (k + 1)).foldl mostS (-1) = mostS ((ts.take k).foldl mostS (-1)) t) := foldl_take _ _ ht
      clear hs ht
      generalize (ts.take k).foldl leastS (-1) = L at *
      generalize (ts.take k).foldl mostS (-1) = M at *
      cases hf : fairB t
      · have HL : Hid (leastS L t = L) := by show _ = _; simp [leastS, hf]
        have HM : Hid (mostS M t = M) := by show _ = _; simp [mostS, hf]
        go_wp2_with (go_at_call 89; refine (l6Fair_any t _).mono ?_; rintro e w1 ⟨rfl, k1⟩; have K1 := hK.trans k1; rw [hf])
        exact ⟨⟨k + 1, by omega, by go_num, by rw [Ht.out, HL.out], by rw [Hu.out, HM.out], K1⟩, by simp only [intOf]; omega⟩
      · have HM : Hid (mostS M t = max M t.v) := by show _ = _; simp [mostS, hf]
        cases h1 : decide (L < 0)
        · cases h2 : decide (t.v < L)
          · have HL : Hid (leastS L t = L) := by show _ = _; simp only [leastS, hf, h1, h2, Bool.or_false, Bool.and_false, Bool.false_eq_true, if_false]
            go_wp2_with (first | (go_at_call 89; refine (l6Fair_any t _).mono ?_; rintro e w1 ⟨rfl, k1⟩; have K1 := hK.trans k1; rw [hf]) | (go_at_call 90; refine (l1Max_any _ _ _).mono ?_; rintro e w' ⟨rfl, hw'⟩; have hw2 := hw'.symm; subst hw2))
            exact ⟨⟨k + 1, by omega, by go_num, by rw [Ht.out, HL.out], by rw [Hu.out, HM.out], K1⟩, by simp only [intOf]; omega⟩
          · have HL : Hid (leastS L t = t.v) := by show _ = _; simp only [leastS, hf, h2, Bool.or_true, Bool.and_true, if_true]
            go_wp2_with (first | (go_at_call 89; refine (l6Fair_any t _).mono ?_; rintro e w1 ⟨rfl, k1⟩; have K1 := hK.trans k1; rw [hf]) | (go_at_call 90; refine (l1Max_any _ _ _).mono ?_; rintro e w' ⟨rfl, hw'⟩; have hw2 := hw'.symm; subst hw2))
            exact ⟨⟨k + 1, by omega, by go_num, by rw [Ht.out, HL.out], by rw [Hu.out, HM.out], K1⟩, by simp only [intOf]; omega⟩
        · have HL : Hid (leastS L t = t.v) := by show _ = _; simp only [leastS, hf, h1, Bool.true_or, Bool.and_true, if_true]
          go_wp2_with (first | (go_at_call 89; refine (l6Fair_any t _).mono ?_; rintro e w1 ⟨rfl, k1⟩; have K1 := hK.trans k1; rw [hf]) | (go_at_call 90; refine (l1Max_any _ _ _).mono ?_; rintro e w' ⟨rfl, hw'⟩; have hw2 := hw'.symm; subst hw2))
          exact ⟨⟨k + 1, by omega, by go_num, by rw [Ht.out, HL.out], by rw [Hu.out, HM.out], K1⟩, by simp only [intOf]; omega⟩
    · have hlt' : decide ((k : Int) < (n : Int)) = false := by simp; omega
      rw [foldl_all leastS (-1) (show ts.length ≤ k by have := Hn.out; omega), foldl_all mostS (-1) (show ts.length ≤ k by have := Hn.out; omega)]
      have HV : Hid (fairSpreadI ts = ts.foldl mostS (-1) - ts.foldl leastS (-1)) := rfl
      obtain ⟨l0, l1⟩ := least_bd ts (-1) (by omega) (by omega)
      obtain ⟨m0, m1⟩ := most_bd ts (-1) (by omega) (by omega)
      generalize ts.foldl leastS (-1) = L at *
      generalize ts.foldl mostS (-1) = M at *
      have e1 : IntKind.i64.wrap (M - L) = M - L := Go.IntWalk.i64_in _ (by omega)
      clear hs
      go_wp2
      go_ret
      exact ⟨by rw [HV.out]; rfl, hK⟩
end Go.Proofs.YthpdlbcdbncnhaaGreatDoor
namespace Go.Proofs.YthpdlbcdbncnhaaGreatDoor
open Go.RowKit
attribute [local go_sem] Keeps.refl Keeps.alloc Keeps.drew Keeps.drewN

set_option maxRecDepth 100000 in
set_option maxHeartbeats 4000000 in
theorem specFairMove_any (t : Tsk) (cpu frm dst : Int) (w : World) :
    Calls Tryz.prog 243 #[tk t, .int .i64 cpu, .int .i64 frm, .int .i64 dst] w fun e w' => e = .returned (tk (fairMoveT t cpu frm dst)) ∧ Keeps w w' := by
  go_enter Tryz.func243, Tryz.ntmps243
  go_wp2_with fail
  refine (l6Fair_any t _).mono ?_
  rintro e w1 ⟨rfl, k1⟩
  have B1 := ((Blk.new w (tc t) 47).alloc (.cells (tc Tsk.zero) 47)).keeps k1
  have B2 := (Blk.new (w.alloc (.cells (tc t) 47)) (tc Tsk.zero) 47).keeps k1
  have K1 : Hid (Keeps w w1) := (((Keeps.refl w).alloc _).alloc _).trans k1
  simp only [World.size_alloc] at B2
  have R : Hid (Blk w1 (w.heap.size + 1) (tc Tsk.zero)) := B2
  have B0 : Hid (Blk w1 w.heap.size (tc t)) := B1
  obtain ⟨_, b1, b2⟩ := B1
  obtain ⟨_, c1, c2⟩ := B2
  clear k1
  cases hd : fairB t
  · have Hn : Hid (fairMoveT t cpu frm dst = t) := by show _ = _; simp [fairMoveT, moveB, hd]
    go_wp2_with (first | (go_at_call 64; refine (l1In_any _ _ _ _).mono ?_; rintro e w' ⟨rfl, hw'⟩; have hw2 := hw'.symm; subst hw2) | (go_at_call 90; refine (l1Max_any _ _ _).mono ?_; rintro e w' ⟨rfl, hw'⟩; have hw2 := hw'.symm; subst hw2))
    have D := R.out.putC (tc (t)).toList rfl
    have K := Keeps.putC (b := w.heap.size + 1) (by omega) (tc (t)).toList 0 K1.out
    change bodyPost _ _ _ _ _ (putC w1 (w.heap.size + 1) 0 (tc (t)).toList)
    generalize putC w1 (w.heap.size + 1) 0 (tc (t)).toList = X at D K ⊢
    exact bodyPost_ret (v := tk (t)) (by simp [results, Tryz.results243, go_sem, D.cells]) rfl ⟨by rw [Hn.out], K⟩
  · skip
    cases h1 : inB cpu 0 3
    · have Hn : Hid (fairMoveT t cpu frm dst = t) := by show _ = _; simp [fairMoveT, moveB, h1]
      go_wp2_with (first | (go_at_call 64; refine (l1In_any _ _ _ _).mono ?_; rintro e w' ⟨rfl, hw'⟩; have hw2 := hw'.symm; subst hw2) | (go_at_call 90; refine (l1Max_any _ _ _).mono ?_; rintro e w' ⟨rfl, hw'⟩; have hw2 := hw'.symm; subst hw2))
      have D := R.out.putC (tc (t)).toList rfl
      have K := Keeps.putC (b := w.heap.size + 1) (by omega) (tc (t)).toList 0 K1.out
      change bodyPost _ _ _ _ _ (putC w1 (w.heap.size + 1) 0 (tc (t)).toList)
      generalize putC w1 (w.heap.size + 1) 0 (tc (t)).toList = X at D K ⊢
      exact bodyPost_ret (v := tk (t)) (by simp [results, Tryz.results243, go_sem, D.cells]) rfl ⟨by rw [Hn.out], K⟩
    · skip
      cases h2 : inB frm 0 100000000
      · have Hn : Hid (fairMoveT t cpu frm dst = t) := by show _ = _; simp [fairMoveT, moveB, h2]
        go_wp2_with (first | (go_at_call 64; refine (l1In_any _ _ _ _).mono ?_; rintro e w' ⟨rfl, hw'⟩; have hw2 := hw'.symm; subst hw2) | (go_at_call 90; refine (l1Max_any _ _ _).mono ?_; rintro e w' ⟨rfl, hw'⟩; have hw2 := hw'.symm; subst hw2))
        have D := R.out.putC (tc (t)).toList rfl
        have K := Keeps.putC (b := w.heap.size + 1) (by omega) (tc (t)).toList 0 K1.out
        change bodyPost _ _ _ _ _ (putC w1 (w.heap.size + 1) 0 (tc (t)).toList)
        generalize putC w1 (w.heap.size + 1) 0 (tc (t)).toList = X at D K ⊢
        exact bodyPost_ret (v := tk (t)) (by simp [results, Tryz.results243, go_sem, D.cells]) rfl ⟨by rw [Hn.out], K⟩
      · skip
        cases h3 : inB dst 0 100000000
        · have Hn : Hid (fairMoveT t cpu frm dst = t) := by show _ = _; simp [fairMoveT, moveB, h3]
          go_wp2_with (first | (go_at_call 64; refine (l1In_any _ _ _ _).mono ?_; rintro e w' ⟨rfl, hw'⟩; have hw2 := hw'.symm; subst hw2) | (go_at_call 90; refine (l1Max_any _ _ _).mono ?_; rintro e w' ⟨rfl, hw'⟩; have hw2 := hw'.symm; subst hw2))
          have D := R.out.putC (tc (t)).toList rfl
          have K := Keeps.putC (b := w.heap.size + 1) (by omega) (tc (t)).toList 0 K1.out
          change bodyPost _ _ _ _ _ (putC w1 (w.heap.size + 1) 0 (tc (t)).toList)
          generalize putC w1 (w.heap.size + 1) 0 (tc (t)).toList = X at D K ⊢
          exact bodyPost_ret (v := tk (t)) (by simp [results, Tryz.results243, go_sem, D.cells]) rfl ⟨by rw [Hn.out], K⟩
        · skip
          have H := (fairB_iff t).1 hd
          obtain ⟨v0, v1⟩ := H.v
          obtain ⟨f0, f1⟩ := inB_iff.1 h2
          obtain ⟨d0, d1⟩ := inB_iff.1 h3
          have e1 : IntKind.i64.wrap (t.v - frm) = t.v - frm := Go.IntWalk.i64_in _ (by omega)
          have e2 : IntKind.i64.wrap (dst + max (t.v - frm) 0) = dst + max (t.v - frm) 0 := Go.IntWalk.i64_in _ (by omega)
          clear H
          cases h4 : decide (100000000 < dst + max (t.v - frm) 0)
          · have Hn : Hid (fairMoveT t cpu frm dst = { t with cpu := cpu, v := dst + max (t.v - frm) 0 }) := by show _ = _; simp only [fairMoveT, moveB, hd, h1, h2, h3, h4, Bool.and_true, Bool.not_false, if_true]
            go_wp2_with (first | (go_at_call 64; refine (l1In_any _ _ _ _).mono ?_; rintro e w' ⟨rfl, hw'⟩; have hw2 := hw'.symm; subst hw2) | (go_at_call 90; refine (l1Max_any _ _ _).mono ?_; rintro e w' ⟨rfl, hw'⟩; have hw2 := hw'.symm; subst hw2))
            have D := ((R.out.far (c := w.heap.size) (o := 2) (by omega) (.int .i64 cpu)).far (c := w.heap.size) (o := 13) (by omega) (.int .i64 (dst + max (t.v - frm) 0))).putC (tc ({ t with cpu := cpu, v := dst + max (t.v - frm) 0 })).toList rfl
            have K := Keeps.putC (b := w.heap.size + 1) (by omega) (tc ({ t with cpu := cpu, v := dst + max (t.v - frm) 0 })).toList 0 ((K1.out.setCell (p := ⟨w.heap.size, 2, none⟩) (Nat.le_refl _) (.int .i64 cpu)).setCell (p := ⟨w.heap.size, 13, none⟩) (Nat.le_refl _) (.int .i64 (dst + max (t.v - frm) 0)))
            change bodyPost _ _ _ _ _ (putC ((w1.setCell ⟨w.heap.size, 2, none⟩ (.int .i64 cpu)).setCell ⟨w.heap.size, 13, none⟩ (.int .i64 (dst + max (t.v - frm) 0))) (w.heap.size + 1) 0 (tc ({ t with cpu := cpu, v := dst + max (t.v - frm) 0 })).toList)
            generalize putC ((w1.setCell ⟨w.heap.size, 2, none⟩ (.int .i64 cpu)).setCell ⟨w.heap.size, 13, none⟩ (.int .i64 (dst + max (t.v - frm) 0))) (w.heap.size + 1) 0 (tc ({ t with cpu := cpu, v := dst + max (t.v - frm) 0 })).toList = X at D K ⊢
            exact bodyPost_ret (v := tk ({ t with cpu := cpu, v := dst + max (t.v - frm) 0 })) (by simp [results, Tryz.results243, go_sem, D.cells]) rfl ⟨by rw [Hn.out], K⟩
          · have Hn : Hid (fairMoveT t cpu frm dst = t) := by show _ = _; simp only [fairMoveT, moveB, h4, Bool.and_false, Bool.not_true, Bool.false_eq_true, if_false]
            go_wp2_with (first | (go_at_call 64; refine (l1In_any _ _ _ _).mono ?_; rintro e w' ⟨rfl, hw'⟩; have hw2 := hw'.symm; subst hw2) | (go_at_call 90; refine (l1Max_any _ _ _).mono ?_; rintro e w' ⟨rfl, hw'⟩; have hw2 := hw'.symm; subst hw2))
            have D := R.out.putC (tc (t)).toList rfl
            have K := Keeps.putC (b := w.heap.size + 1) (by omega) (tc (t)).toList 0 K1.out
            change bodyPost _ _ _ _ _ (putC w1 (w.heap.size + 1) 0 (tc (t)).toList)
            generalize putC w1 (w.heap.size + 1) 0 (tc (t)).toList = X at D K ⊢
            exact bodyPost_ret (v := tk (t)) (by simp [results, Tryz.results243, go_sem, D.cells]) rfl ⟨by rw [Hn.out], K⟩
end Go.Proofs.YthpdlbcdbncnhaaGreatDoor
namespace Go.Proofs.YthpdlbcdbncnhaaGreatDoor
open Go.RowKit
attribute [local go_sem] Keeps.refl Keeps.alloc Keeps.drew Keeps.drewN

def SaysDueBefore : Prop := ∀ (a b : Tsk) (w : World), Calls Tryz.prog 279 #[tk a, tk b] w fun e w' => e = .returned (.bool (dueBefB a b)) ∧ Keeps w w'
theorem eqShare_same (q p : Int) (w : World) :
    Calls Tryz.prog 140 #[sh q p, sh q p] w fun e w' => e = .returned (.bool true) ∧ Keeps w w' := by
  have e1 : ∀ x : Int, (x != x) = false := by simp
  go_enter Tryz.func140, Tryz.ntmps140
  go_wp2
  go_ret
  exact ⟨rfl, ((Keeps.refl _).alloc _).alloc _⟩

end Go.Proofs.YthpdlbcdbncnhaaGreatDoor
