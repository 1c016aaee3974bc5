/-
  Fixed priorities, the program's side: what its functions are made of.
-/
import Derived.Test.YtndjifbjlhmmiaaImplTaskOk
import Derived.Test.YtndjifbjlhmmiaaFixLaws
import Derived.Test.YtndjifbjlhmmiaaBut
import Derived.Test.YtndjifbjlhmmiaaJumps
namespace Go.Proofs.Ytndjifbjlhmmiaa
open Go.RowKit
attribute [local go_sem] Keeps.refl Keeps.alloc Keeps.drew Keeps.drewN

theorem asFix_of {t : Tsk} (h : t.q = 0 ∧ t.p = 0 ∧ t.due = 0 ∧ t.nice = 0 ∧ t.v = 0) : t.asFix = t := by
  obtain ⟨no, cls, cpu, st, idle, q, p, left, due, prio, round, seq, nice, v⟩ := t
  obtain ⟨rfl, rfl, rfl, rfl, rfl⟩ := h
  rfl
theorem Blk.besides {w w' : World} {b g : Nat} {C : Array Value} (h : Blk w b C) (k : KeepsBut g w w') (hg : b ≠ g) : Blk w' b C := by
  have e := k.block b h.lt hg
  exact ⟨Nat.lt_of_lt_of_le h.lt k.size, fun i => (World.cell?_of_block (w := w) e).trans (h.cells i), fun i => (World.frozen?_of_block (w := w) e).trans (h.frozens i)⟩

set_option maxRecDepth 100000 in
theorem isFixed_any (t : Tsk) (w : World) :
    Calls Try.prog 19 #[tk t] w fun e w' => e = .returned (.bool (fixB t)) ∧ Keeps w w' := by
  cases c1 : (t.cls == 2)
  · have Hr : Hid (fixB t = false) := by show _ = _; simp [fixB, c1]
    go_enter Try.func19, Try.ntmps19
    go_wp2
    go_ret
    exact ⟨by rw [Hr.out]; rfl, (Keeps.refl _).alloc _⟩
  · have Hr : Hid (fixB t = taskB t) := by show _ = _; simp [fixB, c1]
    go_enter Try.func19, Try.ntmps19
    go_wp2_with (go_at_call 11; refine (implTaskOk_says t _).mono ?_; rintro e w1 ⟨rfl, k1⟩)
    go_ret
    exact ⟨by rw [Hr.out]; rfl, ((Keeps.refl w).alloc _).trans k1⟩

set_option maxRecDepth 100000 in
set_option maxHeartbeats 1000000 in
theorem fixSpend_any (t : Tsk) (seq : Int) (b : Nat) (w : World) (B : Blk w b (ftc t)) (hd : fixB t = true) :
    Calls Try.prog 21 #[.pointer (some ⟨b, 5, none⟩), .int .i64 seq] w fun e w' => e = .returned (.bool (turnB t seq)) ∧ Blk w' b (ftc (fixSpendT t seq)) ∧ KeepsBut b w w' := by
  have BH : Hid (Blk w b (ftc t)) := B
  obtain ⟨_, b1, b2⟩ := B
  have H := (fixB_iff t).1 hd
  obtain ⟨r0, r1⟩ := H.round
  obtain ⟨l0, l1⟩ := H.left
  have e1 : IntKind.i64.wrap (t.left - 1) = t.left - 1 := Go.IntWalk.i64_in _ (by omega)
  have Hd : Hid (fixB t = true) := hd
  clear H hd
  cases hr : (t.round == 0)
  rotate_left
  · have Hn : Hid (fixSpendT t seq = t) := by show _ = _; simp [fixSpendT, hr]
    have Hg : Hid (turnB t seq = false) := by show _ = _; simp [turnB, hr]
    go_enter Try.func21, Try.ntmps21
    go_wp2
    refine wp_scope_goes 2 ?_
    go_wp2
    refine wp_goto_goes rfl ?_
    go_wp2
    rw [goes_ret]
    go_ret
    exact ⟨by rw [Hg.out]; rfl, by rw [Hn.out]; exact BH.out, KeepsBut.refl _ _⟩
  · cases hl : (t.left == 1)
    · have h2 : Hid (decide (1 < t.left) = true) := by
        show _ = _
        have a1 : t.round ≠ 0 := by simpa using hr
        have a2 : t.left ≠ 1 := by simpa using hl
        simp
        omega
      have Hn : Hid (fixSpendT t seq = { t with left := t.left - 1 }) := by show _ = _; simp only [fixSpendT, Hd.out, hr, h2.out, Bool.not_false, Bool.and_true, if_true]
      have Hg : Hid (turnB t seq = false) := by show _ = _; simp only [turnB, h2.out, Bool.not_true, Bool.and_false, Bool.false_and]
      go_enter Try.func21, Try.ntmps21
      go_wp2
      refine wp_scope_goes 2 ?_
      go_wp2
      go_step3
      go_wp2
      rw [goes_ret]
      go_ret
      exact ⟨by rw [Hg.out]; rfl, by rw [Hn.out]; exact BH.out.set 7 (by simp) (.int .i64 (t.left - 1)), (KeepsBut.refl _ _).setCell _ _⟩
    · have h2 : Hid (decide (1 < t.left) = false) := by
        show _ = _
        have a2 : t.left = 1 := by simpa using hl
        simp
        omega
      cases hi : inB seq 0 1000000
      · have Hn : Hid (fixSpendT t seq = t) := by show _ = _; simp only [fixSpendT, Hd.out, hr, h2.out, hi, Bool.not_false, Bool.and_true, if_true, Bool.false_eq_true, if_false]
        have Hg : Hid (turnB t seq = false) := by show _ = _; simp only [turnB, hi, Bool.and_false]
        go_enter Try.func21, Try.ntmps21
        go_wp2
        refine wp_scope_goes 2 ?_
        go_wp2
        refine wp_goto_goes rfl ?_
        go_wp2_with (go_at_call 42; refine (isWithin_any _ _ _ _).mono ?_; rintro e w' ⟨rfl, hw'⟩; have hw2 := hw'.symm; subst hw2)
        refine wp_goto_goes rfl ?_
        go_wp2
        rw [goes_ret]
        go_ret
        exact ⟨by rw [Hg.out]; rfl, by rw [Hn.out]; exact BH.out, KeepsBut.refl _ _⟩
      · have Hn : Hid (fixSpendT t seq = { t with left := t.round, seq := seq }) := by show _ = _; simp only [fixSpendT, Hd.out, hr, h2.out, hi, Bool.not_false, Bool.and_true, if_true, Bool.false_eq_true, if_false]
        have Hg : Hid (turnB t seq = true) := by show _ = _; simp only [turnB, Hd.out, hr, h2.out, hi, Bool.not_false, Bool.and_true]
        go_enter Try.func21, Try.ntmps21
        go_wp2
        refine wp_scope_goes 2 ?_
        go_wp2
        refine wp_goto_goes rfl ?_
        go_wp2_with (go_at_call 42; refine (isWithin_any _ _ _ _).mono ?_; rintro e w' ⟨rfl, hw'⟩; have hw2 := hw'.symm; subst hw2)
        rw [goes_ret]
        go_ret
        exact ⟨by rw [Hg.out]; rfl, by rw [Hn.out]; exact (BH.out.set 7 (by simp) (.int .i64 t.round)).set 8 (by simp) (.int .i64 seq), ((KeepsBut.refl _ _).setCell _ _).setCell _ _⟩

set_option maxRecDepth 100000 in
set_option maxHeartbeats 4000000 in
theorem implFixedSpend_says : SaysFixedSpend := by
  intro t seq w
  go_enter Try.func8, Try.ntmps8
  go_wp2_with fail
  refine (isFixed_any t _).mono ?_
  rintro e w1 ⟨rfl, k1⟩
  have B1 := ((Blk.new w (tc t) 25).alloc (.cells (tc Tsk.zero) 25)).keeps k1
  have B2 := (Blk.new (w.alloc (.cells (tc t) 25)) (tc Tsk.zero) 25).keeps k1
  have K1 : Hid (Keeps w w1) := (((Keeps.refl w).alloc _).alloc _).trans k1
  simp only [World.size_alloc] at B2
  have R : Hid (Blk w1 (w.heap.size + 1) (tc Tsk.zero)) := B2
  obtain ⟨_, b1, b2⟩ := B1
  obtain ⟨_, c1, c2⟩ := B2
  clear k1
  cases hd : fixB t
  · have Hn : Hid (fixSpendT t seq = t) := by show _ = _; simp [fixSpendT, hd]
    have Hg : Hid (turnB t seq = false) := by show _ = _; simp [turnB, hd]
    go_wp2
    have D := R.out.putC (tc (t)).toList rfl
    have K := Keeps.putC (b := w.heap.size + 1) (by omega) (tc (t)).toList 0 K1.out
    change bodyPost _ _ _ _ _ (putC w1 (w.heap.size + 1) 0 (tc (t)).toList)
    generalize putC w1 (w.heap.size + 1) 0 (tc (t)).toList = Z at D K ⊢
    exact bodyPost_ret (v := .tuple #[tk (t), .bool false]) (by simp [results, Try.results8, go_sem, D.cells]) rfl ⟨by rw [Hn.out, Hg.out], K⟩
  · have H := (fixB_iff t).1 hd
    obtain ⟨N, HN⟩ : ∃ N, Hid (fixSpendT t seq = N) := ⟨_, rfl⟩
    obtain ⟨g, Hg⟩ : ∃ g, Hid (turnB t seq = g) := ⟨_, rfl⟩
    have Ha : Hid (N.asFix = N) := by
      show _ = _
      rw [← HN.out]
      refine asFix_of ?_
      unfold fixSpendT
      split
      · split
        · exact H.none
        · split <;> exact H.none
      · exact H.none
    clear H
    go_wp2_with fail
    refine (fixedTaskOf_any t _).mono ?_
    rintro e w2 ⟨rfl, k2⟩
    have R2 : Hid (Blk w2 (w.heap.size + 1) (tc Tsk.zero)) := R.out.keeps k2
    have K2 : Hid (Keeps w w2) := K1.out.trans k2
    have hs2 := R2.out.lt
    clear b1 b2 c1 c2 k2
    go_wp2_with fail
    have BN := Blk.new w2 (ftc t) 46
    have R3 : Hid (Blk (w2.alloc (.cells (ftc t) 46)) (w.heap.size + 1) (tc Tsk.zero)) := R2.out.alloc _
    have K3 : Hid (Keeps w (w2.alloc (.cells (ftc t) 46))) := K2.out.alloc _
    generalize w2.alloc (.cells (ftc t) 46) = w3 at *
    generalize w2.heap.size = c at *
    refine (fixSpend_any t seq c w3 BN hd).mono ?_
    rintro e w4 ⟨rfl, B4, k4⟩
    rw [HN.out] at B4
    rw [Hg.out]
    have R4 : Hid (Blk w4 (w.heap.size + 1) (tc Tsk.zero)) := R3.out.besides k4 (by omega)
    have K4 : Hid (Keeps w w4) := k4.keeps K3.out (by omega)
    obtain ⟨_, n1, n2⟩ := B4
    clear BN k4
    go_wp2_with fail
    refine (fixedWhole_any N _).mono ?_
    rintro e w9 ⟨rfl, k9⟩
    rw [Ha.out]
    have R9 : Hid (Blk w9 (w.heap.size + 1) (tc Tsk.zero)) := R4.out.keeps k9
    have K9 : Hid (Keeps w w9) := K4.out.trans k9
    obtain ⟨_, y1, y2⟩ := R9.out
    clear k9 n1 n2
    go_wp2
    have D := R9.out.putC (tc N).toList rfl
    have K := Keeps.putC (b := w.heap.size + 1) (by omega) (tc N).toList 0 K9.out
    change bodyPost _ _ _ _ _ (putC w9 (w.heap.size + 1) 0 (tc N).toList)
    generalize putC w9 (w.heap.size + 1) 0 (tc N).toList = X at D K ⊢
    exact bodyPost_ret (v := .tuple #[tk N, .bool g]) (by simp [results, Try.results8, go_sem, D.cells]) rfl ⟨by rw [HN.out, Hg.out], K⟩
end Go.Proofs.Ytndjifbjlhmmiaa
