/-
  Deadlines, the program's side: what its functions are made of.
-/
import Derived.Test.YtmdpngahofeliaaImplTaskOk
import Derived.Test.YtmdpngahofeliaaDueLaws
namespace Go.Proofs.Ytmdpngahofeliaa
open Go.RowKit
attribute [local go_sem] Keeps.refl Keeps.alloc Keeps.drew Keeps.drewN

theorem asDue_of {t : Tsk} (h : t.prio = 0 ∧ t.round = 0 ∧ t.seq = 0 ∧ t.nice = 0 ∧ t.v = 0) : t.asDue = t := by
  obtain ⟨no, cls, cpu, st, idle, q, p, left, due, prio, round, seq, nice, v⟩ := t
  obtain ⟨rfl, rfl, rfl, rfl, rfl⟩ := h
  rfl

set_option maxRecDepth 100000 in
theorem isDue_any (t : Tsk) (w : World) :
    Calls Try.prog 92 #[tk t] w fun e w' => e = .returned (.bool (dueB t)) ∧ Keeps w w' := by
  cases c1 : (t.cls == 1)
  · have Hr : Hid (dueB t = false) := by show _ = _; simp [dueB, c1]
    go_enter Try.func92, Try.ntmps92
    go_wp2
    go_ret
    exact ⟨by rw [Hr.out]; rfl, (Keeps.refl _).alloc _⟩
  · have Hr : Hid (dueB t = taskB t) := by show _ = _; simp [dueB, c1]
    go_enter Try.func92, Try.ntmps92
    go_wp2_with (go_at_call 22; refine (implTaskOk_says t _).mono ?_; rintro e w1 ⟨rfl, k1⟩)
    go_ret
    exact ⟨by rw [Hr.out]; rfl, ((Keeps.refl w).alloc _).trans k1⟩

set_option maxRecDepth 100000 in
theorem isDueAt_any (t : Tsk) (now : Int) (w : World) :
    Calls Try.prog 88 #[tk t, .int .i64 now] w fun e w' => e = .returned (.bool (dueB t && inB now 0 100000)) ∧ Keeps w w' := by
  cases hb : dueB t
  · go_enter Try.func88, Try.ntmps88
    go_wp2_with (go_at_call 92; refine (isDue_any t _).mono ?_; rintro e w1 ⟨rfl, k1⟩; rw [hb])
    go_ret
    exact ⟨rfl, ((Keeps.refl w).alloc _).trans k1⟩
  · go_enter Try.func88, Try.ntmps88
    go_wp2_with (first
      | (go_at_call 92; refine (isDue_any t _).mono ?_; rintro e w1 ⟨rfl, k1⟩; rw [hb])
      | (go_at_call 76; refine (isWithin_any _ _ _ _).mono ?_; rintro e w' ⟨rfl, rfl⟩))
    go_ret
    exact ⟨rfl, ((Keeps.refl w).alloc _).trans k1⟩

set_option maxRecDepth 100000 in
theorem isOver_any (t : Tsk) (now : Int) (w : World) :
    Calls Try.prog 89 #[.agg (dnc t), .int .i64 now] w fun e w' => e = .returned (.bool (decide (t.due ≤ now))) ∧ Keeps w w' := by
  go_enter Try.func89, Try.ntmps89
  go_wp2
  go_ret
  exact ⟨rfl, (Keeps.refl _).alloc _⟩

set_option maxRecDepth 100000 in
theorem hasTooMuch_any (t : Tsk) (now : Int) (w : World) (h : IsDue t) (hn : 0 ≤ now ∧ now ≤ 100000) :
    Calls Try.prog 90 #[.agg (dnc t), .int .i64 now] w fun e w' => e = .returned (.bool (decide ((t.due - now) * t.q < t.left * t.p))) ∧ Keeps w w' := by
  obtain ⟨p0, p1⟩ := h.p
  obtain ⟨q0, q1⟩ := h.q
  obtain ⟨l0, l1⟩ := h.left
  obtain ⟨d0, d1⟩ := h.due
  obtain ⟨n0, n1⟩ := hn
  have m1 := mul_bd (A := 40) (B := 40) l0 (by omega) (show 0 ≤ t.p by omega) p1
  have m2 := mul_bd (A := 200040) (B := 40) (show 0 ≤ t.due - now + 100000 by omega) (by omega) (show 0 ≤ t.q by omega) (by omega)
  rw [Int.add_mul] at m2
  have e1 : IntKind.i64.wrap (t.left * t.p) = t.left * t.p := Go.IntWalk.i64_in _ (by omega)
  have e2 : IntKind.i64.wrap ((t.due - now) * t.q) = (t.due - now) * t.q := Go.IntWalk.i64_in _ (by omega)
  have e3 : IntKind.i64.wrap (t.due - now) = t.due - now := Go.IntWalk.i64_in _ (by omega)
  clear m1 m2 h
  go_enter Try.func90, Try.ntmps90
  go_wp2
  go_ret
  exact ⟨rfl, (Keeps.refl _).alloc _⟩

/-- A task whose time begins anew. -/
abbrev refT (t : Tsk) (d : Int) : Tsk := { t with left := t.q, due := d }
set_option maxRecDepth 100000 in
theorem refill_any (t : Tsk) (d : Int) (b : Nat) (w : World) (B : Blk w b (dtc t)) :
    Calls Try.prog 91 #[.pointer (some ⟨b, 5, none⟩), .int .i64 d] w fun e w' => e = .returned (.tuple #[]) ∧ w' = (w.setCell ⟨b, 7, none⟩ (.int .i64 t.q)).setCell ⟨b, 8, none⟩ (.int .i64 d) := by
  obtain ⟨_, b1, b2⟩ := B
  go_enter Try.func91, Try.ntmps91
  go_wp2
  go_end0
  exact ⟨rfl, rfl⟩

set_option maxRecDepth 100000 in
set_option maxHeartbeats 1000000 in
theorem implDueShare_says : SaysDueShare := by
  intro t w
  go_enter Try.func55, Try.ntmps55
  go_wp2_with fail
  refine (isDue_any t _).mono ?_
  rintro e w1 ⟨rfl, k1⟩
  have B1 := ((Blk.new w (tc t) 25).alloc (.cells #[.int .i64 0, .int .i64 0] 59)).keeps k1
  have B2 := (Blk.new (w.alloc (.cells (tc t) 25)) #[.int .i64 0, .int .i64 0] 59).keeps k1
  have K1 : Hid (Keeps w w1) := (((Keeps.refl w).alloc _).alloc _).trans k1
  simp only [World.size_alloc] at B2
  have R : Hid (Blk w1 (w.heap.size + 1) #[.int .i64 0, .int .i64 0]) := B2
  obtain ⟨_, b1, b2⟩ := B1
  obtain ⟨_, c1, c2⟩ := B2
  clear k1
  cases hd : dueB t
  · have Hq : Hid (dueQ t = 0) := by show _ = _; simp [dueQ, hd]
    have Hp : Hid (dueP t = 0) := by show _ = _; simp [dueP, hd]
    go_wp2
    have D := R.out.putC [.int .i64 0, .int .i64 0] rfl
    have K := Keeps.putC (b := w.heap.size + 1) (by omega) [.int .i64 0, .int .i64 0] 0 K1.out
    change bodyPost _ _ _ _ _ (putC w1 (w.heap.size + 1) 0 [.int .i64 0, .int .i64 0])
    generalize putC w1 (w.heap.size + 1) 0 [.int .i64 0, .int .i64 0] = X at D K ⊢
    exact bodyPost_ret (v := .tuple #[sh 0 0, .bool false]) (by simp [results, Try.results55, go_sem, D.cells]) rfl ⟨by rw [Hq.out, Hp.out, hd], K⟩
  · have Hq : Hid (dueQ t = t.q) := by show _ = _; simp [dueQ, hd]
    have Hp : Hid (dueP t = t.p) := by show _ = _; simp [dueP, hd]
    go_wp2_with fail
    refine (dueTaskOf_any t _).mono ?_
    rintro e w2 ⟨rfl, k2⟩
    have R2 : Hid (Blk w2 (w.heap.size + 1) #[.int .i64 0, .int .i64 0]) := R.out.keeps k2
    have K2 : Hid (Keeps w w2) := K1.out.trans k2
    obtain ⟨_, f1, f2⟩ := R2.out
    clear c1 c2 b1 b2 k2
    have g1 : ∀ w : World, (Instr.field 75 (.agg (dtc t)) 1).run Try.prog w = .ok (.agg (dnc t)) w := fun w => rfl
    have g2 : ∀ w : World, (Instr.field 73 (.agg (dnc t)) 0).run Try.prog w = .ok (.agg #[.int .i64 t.q, .int .i64 t.p]) w := fun w => rfl
    go_wp2
    have D := R2.out.putC [.int .i64 t.q, .int .i64 t.p] rfl
    have K := Keeps.putC (b := w.heap.size + 1) (by omega) [.int .i64 t.q, .int .i64 t.p] 0 K2.out
    change bodyPost _ _ _ _ _ (putC w2 (w.heap.size + 1) 0 [.int .i64 t.q, .int .i64 t.p])
    generalize putC w2 (w.heap.size + 1) 0 [.int .i64 t.q, .int .i64 t.p] = X at D K ⊢
    exact bodyPost_ret (v := .tuple #[sh t.q t.p, .bool true]) (by simp [results, Try.results55, go_sem, D.cells]) rfl ⟨by rw [Hq.out, Hp.out, hd], K⟩
end Go.Proofs.Ytmdpngahofeliaa
