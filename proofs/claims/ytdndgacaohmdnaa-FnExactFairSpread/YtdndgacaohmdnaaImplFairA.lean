/-
  Fair shares, the program's side: spending, waking, moving.
-/
import Derived.Test.YtdndgacaohmdnaaImplTaskOk
import Derived.Test.YtdndgacaohmdnaaImplWeight
import Derived.Test.YtdndgacaohmdnaaFairLaws
import Derived.Test.YtdndgacaohmdnaaFairRight
namespace Go.Proofs.Ytdndgacaohmdnaa
open Go.RowKit
attribute [local go_sem] Keeps.refl Keeps.alloc Keeps.drew Keeps.drewN

set_option maxRecDepth 100000 in
theorem isFair_any (t : Tsk) (w : World) :
    Calls Try.prog 56 #[tk t] w fun e w' => e = .returned (.bool (fairB t)) ∧ Keeps w w' := by
  cases c1 : (t.cls == 3)
  · have Hr : Hid (fairB t = false) := by show _ = _; simp [fairB, c1]
    go_enter Try.func56, Try.ntmps56
    go_wp2
    go_ret
    exact ⟨by rw [Hr.out]; rfl, (Keeps.refl _).alloc _⟩
  · have Hr : Hid (fairB t = taskB t) := by show _ = _; simp [fairB, c1]
    go_enter Try.func56, Try.ntmps56
    go_wp2_with (go_at_call 23; refine (implTaskOk_says t _).mono ?_; rintro e w1 ⟨rfl, k1⟩)
    go_ret
    exact ⟨by rw [Hr.out]; rfl, ((Keeps.refl w).alloc _).trans k1⟩

set_option maxRecDepth 100000 in
set_option maxHeartbeats 1000000 in
theorem rightOr_any (s t : Tsk) (w : World) :
    Calls Try.prog 70 #[tk s, tk t] w fun e w' => e = .returned (tk (rightT s t)) ∧ Keeps w w' := by
  go_enter Try.func70, Try.ntmps70
  go_wp2_with fail
  have B1 := ((Blk.new w (tc s) 25).alloc (.cells (tc t) 25)).alloc (.cells (tc Tsk.zero) 25)
  have B2 := (Blk.new (w.alloc (.cells (tc s) 25)) (tc t) 25).alloc (.cells (tc Tsk.zero) 25)
  have B3 := Blk.new ((w.alloc (.cells (tc s) 25)).alloc (.cells (tc t) 25)) (tc Tsk.zero) 25
  have K0 : Keeps w (((w.alloc (.cells (tc s) 25)).alloc (.cells (tc t) 25)).alloc (.cells (tc Tsk.zero) 25)) := (((Keeps.refl w).alloc _).alloc _).alloc _
  simp only [World.size_alloc] at B2 B3
  refine (implTaskOk_says s _).mono ?_
  rintro e w1 ⟨rfl, k1⟩
  have R : Hid (Blk w1 (w.heap.size + 1 + 1) (tc Tsk.zero)) := B3.keeps k1
  have K1 : Hid (Keeps w w1) := K0.trans k1
  obtain ⟨_, b1, b2⟩ := B1.keeps k1
  obtain ⟨_, c1, c2⟩ := B2.keeps k1
  obtain ⟨_, d1, d2⟩ := B3.keeps k1
  clear B1 B2 B3 K0 k1
  cases hs : taskB s
  · have Hn : Hid (rightT s t = t) := by show _ = _; simp [rightT, hs]
    go_wp2
    have D := R.out.putC (tc t).toList rfl
    have K := Keeps.putC (b := w.heap.size + 1 + 1) (by omega) (tc t).toList 0 K1.out
    change bodyPost _ _ _ _ _ (putC w1 (w.heap.size + 1 + 1) 0 (tc t).toList)
    generalize putC w1 (w.heap.size + 1 + 1) 0 (tc t).toList = X at D K ⊢
    exact bodyPost_ret (v := tk t) (by simp [results, Try.results70, go_sem, D.cells]) rfl ⟨by rw [Hn.out], K⟩
  · have Hn : Hid (rightT s t = s) := by show _ = _; simp [rightT, hs]
    go_wp2
    have D := R.out.putC (tc s).toList rfl
    have K := Keeps.putC (b := w.heap.size + 1 + 1) (by omega) (tc s).toList 0 K1.out
    change bodyPost _ _ _ _ _ (putC w1 (w.heap.size + 1 + 1) 0 (tc s).toList)
    generalize putC w1 (w.heap.size + 1 + 1) 0 (tc s).toList = X at D K ⊢
    exact bodyPost_ret (v := tk s) (by simp [results, Try.results70, go_sem, D.cells]) rfl ⟨by rw [Hn.out], K⟩

set_option maxRecDepth 100000 in
theorem above_any (t : Tsk) (floor : Int) (w : World) (h : 0 ≤ t.v ∧ t.v ≤ 100000000) (hf : 0 ≤ floor ∧ floor ≤ 100000000) :
    Calls Try.prog 85 #[.agg (rnc t), .int .i64 floor] w fun e w' => e = .returned (.int .i64 (max (t.v - floor) 0)) ∧ Keeps w w' := by
  obtain ⟨h1, h2⟩ := h
  obtain ⟨h3, h4⟩ := hf
  have e1 : IntKind.i64.wrap (t.v - floor) = t.v - floor := Go.IntWalk.i64_in _ (by omega)
  by_cases h : t.v - floor < 0
  · have Hm : Hid (max (t.v - floor) 0 = 0) := by show _ = _; omega
    go_enter Try.func85, Try.ntmps85
    go_wp2
    go_ret
    exact ⟨by rw [Hm.out]; rfl, (Keeps.refl _).alloc _⟩
  · have Hm : Hid (max (t.v - floor) 0 = t.v - floor) := by show _ = _; omega
    go_enter Try.func85, Try.ntmps85
    go_wp2
    go_ret
    exact ⟨by rw [Hm.out]; rfl, (Keeps.refl _).alloc _⟩
/-- Nothing old has turned, and two blocks hold their cells. -/
structure Has2 (w : World) (b : Nat) (C : Array Value) (b' : Nat) (C' : Array Value) (w' : World) : Prop where
  keeps : Keeps w w'
  box : Blk w' b C
  box2 : Blk w' b' C'
theorem Has2.go {w : World} {b b' : Nat} {C C' : Array Value} {w1 w2 : World} (h : Has2 w b C b' C' w1) (k : Keeps w1 w2) : Has2 w b C b' C' w2 := ⟨h.keeps.trans k, h.box.keeps k, h.box2.keeps k⟩
theorem Has2.put {w : World} {b b' : Nat} {C C' : Array Value} {w1 : World} (h : Has2 w b C b' C' w1) {r : Nat} (hr : w.heap.size ≤ r) (hb : r ≠ b) (hb' : r ≠ b') (k : Nat) (L : List Value) : Has2 w b C b' C' (putC w1 r k L) := ⟨Keeps.putC hr L k h.keeps, Blk.farC hb L k h.box, Blk.farC hb' L k h.box2⟩
end Go.Proofs.Ytdndgacaohmdnaa
