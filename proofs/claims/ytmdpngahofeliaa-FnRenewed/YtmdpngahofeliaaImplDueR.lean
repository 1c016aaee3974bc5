/-
  Deadlines, the program's side: it is renewed.
-/
import Derived.Test.YtmdpngahofeliaaImplDueA
namespace Go.Proofs.Ytmdpngahofeliaa
open Go.RowKit
attribute [local go_sem] Keeps.refl Keeps.alloc Keeps.drew Keeps.drewN

set_option maxRecDepth 100000 in
set_option maxHeartbeats 4000000 in
theorem implDueRenew_says : SaysDueRenew := by
  intro t now w
  go_enter Try.func49, Try.ntmps49
  go_wp2_with fail
  refine (isDueAt_any t now _).mono ?_
  rintro e w1 ⟨rfl, k1⟩
  have B1 := ((Blk.new w (tc t) 25).alloc (.cells (tc Tsk.zero) 25)).keeps k1
  have B2 := (Blk.new (w.alloc (.cells (tc t) 25)) (tc Tsk.zero) 25).keeps k1
  have K1 : Hid (Keeps w w1) := (((Keeps.refl w).alloc _).alloc _).trans k1
  simp only [World.size_alloc] at B2
  have R : Hid (Blk w1 (w.heap.size + 1) (tc Tsk.zero)) := B2
  obtain ⟨_, b1, b2⟩ := B1
  obtain ⟨_, c1, c2⟩ := B2
  clear k1
  cases hd : (dueB t && inB now 0 100000)
  · have Hn : Hid (renewT t now = t) := by show _ = _; simp [renewT, renewB, hd]
    go_wp2
    have D := R.out.putC (tc (t)).toList rfl
    have K := Keeps.putC (b := w.heap.size + 1) (by omega) (tc (t)).toList 0 K1.out
    change bodyPost _ _ _ _ _ (putC w1 (w.heap.size + 1) 0 (tc (t)).toList)
    generalize putC w1 (w.heap.size + 1) 0 (tc (t)).toList = X at D K ⊢
    exact bodyPost_ret (v := tk (t)) (by simp [results, Try.results49, go_sem, D.cells]) rfl ⟨by rw [Hn.out], K⟩
  · simp only [Bool.and_eq_true] at hd
    obtain ⟨hd1, hd2⟩ := hd
    have H := (dueB_iff t).1 hd1
    have hn := inB_iff.1 hd2
    have Ha0 : Hid (t.asDue = t) := asDue_of H.none
    have Ha1 : Hid ((refT t (t.due + t.p)).asDue = refT t (t.due + t.p)) := asDue_of H.none
    obtain ⟨p0, p1⟩ := H.p
    obtain ⟨d0, d1⟩ := H.due
    have e1 : IntKind.i64.wrap (t.due + t.p) = t.due + t.p := Go.IntWalk.i64_in _ (by omega)
    have Hw : Hid (renewB t now = decide (t.due ≤ now)) := by show _ = _; simp only [renewB, hd1, hd2, Bool.true_and]
    clear H hd1 hd2
    go_wp2_with fail
    refine (dueTaskOf_any t _).mono ?_
    rintro e w2 ⟨rfl, k2⟩
    go_wp2_with fail
    have hs2 := k2.size
    have Bd : Hid (Blk (w2.alloc (.cells (dtc t) 75)) w2.heap.size (dtc t)) := Blk.new _ _ _
    have R3 : Hid (Blk (w2.alloc (.cells (dtc t) 75)) (w.heap.size + 1) (tc Tsk.zero)) := (R.out.keeps k2).alloc _
    have K3 : Hid (Keeps w (w2.alloc (.cells (dtc t) 75))) := (K1.out.trans k2).alloc _
    have hsz : w.heap.size + 1 < w2.heap.size := Nat.lt_of_lt_of_le R.out.lt hs2
    have r1 : ∀ w', Keeps (w2.alloc (.cells (dtc t) 75)) w' → ∀ k, w'.cell? ⟨w2.heap.size, k, none⟩ = (dtc t)[k]? := fun w' h => (Bd.out.keeps h).cells
    have K0 := Keeps.refl (w2.alloc (.cells (dtc t) 75))
    clear b1 b2 c1 c2 k2 R hs2
    generalize w2.alloc (.cells (dtc t) 75) = W3 at *
    generalize w2.heap.size = s at *
    cases ho : decide (t.due ≤ now)
    · have Hn : Hid (renewT t now = t) := by show _ = _; simp only [renewT, Hw.out, ho, Bool.false_eq_true, if_false]
      have Ha := Ha0
      refine (isOver_any t now _).mono ?_
      rintro e w4 ⟨rfl, k4⟩
      rw [ho]
      have K4 : Keeps W3 w4 := k4
      clear k4
      obtain ⟨_, x1, x2⟩ := Bd.out.keeps K4
      go_wp2_with fail
      refine (dueWhole_any (t) _).mono ?_
      rintro e w9 ⟨rfl, k9⟩
      rw [Ha.out]
      have R9 : Hid (Blk w9 (w.heap.size + 1) (tc Tsk.zero)) := (R3.out.keeps K4).keeps k9
      have K9 : Hid (Keeps w w9) := (K3.out.trans K4).trans k9
      obtain ⟨_, y1, y2⟩ := R9.out
      clear x1 x2 k9
      go_wp2
      have D := R9.out.putC (tc (t)).toList rfl
      have K := Keeps.putC (b := w.heap.size + 1) (by omega) (tc (t)).toList 0 K9.out
      change bodyPost _ _ _ _ _ (putC w9 (w.heap.size + 1) 0 (tc (t)).toList)
      generalize putC w9 (w.heap.size + 1) 0 (tc (t)).toList = X at D K ⊢
      exact bodyPost_ret (v := tk (t)) (by simp [results, Try.results49, go_sem, D.cells]) rfl ⟨by rw [Hn.out], K⟩
    · have Hn : Hid (renewT t now = refT t (t.due + t.p)) := by show _ = _; simp only [renewT, Hw.out, ho, if_true]
      have Ha := Ha1
      refine (isOver_any t now _).mono ?_
      rintro e w4 ⟨rfl, k4⟩
      rw [ho]
      have K4 : Keeps W3 w4 := k4
      clear k4
      go_wp2_with fail
      refine (refill_any t (t.due + t.p) s _ (Bd.out.keeps K4)).mono ?_
      rintro e w7 ⟨rfl, hw7⟩
      have B7 : Blk w7 s (dtc (refT t (t.due + t.p))) := by rw [hw7]; exact ((Bd.out.keeps K4).set 7 (by simp) _).set 8 (by simp) _
      have R7 : Hid (Blk w7 (w.heap.size + 1) (tc Tsk.zero)) := by rw [Hid, hw7]; exact ((R3.out.keeps K4).far (by omega) _).far (by omega) _
      have K7 : Hid (Keeps w w7) := by rw [Hid, hw7]; exact ((K3.out.trans K4).setCell (by show _ ≤ s; omega) _).setCell (by show _ ≤ s; omega) _
      clear hw7 r1 K0
      obtain ⟨_, x1, x2⟩ := B7
      go_wp2_with fail
      refine (dueWhole_any (refT t (t.due + t.p)) _).mono ?_
      rintro e w9 ⟨rfl, k9⟩
      rw [Ha.out]
      have R9 : Hid (Blk w9 (w.heap.size + 1) (tc Tsk.zero)) := (R7.out).keeps k9
      have K9 : Hid (Keeps w w9) := (K7.out).trans k9
      obtain ⟨_, y1, y2⟩ := R9.out
      clear x1 x2 k9
      go_wp2
      have D := R9.out.putC (tc (refT t (t.due + t.p))).toList rfl
      have K := Keeps.putC (b := w.heap.size + 1) (by omega) (tc (refT t (t.due + t.p))).toList 0 K9.out
      change bodyPost _ _ _ _ _ (putC w9 (w.heap.size + 1) 0 (tc (refT t (t.due + t.p))).toList)
      generalize putC w9 (w.heap.size + 1) 0 (tc (refT t (t.due + t.p))).toList = X at D K ⊢
      exact bodyPost_ret (v := tk (refT t (t.due + t.p))) (by simp [results, Try.results49, go_sem, D.cells]) rfl ⟨by rw [Hn.out], K⟩
end Go.Proofs.Ytmdpngahofeliaa
