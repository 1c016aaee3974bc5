/-
  Fair shares: a contract of the model's function.
-/
import Derived.Test.YtdndgacaohmdnaaFairSpec
namespace Go.Proofs.Ytdndgacaohmdnaa
open Go.RowKit
attribute [local go_sem] Keeps.refl Keeps.alloc Keeps.drew Keeps.drewN

set_option maxRecDepth 100000 in
set_option maxHeartbeats 4000000 in
theorem specFairMove_any (t : Tsk) (cpu frm dst : Int) (w : World) :
    Calls Try.prog 38 #[tk t, .int .i64 cpu, .int .i64 frm, .int .i64 dst] w fun e w' => e = .returned (tk (fairMoveT t cpu frm dst)) ∧ Keeps w w' := by
  go_enter Try.func38, Try.ntmps38
  go_wp2_with fail
  refine (l6Fair_any t _).mono ?_
  rintro e w1 ⟨rfl, k1⟩
  have B1 := ((Blk.new w (tc t) 25).alloc (.cells (tc Tsk.zero) 25)).keeps k1
  have B2 := (Blk.new (w.alloc (.cells (tc t) 25)) (tc Tsk.zero) 25).keeps k1
  have K1 : Hid (Keeps w w1) := (((Keeps.refl w).alloc _).alloc _).trans k1
  simp only [World.size_alloc] at B2
  have R : Hid (Blk w1 (w.heap.size + 1) (tc Tsk.zero)) := B2
  have B0 : Hid (Blk w1 w.heap.size (tc t)) := B1
  obtain ⟨_, b1, b2⟩ := B1
  obtain ⟨_, c1, c2⟩ := B2
  clear k1
  cases hd : fairB t
  · have Hn : Hid (fairMoveT t cpu frm dst = t) := by show _ = _; simp [fairMoveT, moveB, hd]
    go_wp2_with (first | (go_at_call 74; refine (l1In_any _ _ _ _).mono ?_; rintro e w' ⟨rfl, hw'⟩; have hw2 := hw'.symm; subst hw2) | (go_at_call 73; refine (l1Max_any _ _ _).mono ?_; rintro e w' ⟨rfl, hw'⟩; have hw2 := hw'.symm; subst hw2))
    have D := R.out.putC (tc (t)).toList rfl
    have K := Keeps.putC (b := w.heap.size + 1) (by omega) (tc (t)).toList 0 K1.out
    change bodyPost _ _ _ _ _ (putC w1 (w.heap.size + 1) 0 (tc (t)).toList)
    generalize putC w1 (w.heap.size + 1) 0 (tc (t)).toList = X at D K ⊢
    exact bodyPost_ret (v := tk (t)) (by simp [results, Try.results38, go_sem, D.cells]) rfl ⟨by rw [Hn.out], K⟩
  · skip
    cases h1 : inB cpu 0 3
    · have Hn : Hid (fairMoveT t cpu frm dst = t) := by show _ = _; simp [fairMoveT, moveB, h1]
      go_wp2_with (first | (go_at_call 74; refine (l1In_any _ _ _ _).mono ?_; rintro e w' ⟨rfl, hw'⟩; have hw2 := hw'.symm; subst hw2) | (go_at_call 73; refine (l1Max_any _ _ _).mono ?_; rintro e w' ⟨rfl, hw'⟩; have hw2 := hw'.symm; subst hw2))
      have D := R.out.putC (tc (t)).toList rfl
      have K := Keeps.putC (b := w.heap.size + 1) (by omega) (tc (t)).toList 0 K1.out
      change bodyPost _ _ _ _ _ (putC w1 (w.heap.size + 1) 0 (tc (t)).toList)
      generalize putC w1 (w.heap.size + 1) 0 (tc (t)).toList = X at D K ⊢
      exact bodyPost_ret (v := tk (t)) (by simp [results, Try.results38, go_sem, D.cells]) rfl ⟨by rw [Hn.out], K⟩
    · skip
      cases h2 : inB frm 0 100000000
      · have Hn : Hid (fairMoveT t cpu frm dst = t) := by show _ = _; simp [fairMoveT, moveB, h2]
        go_wp2_with (first | (go_at_call 74; refine (l1In_any _ _ _ _).mono ?_; rintro e w' ⟨rfl, hw'⟩; have hw2 := hw'.symm; subst hw2) | (go_at_call 73; refine (l1Max_any _ _ _).mono ?_; rintro e w' ⟨rfl, hw'⟩; have hw2 := hw'.symm; subst hw2))
        have D := R.out.putC (tc (t)).toList rfl
        have K := Keeps.putC (b := w.heap.size + 1) (by omega) (tc (t)).toList 0 K1.out
        change bodyPost _ _ _ _ _ (putC w1 (w.heap.size + 1) 0 (tc (t)).toList)
        generalize putC w1 (w.heap.size + 1) 0 (tc (t)).toList = X at D K ⊢
        exact bodyPost_ret (v := tk (t)) (by simp [results, Try.results38, go_sem, D.cells]) rfl ⟨by rw [Hn.out], K⟩
      · skip
        cases h3 : inB dst 0 100000000
        · have Hn : Hid (fairMoveT t cpu frm dst = t) := by show _ = _; simp [fairMoveT, moveB, h3]
          go_wp2_with (first | (go_at_call 74; refine (l1In_any _ _ _ _).mono ?_; rintro e w' ⟨rfl, hw'⟩; have hw2 := hw'.symm; subst hw2) | (go_at_call 73; refine (l1Max_any _ _ _).mono ?_; rintro e w' ⟨rfl, hw'⟩; have hw2 := hw'.symm; subst hw2))
          have D := R.out.putC (tc (t)).toList rfl
          have K := Keeps.putC (b := w.heap.size + 1) (by omega) (tc (t)).toList 0 K1.out
          change bodyPost _ _ _ _ _ (putC w1 (w.heap.size + 1) 0 (tc (t)).toList)
          generalize putC w1 (w.heap.size + 1) 0 (tc (t)).toList = X at D K ⊢
          exact bodyPost_ret (v := tk (t)) (by simp [results, Try.results38, go_sem, D.cells]) rfl ⟨by rw [Hn.out], K⟩
        · skip
          have H := (fairB_iff t).1 hd
          obtain ⟨v0, v1⟩ := H.v
          obtain ⟨f0, f1⟩ := inB_iff.1 h2
          obtain ⟨d0, d1⟩ := inB_iff.1 h3
          have e1 : IntKind.i64.wrap (t.v - frm) = t.v - frm := Go.IntWalk.i64_in _ (by omega)
          have e2 : IntKind.i64.wrap (dst + max (t.v - frm) 0) = dst + max (t.v - frm) 0 := Go.IntWalk.i64_in _ (by omega)
          clear H
          cases h4 : decide (100000000 < dst + max (t.v - frm) 0)
          · have Hn : Hid (fairMoveT t cpu frm dst = { t with cpu := cpu, v := dst + max (t.v - frm) 0 }) := by show _ = _; simp only [fairMoveT, moveB, hd, h1, h2, h3, h4, Bool.and_true, Bool.not_false, if_true]
            go_wp2_with (first | (go_at_call 74; refine (l1In_any _ _ _ _).mono ?_; rintro e w' ⟨rfl, hw'⟩; have hw2 := hw'.symm; subst hw2) | (go_at_call 73; refine (l1Max_any _ _ _).mono ?_; rintro e w' ⟨rfl, hw'⟩; have hw2 := hw'.symm; subst hw2))
            have D := ((R.out.far (c := w.heap.size) (o := 2) (by omega) (.int .i64 cpu)).far (c := w.heap.size) (o := 13) (by omega) (.int .i64 (dst + max (t.v - frm) 0))).putC (tc ({ t with cpu := cpu, v := dst + max (t.v - frm) 0 })).toList rfl
            have K := Keeps.putC (b := w.heap.size + 1) (by omega) (tc ({ t with cpu := cpu, v := dst + max (t.v - frm) 0 })).toList 0 ((K1.out.setCell (p := ⟨w.heap.size, 2, none⟩) (Nat.le_refl _) (.int .i64 cpu)).setCell (p := ⟨w.heap.size, 13, none⟩) (Nat.le_refl _) (.int .i64 (dst + max (t.v - frm) 0)))
            change bodyPost _ _ _ _ _ (putC ((w1.setCell ⟨w.heap.size, 2, none⟩ (.int .i64 cpu)).setCell ⟨w.heap.size, 13, none⟩ (.int .i64 (dst + max (t.v - frm) 0))) (w.heap.size + 1) 0 (tc ({ t with cpu := cpu, v := dst + max (t.v - frm) 0 })).toList)
            generalize putC ((w1.setCell ⟨w.heap.size, 2, none⟩ (.int .i64 cpu)).setCell ⟨w.heap.size, 13, none⟩ (.int .i64 (dst + max (t.v - frm) 0))) (w.heap.size + 1) 0 (tc ({ t with cpu := cpu, v := dst + max (t.v - frm) 0 })).toList = X at D K ⊢
            exact bodyPost_ret (v := tk ({ t with cpu := cpu, v := dst + max (t.v - frm) 0 })) (by simp [results, Try.results38, go_sem, D.cells]) rfl ⟨by rw [Hn.out], K⟩
          · have Hn : Hid (fairMoveT t cpu frm dst = t) := by show _ = _; simp only [fairMoveT, moveB, h4, Bool.and_false, Bool.not_true, Bool.false_eq_true, if_false]
            go_wp2_with (first | (go_at_call 74; refine (l1In_any _ _ _ _).mono ?_; rintro e w' ⟨rfl, hw'⟩; have hw2 := hw'.symm; subst hw2) | (go_at_call 73; refine (l1Max_any _ _ _).mono ?_; rintro e w' ⟨rfl, hw'⟩; have hw2 := hw'.symm; subst hw2))
            have D := R.out.putC (tc (t)).toList rfl
            have K := Keeps.putC (b := w.heap.size + 1) (by omega) (tc (t)).toList 0 K1.out
            change bodyPost _ _ _ _ _ (putC w1 (w.heap.size + 1) 0 (tc (t)).toList)
            generalize putC w1 (w.heap.size + 1) 0 (tc (t)).toList = X at D K ⊢
            exact bodyPost_ret (v := tk (t)) (by simp [results, Try.results38, go_sem, D.cells]) rfl ⟨by rw [Hn.out], K⟩
end Go.Proofs.Ytdndgacaohmdnaa
