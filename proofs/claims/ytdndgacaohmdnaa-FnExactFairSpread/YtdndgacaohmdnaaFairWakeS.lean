/-
  Fair shares: a contract of the model's function.
-/
import Derived.Test.YtdndgacaohmdnaaFairSpec
namespace Go.Proofs.Ytdndgacaohmdnaa
open Go.RowKit
attribute [local go_sem] Keeps.refl Keeps.alloc Keeps.drew Keeps.drewN

set_option maxRecDepth 100000 in
set_option maxHeartbeats 4000000 in
theorem specFairWake_any (t : Tsk) (floor : Int) (w : World) :
    Calls Try.prog 28 #[tk t, .int .i64 floor] w fun e w' => e = .returned (tk (fairWakeT t floor)) ∧ Keeps w w' := by
  go_enter Try.func28, Try.ntmps28
  go_wp2_with fail
  refine (l6Fair_any t _).mono ?_
  rintro e w1 ⟨rfl, k1⟩
  have B1 := ((Blk.new w (tc t) 25).alloc (.cells (tc Tsk.zero) 25)).keeps k1
  have B2 := (Blk.new (w.alloc (.cells (tc t) 25)) (tc Tsk.zero) 25).keeps k1
  have K1 : Hid (Keeps w w1) := (((Keeps.refl w).alloc _).alloc _).trans k1
  simp only [World.size_alloc] at B2
  have R : Hid (Blk w1 (w.heap.size + 1) (tc Tsk.zero)) := B2
  have B0 : Hid (Blk w1 w.heap.size (tc t)) := B1
  obtain ⟨_, b1, b2⟩ := B1
  obtain ⟨_, c1, c2⟩ := B2
  clear k1
  cases hd : fairB t
  · have Hn : Hid (fairWakeT t floor = t) := by show _ = _; simp [fairWakeT, hd]
    go_wp2
    have D := R.out.putC (tc (t)).toList rfl
    have K := Keeps.putC (b := w.heap.size + 1) (by omega) (tc (t)).toList 0 K1.out
    change bodyPost _ _ _ _ _ (putC w1 (w.heap.size + 1) 0 (tc (t)).toList)
    generalize putC w1 (w.heap.size + 1) 0 (tc (t)).toList = X at D K ⊢
    exact bodyPost_ret (v := tk (t)) (by simp [results, Try.results28, go_sem, D.cells]) rfl ⟨by rw [Hn.out], K⟩
  · have Hn : Hid (fairWakeT t floor = fairTo t (max t.v floor)) := by show _ = _; simp [fairWakeT, hd]
    obtain ⟨N, HN⟩ : ∃ N, Hid (fairTo t (max t.v floor) = N) := ⟨_, rfl⟩
    go_wp2_with fail
    have H0 : Has w w.heap.size (tc t) w1 := ⟨K1.out, B0.out⟩
    have r1 : ∀ w', Has w w.heap.size (tc t) w' → ∀ k, w'.cell? ⟨w.heap.size, k, none⟩ = (tc t)[k]? := fun w' h => h.box.cells
    clear b1 b2 c1 c2
    refine wp_region_held_drew (S := (fun w' => Has w w.heap.size (tc t) w')) (by kernel_rfl) ?_ (fun hHeld => ?_)
    · exact H0.go (Keeps.refl _).drew
    refine wpAnyH_take (i := 0) (v := ?_) (by simp only [List.getElem?_toArray, List.getElem?_cons_zero]; rfl) (by kernel_rfl) (by kernel_rfl) (by kernel_rfl) (by exact fun _ _ _ h => h) (Or.inl ⟨by rfl, ?_⟩) (by assumption) ?_
    rotate_left
    · (intro w hSw; (try dsimp only at hSw); go_simp; try (with_reducible rfl))
    try simp only [Act.put, List.setIfInBounds_toArray, List.set_cons_zero, List.set_cons_succ]
    refine wpAnyH_take (i := 1) (v := ?_) (by simp only [List.getElem?_toArray, List.getElem?_cons_succ, List.getElem?_cons_zero]; rfl) (by kernel_rfl) (by kernel_rfl) (by kernel_rfl) (by exact fun _ _ _ h => h) (Or.inl ⟨by rfl, ?_⟩) (by assumption) ?_
    rotate_left
    · (intro w hSw; (try dsimp only at hSw); go_simp; try (with_reducible rfl))
    try simp only [Act.put, List.setIfInBounds_toArray, List.set_cons_zero, List.set_cons_succ]
    refine wpAnyH_take (i := 2) (v := ?_) (by simp only [List.getElem?_toArray, List.getElem?_cons_succ, List.getElem?_cons_zero]; rfl) (by kernel_rfl) (by kernel_rfl) (by kernel_rfl) (by exact fun _ _ _ h => h) (Or.inl ⟨by rfl, ?_⟩) (by assumption) ?_
    rotate_left
    · (intro w hSw; (try dsimp only at hSw); go_simp; try (with_reducible rfl))
    try simp only [Act.put, List.setIfInBounds_toArray, List.set_cons_zero, List.set_cons_succ]
    refine wpAnyH_take (i := 3) (v := ?_) (by simp only [List.getElem?_toArray, List.getElem?_cons_succ, List.getElem?_cons_zero]; rfl) (by kernel_rfl) (by kernel_rfl) (by kernel_rfl) (by exact fun _ _ _ h => h) (Or.inl ⟨by rfl, ?_⟩) (by assumption) ?_
    rotate_left
    · (intro w hSw; (try dsimp only at hSw); go_simp; try (with_reducible rfl))
    try simp only [Act.put, List.setIfInBounds_toArray, List.set_cons_zero, List.set_cons_succ]
    refine wpAnyH_ready (rs := [4]) (by kernel_rfl) (by simp) ?_
    refine AllReadyH.cons (by simp only [List.getElem?_toArray, List.getElem?_cons_succ, List.getElem?_cons_zero]; rfl) (fun K hK => ?_) AllReadyH.nil
    go_simp
    first
      | (go_at_call 73; refine (l1Max_any _ _ _).mono ?_; rintro e w2 ⟨rfl, rfl⟩)
      | (go_at_call 71; refine (l6To_any t _ _).mono ?_; rintro e w3 ⟨rfl, k3⟩; rw [HN.out])
    try go_wp2_with fail
    refine hK.out _ _ ?_ (fun hHeld => ?_)
    · first | exact Has.go (by assumption) (by assumption) | assumption
    clear hK K
    try simp only [Act.put, List.setIfInBounds_toArray, List.set_cons_zero, List.set_cons_succ]
    refine wpAnyH_ready (rs := [5]) (by kernel_rfl) (by simp) ?_
    refine AllReadyH.cons (by simp only [List.getElem?_toArray, List.getElem?_cons_succ, List.getElem?_cons_zero]; rfl) (fun K hK => ?_) AllReadyH.nil
    go_simp
    first
      | (go_at_call 73; refine (l1Max_any _ _ _).mono ?_; rintro e w2 ⟨rfl, rfl⟩)
      | (go_at_call 71; refine (l6To_any t _ _).mono ?_; rintro e w3 ⟨rfl, k3⟩; rw [HN.out])
    try go_wp2_with fail
    refine hK.out _ _ ?_ (fun hHeld => ?_)
    · first | exact Has.go (by assumption) (by assumption) | assumption
    clear hK K
    try simp only [Act.put, List.setIfInBounds_toArray, List.set_cons_zero, List.set_cons_succ]
    refine wpAnyH_ready (rs := [6]) (by kernel_rfl) (by simp) ?_
    refine AllReadyH.cons (by simp only [List.getElem?_toArray, List.getElem?_cons_succ, List.getElem?_cons_zero]; rfl) (fun K hK => ?_) AllReadyH.nil
    have HB := R.out.keeps ((Keeps.refl w1).drew.trans k3); have HD : Hid (Blk w3 (w.heap.size + 1) (tc Tsk.zero)) := HB; obtain ⟨_, q1, q2⟩ := HB
    go_simp
    try go_wp2_with fail
    refine hK.out _ _ ?_ (fun hHeld => ?_)
    · exact Has.put (by assumption) (r := w.heap.size + 1) (by omega) (by omega) 0 (tc N).toList
    clear hK K
    try simp only [Act.put, List.setIfInBounds_toArray, List.set_cons_zero, List.set_cons_succ]
    refine wpAnyH_done (by kernel_rfl) ?_ _
    go_wp2
    have D := HD.out.putC (tc N).toList rfl
    have K := Keeps.putC (b := w.heap.size + 1) (by omega) (tc N).toList 0 (K1.out.trans ((Keeps.refl w1).drew.trans k3))
    change bodyPost _ _ _ _ _ (putC w3 (w.heap.size + 1) 0 (tc N).toList)
    generalize putC w3 (w.heap.size + 1) 0 (tc N).toList = X at D K ⊢
    exact bodyPost_ret (v := tk N) (by simp [results, Try.results28, go_sem, D.cells]) rfl ⟨by rw [Hn.out, HN.out], K⟩
end Go.Proofs.Ytdndgacaohmdnaa
