/-
  Fair shares, the program's side: it moves one.
-/
import Derived.Test.YtdndgacaohmdnaaImplFairA
namespace Go.Proofs.Ytdndgacaohmdnaa
open Go.RowKit
attribute [local go_sem] Keeps.refl Keeps.alloc Keeps.drew Keeps.drewN

set_option maxRecDepth 100000 in
set_option maxHeartbeats 4000000 in
theorem implFairMove_says : SaysFairMove := by
  intro t cpu frm dst w
  go_enter Try.func37, Try.ntmps37
  go_wp2_with fail
  have B1 := (Blk.new w (tc t) 25).alloc (.cells (tc Tsk.zero) 25)
  have B2 := Blk.new (w.alloc (.cells (tc t) 25)) (tc Tsk.zero) 25
  have K0 : Keeps w ((w.alloc (.cells (tc t) 25)).alloc (.cells (tc Tsk.zero) 25)) := ((Keeps.refl w).alloc _).alloc _
  simp only [World.size_alloc] at B2
  refine (isFair_any t _).mono ?_
  rintro e w1 ⟨rfl, k1⟩
  have R : Hid (Blk w1 (w.heap.size + 1) (tc Tsk.zero)) := B2.keeps k1
  have T : Hid (Blk w1 w.heap.size (tc t)) := B1.keeps k1
  have K1 : Hid (Keeps w w1) := K0.trans k1
  obtain ⟨_, b1, b2⟩ := B1.keeps k1
  obtain ⟨_, c1, c2⟩ := B2.keeps k1
  clear k1 B1 B2 K0
  cases hd : fairB t
  · have Hn : Hid (fairMoveT t cpu frm dst = t) := by show _ = _; simp [fairMoveT, moveB, hd]
    go_wp2
    have D := R.out.putC (tc (t)).toList rfl
    have K := Keeps.putC (b := w.heap.size + 1) (by omega) (tc (t)).toList 0 K1.out
    change bodyPost _ _ _ _ _ (putC w1 (w.heap.size + 1) 0 (tc (t)).toList)
    generalize putC w1 (w.heap.size + 1) 0 (tc (t)).toList = X at D K ⊢
    exact bodyPost_ret (v := tk (t)) (by simp [results, Try.results37, go_sem, D.cells]) rfl ⟨by rw [Hn.out], K⟩
  cases hc1 : inB frm 0 100000000
  · have Hn : Hid (fairMoveT t cpu frm dst = t) := by show _ = _; simp [fairMoveT, moveB, hc1]
    go_wp2_with (go_at_call 84; refine (isWithin_any _ _ _ _).mono ?_; rintro e w' ⟨rfl, hw'⟩; have hw2 := hw'.symm; subst hw2; rw [hc1])
    have D := R.out.putC (tc (t)).toList rfl
    have K := Keeps.putC (b := w.heap.size + 1) (by omega) (tc (t)).toList 0 K1.out
    change bodyPost _ _ _ _ _ (putC w1 (w.heap.size + 1) 0 (tc (t)).toList)
    generalize putC w1 (w.heap.size + 1) 0 (tc (t)).toList = X at D K ⊢
    exact bodyPost_ret (v := tk (t)) (by simp [results, Try.results37, go_sem, D.cells]) rfl ⟨by rw [Hn.out], K⟩
  cases hc2 : inB dst 0 100000000
  · have Hn : Hid (fairMoveT t cpu frm dst = t) := by show _ = _; simp [fairMoveT, moveB, hc2]
    go_wp2_with (go_at_call 84; refine (isWithin_any _ _ _ _).mono ?_; rintro e w' ⟨rfl, hw'⟩; have hw2 := hw'.symm; subst hw2; first | rw [hc1] | rw [hc2])
    have D := R.out.putC (tc (t)).toList rfl
    have K := Keeps.putC (b := w.heap.size + 1) (by omega) (tc (t)).toList 0 K1.out
    change bodyPost _ _ _ _ _ (putC w1 (w.heap.size + 1) 0 (tc (t)).toList)
    generalize putC w1 (w.heap.size + 1) 0 (tc (t)).toList = X at D K ⊢
    exact bodyPost_ret (v := tk (t)) (by simp [results, Try.results37, go_sem, D.cells]) rfl ⟨by rw [Hn.out], K⟩
  have H := (fairB_iff t).1 hd
  have hv := H.v
  have hf1 := inB_iff.1 hc1
  have hf2 := inB_iff.1 hc2
  have Ha : Hid (({ t with cpu := cpu, v := dst + max (t.v - frm) 0 } : Tsk).asFair = { t with cpu := cpu, v := dst + max (t.v - frm) 0 }) := asFair_of H.none
  have Hn : Hid (rightT { t with cpu := cpu, v := dst + max (t.v - frm) 0 } t = fairMoveT t cpu frm dst) := right_mv H hc1 hc2
  have hmx : 0 ≤ max (t.v - frm) 0 ∧ max (t.v - frm) 0 ≤ 100000000 := by omega
  have e1 : IntKind.i64.wrap (dst + max (t.v - frm) 0) = dst + max (t.v - frm) 0 := Go.IntWalk.i64_in _ (by omega)
  obtain ⟨M, HM⟩ : ∃ M, Hid (max (t.v - frm) 0 = M) := ⟨_, rfl⟩
  rw [HM.out] at e1 Ha Hn hmx
  go_wp2_with (first
    | (go_at_call 84; refine (isWithin_any _ _ _ _).mono ?_; rintro e w' ⟨rfl, hw'⟩; have hw2 := hw'.symm; subst hw2; first | rw [hc1] | rw [hc2])
    | (go_at_call 58; refine (fairTaskOf_any t _).mono ?_; rintro e w2 ⟨rfl, k2⟩)
    | fail)
  have hsz : w.heap.size + 1 < w2.heap.size := Nat.lt_of_lt_of_le R.out.lt k2.size
  have y1 : Hid (Blk (w2.alloc (.cells (rtc { t with cpu := cpu }) 87)) w2.heap.size (rtc { t with cpu := cpu })) := Blk.new _ _ _
  have y2 : Hid (Blk (w2.alloc (.cells (rtc { t with cpu := cpu }) 87)) (w.heap.size + 1) (tc Tsk.zero)) := (R.out.keeps k2).alloc _
  have y3 : Hid (Blk (w2.alloc (.cells (rtc { t with cpu := cpu }) 87)) w.heap.size (tc t)) := (T.out.keeps k2).alloc _
  have y4 : Hid (Keeps w (w2.alloc (.cells (rtc { t with cpu := cpu }) 87))) := (K1.out.trans k2).alloc _
  change Calls _ _ _ (w2.alloc (.cells (rtc { t with cpu := cpu }) 87)) _
  clear b1 b2 c1 c2 k2
  generalize w2.alloc (.cells (rtc { t with cpu := cpu }) 87) = W3 at *
  generalize w2.heap.size = s at *
  refine (above_any t frm _ hv hf1).mono ?_
  rintro e w3 ⟨rfl, k3⟩
  rw [HM.out]
  have z1 := y1.out.keeps k3
  have z2 := y2.out.keeps k3
  have z3 := y3.out.keeps k3
  have z4 := y4.out.trans k3
  have x1 : Blk (w3.setCell ⟨s, 6, none⟩ (.int .i64 (dst + M))) s (rtc { t with cpu := cpu, v := dst + M }) := z1.set 6 (by simp) _
  have x2 : Blk (w3.setCell ⟨s, 6, none⟩ (.int .i64 (dst + M))) (w.heap.size + 1) (tc Tsk.zero) := z2.far (by omega) _
  have x3 : Blk (w3.setCell ⟨s, 6, none⟩ (.int .i64 (dst + M))) w.heap.size (tc t) := z3.far (by omega) _
  have x4 : Keeps w (w3.setCell ⟨s, 6, none⟩ (.int .i64 (dst + M))) := z4.setCell (by show _ ≤ s; omega) _
  obtain ⟨_, f1, f2⟩ := z1
  clear z2 z3 z4 y1 y2 y3 y4 k3
  go_wp2_with fail
  generalize w3.setCell ⟨s, 6, none⟩ (.int .i64 (dst + M)) = X at *
  clear f1 f2
  have XR : Hid (Blk X (w.heap.size + 1) (tc Tsk.zero)) := x2
  have H0 : Has2 w s (rtc { t with cpu := cpu, v := dst + M }) w.heap.size (tc t) X := ⟨x4, x1, x3⟩
  have r2 : ∀ w', Has2 w s (rtc { t with cpu := cpu, v := dst + M }) w.heap.size (tc t) w' → ∀ k, w'.cell? ⟨s, k, none⟩ = (rtc { t with cpu := cpu, v := dst + M })[k]? := fun w' h => h.box.cells
  have r3 : ∀ w', Has2 w s (rtc { t with cpu := cpu, v := dst + M }) w.heap.size (tc t) w' → ∀ k, w'.cell? ⟨w.heap.size, k, none⟩ = (tc t)[k]? := fun w' h => h.box2.cells
  have hs1 : w.heap.size + 1 ≠ s := by omega
  have hs2 : w.heap.size + 1 ≠ w.heap.size := by omega
  clear x1 x2 x3 x4
  obtain ⟨N, HN⟩ : ∃ N, Hid (fairMoveT t cpu frm dst = N) := ⟨_, rfl⟩
  rw [HN.out] at Hn
  refine wp_region_held_drew (S := (fun w' => Has2 w s (rtc { t with cpu := cpu, v := dst + M }) w.heap.size (tc t) w')) (by kernel_rfl) ?_ (fun hHeld => ?_)
  · exact H0.go (Keeps.refl _).drew
  refine wpAnyH_take (i := 0) (v := ?_) (by simp only [List.getElem?_toArray, List.getElem?_cons_zero]; rfl) (by kernel_rfl) (by kernel_rfl) (by kernel_rfl) (by exact fun _ _ _ h => h) (Or.inl ⟨by rfl, ?_⟩) (by assumption) ?_
  rotate_left
  · (intro w hSw; (try dsimp only at hSw); go_simp; try (with_reducible rfl))
  try simp only [Act.put, List.setIfInBounds_toArray, List.set_cons_zero, List.set_cons_succ]
  refine wpAnyH_take (i := 2) (v := ?_) (by simp only [List.getElem?_toArray, List.getElem?_cons_succ, List.getElem?_cons_zero]; rfl) (by kernel_rfl) (by kernel_rfl) (by kernel_rfl) (by exact fun _ _ _ h => h) (Or.inl ⟨by rfl, ?_⟩) (by assumption) ?_
  rotate_left
  · (intro w hSw; (try dsimp only at hSw); go_simp; try (with_reducible rfl))
  try simp only [Act.put, List.setIfInBounds_toArray, List.set_cons_zero, List.set_cons_succ]
  refine wpAnyH_ready (rs := [1]) (by kernel_rfl) (by simp) ?_
  refine AllReadyH.cons (by simp only [List.getElem?_toArray, List.getElem?_cons_succ, List.getElem?_cons_zero]; rfl) (fun K hK => ?_) AllReadyH.nil
  go_simp
  first
    | (go_at_call 68; refine (fairWhole_any { t with cpu := cpu, v := dst + M } _).mono ?_; rintro e w5 ⟨rfl, k5⟩; rw [Ha.out])
    | (go_at_call 70; refine (rightOr_any { t with cpu := cpu, v := dst + M } t _).mono ?_; rintro e w6 ⟨rfl, k6⟩; rw [Hn.out])
  try go_wp2_with fail
  refine hK.out _ _ ?_ (fun hHeld => ?_)
  · first | exact hHeld.go k6 | exact hHeld.go k5
  clear hK K
  try simp only [Act.put, List.setIfInBounds_toArray, List.set_cons_zero, List.set_cons_succ]
  refine wpAnyH_ready (rs := [3]) (by kernel_rfl) (by simp) ?_
  refine AllReadyH.cons (by simp only [List.getElem?_toArray, List.getElem?_cons_succ, List.getElem?_cons_zero]; rfl) (fun K hK => ?_) AllReadyH.nil
  go_simp
  first
    | (go_at_call 68; refine (fairWhole_any { t with cpu := cpu, v := dst + M } _).mono ?_; rintro e w5 ⟨rfl, k5⟩; rw [Ha.out])
    | (go_at_call 70; refine (rightOr_any { t with cpu := cpu, v := dst + M } t _).mono ?_; rintro e w6 ⟨rfl, k6⟩; rw [Hn.out])
  try go_wp2_with fail
  refine hK.out _ _ ?_ (fun hHeld => ?_)
  · first | exact hHeld.go k6 | exact hHeld.go k5
  clear hK K
  try simp only [Act.put, List.setIfInBounds_toArray, List.set_cons_zero, List.set_cons_succ]
  refine wpAnyH_ready (rs := [4]) (by kernel_rfl) (by simp) ?_
  refine AllReadyH.cons (by simp only [List.getElem?_toArray, List.getElem?_cons_succ, List.getElem?_cons_zero]; rfl) (fun K hK => ?_) AllReadyH.nil
  have HB := XR.out.keeps ((Keeps.refl X).drew.trans (k5.trans k6)); have HD : Hid (Blk w6 (w.heap.size + 1) (tc Tsk.zero)) := HB; obtain ⟨_, q1, q2⟩ := HB
  go_simp
  try go_wp2_with fail
  refine hK.out _ _ ?_ (fun hHeld => ?_)
  · exact hHeld.put (r := w.heap.size + 1) (by omega) hs1 hs2 0 (tc N).toList
  clear hK K
  try simp only [Act.put, List.setIfInBounds_toArray, List.set_cons_zero, List.set_cons_succ]
  refine wpAnyH_done (by kernel_rfl) ?_ _
  go_wp2
  have D := HD.out.putC (tc N).toList rfl
  have K := Keeps.putC (b := w.heap.size + 1) (by omega) (tc N).toList 0 ((H0.keeps.drew).trans (k5.trans k6))
  change bodyPost _ _ _ _ _ (putC w6 (w.heap.size + 1) 0 (tc N).toList)
  generalize putC w6 (w.heap.size + 1) 0 (tc N).toList = Y at D K ⊢
  exact bodyPost_ret (v := tk N) (by simp [results, Try.results37, go_sem, D.cells]) rfl ⟨by rw [HN.out], K⟩
end Go.Proofs.Ytdndgacaohmdnaa
