/-
  Fair shares, the program's side: it wakes.
-/
import Derived.Test.YtdndgacaohmdnaaImplFairA
namespace Go.Proofs.Ytdndgacaohmdnaa
open Go.RowKit
attribute [local go_sem] Keeps.refl Keeps.alloc Keeps.drew Keeps.drewN

set_option maxRecDepth 100000 in
set_option maxHeartbeats 4000000 in
theorem implFairWake_says : SaysFairWake := by
  intro t floor w
  go_enter Try.func26, Try.ntmps26
  go_wp2_with fail
  refine (isFair_any t _).mono ?_
  rintro e w1 ⟨rfl, k1⟩
  have B1 := ((Blk.new w (tc t) 25).alloc (.cells (tc Tsk.zero) 25)).keeps k1
  have B2 := (Blk.new (w.alloc (.cells (tc t) 25)) (tc Tsk.zero) 25).keeps k1
  have K1 : Hid (Keeps w w1) := (((Keeps.refl w).alloc _).alloc _).trans k1
  simp only [World.size_alloc] at B2
  have R : Hid (Blk w1 (w.heap.size + 1) (tc Tsk.zero)) := B2
  have T : Hid (Blk w1 w.heap.size (tc t)) := B1
  obtain ⟨_, b1, b2⟩ := B1
  obtain ⟨_, c1, c2⟩ := B2
  clear k1
  cases hd : fairB t
  · have Hn : Hid (fairWakeT t floor = t) := by show _ = _; simp [fairWakeT, hd]
    go_wp2
    have D := R.out.putC (tc (t)).toList rfl
    have K := Keeps.putC (b := w.heap.size + 1) (by omega) (tc (t)).toList 0 K1.out
    change bodyPost _ _ _ _ _ (putC w1 (w.heap.size + 1) 0 (tc (t)).toList)
    generalize putC w1 (w.heap.size + 1) 0 (tc (t)).toList = X at D K ⊢
    exact bodyPost_ret (v := tk (t)) (by simp [results, Try.results26, go_sem, D.cells]) rfl ⟨by rw [Hn.out], K⟩
  · have H := (fairB_iff t).1 hd
    by_cases hm : t.v < floor
    · skip
      have Hm : Hid (max t.v floor = floor) := by show _ = _; omega
      have Ha : Hid (({ t with v := floor } : Tsk).asFair = { t with v := floor }) := asFair_of H.none
      have Hn : Hid (rightT { t with v := floor } t = fairWakeT t floor) := by show _ = _; rw [right_to H, fairWakeT, if_pos hd, Hm.out]
      go_wp2_with fail
      refine (fairTaskOf_any t _).mono ?_
      rintro e w2 ⟨rfl, k2⟩
      go_wp2_with fail
      have hsz : w.heap.size + 1 < w2.heap.size := Nat.lt_of_lt_of_le R.out.lt k2.size
      have x1 := Blk.new w2 (rtc { t with v := floor }) 87
      have x2 := (R.out.keeps k2).alloc (.cells (rtc { t with v := floor }) 87)
      have x3 := (T.out.keeps k2).alloc (.cells (rtc { t with v := floor }) 87)
      have x4 := (K1.out.trans k2).alloc (.cells (rtc { t with v := floor }) 87)
      change Code.wp _ _ _ _ (w2.alloc (.cells (rtc { t with v := floor }) 87))
      clear b1 b2 c1 c2 k2
      generalize w2.alloc (.cells (rtc { t with v := floor }) 87) = X at *
      generalize w2.heap.size = s at *
      have XR : Hid (Blk X (w.heap.size + 1) (tc Tsk.zero)) := x2
      have H0 : Has2 w s (rtc { t with v := floor }) w.heap.size (tc t) X := ⟨x4, x1, x3⟩
      have r2 : ∀ w', Has2 w s (rtc { t with v := floor }) w.heap.size (tc t) w' → ∀ k, w'.cell? ⟨s, k, none⟩ = (rtc { t with v := floor })[k]? := fun w' h => h.box.cells
      have r3 : ∀ w', Has2 w s (rtc { t with v := floor }) w.heap.size (tc t) w' → ∀ k, w'.cell? ⟨w.heap.size, k, none⟩ = (tc t)[k]? := fun w' h => h.box2.cells
      have hs1 : w.heap.size + 1 ≠ s := by omega
      have hs2 : w.heap.size + 1 ≠ w.heap.size := by omega
      clear x1 x2 x3 x4
      obtain ⟨N, HN⟩ : ∃ N, Hid (fairWakeT t floor = N) := ⟨_, rfl⟩
      rw [HN.out] at Hn
      refine wp_region_held_drew (S := (fun w' => Has2 w s (rtc { t with v := floor }) w.heap.size (tc t) w')) (by kernel_rfl) ?_ (fun hHeld => ?_)
      · exact H0.go (Keeps.refl _).drew
      refine wpAnyH_take (i := 0) (v := ?_) (by simp only [List.getElem?_toArray, List.getElem?_cons_zero]; rfl) (by kernel_rfl) (by kernel_rfl) (by kernel_rfl) (by exact fun _ _ _ h => h) (Or.inl ⟨by rfl, ?_⟩) (by assumption) ?_
      rotate_left
      · (intro w hSw; (try dsimp only at hSw); go_simp; try (with_reducible rfl))
      try simp only [Act.put, List.setIfInBounds_toArray, List.set_cons_zero, List.set_cons_succ]
      refine wpAnyH_take (i := 2) (v := ?_) (by simp only [List.getElem?_toArray, List.getElem?_cons_succ, List.getElem?_cons_zero]; rfl) (by kernel_rfl) (by kernel_rfl) (by kernel_rfl) (by exact fun _ _ _ h => h) (Or.inl ⟨by rfl, ?_⟩) (by assumption) ?_
      rotate_left
      · (intro w hSw; (try dsimp only at hSw); go_simp; try (with_reducible rfl))
      try simp only [Act.put, List.setIfInBounds_toArray, List.set_cons_zero, List.set_cons_succ]
      refine wpAnyH_ready (rs := [1]) (by kernel_rfl) (by simp) ?_
      refine AllReadyH.cons (by simp only [List.getElem?_toArray, List.getElem?_cons_succ, List.getElem?_cons_zero]; rfl) (fun K hK => ?_) AllReadyH.nil
      go_simp
      first
        | (go_at_call 68; refine (fairWhole_any { t with v := floor } _).mono ?_; rintro e w5 ⟨rfl, k5⟩; rw [Ha.out])
        | (go_at_call 70; refine (rightOr_any { t with v := floor } t _).mono ?_; rintro e w6 ⟨rfl, k6⟩; rw [Hn.out])
      try go_wp2_with fail
      refine hK.out _ _ ?_ (fun hHeld => ?_)
      · first | exact hHeld.go k6 | exact hHeld.go k5
      clear hK K
      try simp only [Act.put, List.setIfInBounds_toArray, List.set_cons_zero, List.set_cons_succ]
      refine wpAnyH_ready (rs := [3]) (by kernel_rfl) (by simp) ?_
      refine AllReadyH.cons (by simp only [List.getElem?_toArray, List.getElem?_cons_succ, List.getElem?_cons_zero]; rfl) (fun K hK => ?_) AllReadyH.nil
      go_simp
      first
        | (go_at_call 68; refine (fairWhole_any { t with v := floor } _).mono ?_; rintro e w5 ⟨rfl, k5⟩; rw [Ha.out])
        | (go_at_call 70; refine (rightOr_any { t with v := floor } t _).mono ?_; rintro e w6 ⟨rfl, k6⟩; rw [Hn.out])
      try go_wp2_with fail
      refine hK.out _ _ ?_ (fun hHeld => ?_)
      · first | exact hHeld.go k6 | exact hHeld.go k5
      clear hK K
      try simp only [Act.put, List.setIfInBounds_toArray, List.set_cons_zero, List.set_cons_succ]
      refine wpAnyH_ready (rs := [4]) (by kernel_rfl) (by simp) ?_
      refine AllReadyH.cons (by simp only [List.getElem?_toArray, List.getElem?_cons_succ, List.getElem?_cons_zero]; rfl) (fun K hK => ?_) AllReadyH.nil
      have HB := XR.out.keeps ((Keeps.refl X).drew.trans (k5.trans k6)); have HD : Hid (Blk w6 (w.heap.size + 1) (tc Tsk.zero)) := HB; obtain ⟨_, q1, q2⟩ := HB
      go_simp
      try go_wp2_with fail
      refine hK.out _ _ ?_ (fun hHeld => ?_)
      · exact hHeld.put (r := w.heap.size + 1) (by omega) hs1 hs2 0 (tc N).toList
      clear hK K
      try simp only [Act.put, List.setIfInBounds_toArray, List.set_cons_zero, List.set_cons_succ]
      refine wpAnyH_done (by kernel_rfl) ?_ _
      go_wp2
      have D := HD.out.putC (tc N).toList rfl
      have K := Keeps.putC (b := w.heap.size + 1) (by omega) (tc N).toList 0 ((H0.keeps.drew).trans (k5.trans k6))
      change bodyPost _ _ _ _ _ (putC w6 (w.heap.size + 1) 0 (tc N).toList)
      generalize putC w6 (w.heap.size + 1) 0 (tc N).toList = Y at D K ⊢
      exact bodyPost_ret (v := tk N) (by simp [results, Try.results26, go_sem, D.cells]) rfl ⟨by rw [HN.out], K⟩
    · skip
      have Hm : Hid (max t.v floor = t.v) := by show _ = _; omega
      have Ha : Hid (({ t with v := t.v } : Tsk).asFair = { t with v := t.v }) := asFair_of H.none
      have Hn : Hid (rightT { t with v := t.v } t = fairWakeT t floor) := by show _ = _; rw [right_to H, fairWakeT, if_pos hd, Hm.out]
      go_wp2_with fail
      refine (fairTaskOf_any t _).mono ?_
      rintro e w2 ⟨rfl, k2⟩
      go_wp2_with fail
      have hsz : w.heap.size + 1 < w2.heap.size := Nat.lt_of_lt_of_le R.out.lt k2.size
      have x1 := Blk.new w2 (rtc { t with v := t.v }) 87
      have x2 := (R.out.keeps k2).alloc (.cells (rtc { t with v := t.v }) 87)
      have x3 := (T.out.keeps k2).alloc (.cells (rtc { t with v := t.v }) 87)
      have x4 := (K1.out.trans k2).alloc (.cells (rtc { t with v := t.v }) 87)
      change Code.wp _ _ _ _ (w2.alloc (.cells (rtc { t with v := t.v }) 87))
      clear b1 b2 c1 c2 k2
      generalize w2.alloc (.cells (rtc { t with v := t.v }) 87) = X at *
      generalize w2.heap.size = s at *
      have XR : Hid (Blk X (w.heap.size + 1) (tc Tsk.zero)) := x2
      have H0 : Has2 w s (rtc { t with v := t.v }) w.heap.size (tc t) X := ⟨x4, x1, x3⟩
      have r2 : ∀ w', Has2 w s (rtc { t with v := t.v }) w.heap.size (tc t) w' → ∀ k, w'.cell? ⟨s, k, none⟩ = (rtc { t with v := t.v })[k]? := fun w' h => h.box.cells
      have r3 : ∀ w', Has2 w s (rtc { t with v := t.v }) w.heap.size (tc t) w' → ∀ k, w'.cell? ⟨w.heap.size, k, none⟩ = (tc t)[k]? := fun w' h => h.box2.cells
      have hs1 : w.heap.size + 1 ≠ s := by omega
      have hs2 : w.heap.size + 1 ≠ w.heap.size := by omega
      clear x1 x2 x3 x4
      obtain ⟨N, HN⟩ : ∃ N, Hid (fairWakeT t floor = N) := ⟨_, rfl⟩
      rw [HN.out] at Hn
      refine wp_region_held_drew (S := (fun w' => Has2 w s (rtc { t with v := t.v }) w.heap.size (tc t) w')) (by kernel_rfl) ?_ (fun hHeld => ?_)
      · exact H0.go (Keeps.refl _).drew
      refine wpAnyH_take (i := 0) (v := ?_) (by simp only [List.getElem?_toArray, List.getElem?_cons_zero]; rfl) (by kernel_rfl) (by kernel_rfl) (by kernel_rfl) (by exact fun _ _ _ h => h) (Or.inl ⟨by rfl, ?_⟩) (by assumption) ?_
      rotate_left
      · (intro w hSw; (try dsimp only at hSw); go_simp; try (with_reducible rfl))
      try simp only [Act.put, List.setIfInBounds_toArray, List.set_cons_zero, List.set_cons_succ]
      refine wpAnyH_take (i := 2) (v := ?_) (by simp only [List.getElem?_toArray, List.getElem?_cons_succ, List.getElem?_cons_zero]; rfl) (by kernel_rfl) (by kernel_rfl) (by kernel_rfl) (by exact fun _ _ _ h => h) (Or.inl ⟨by rfl, ?_⟩) (by assumption) ?_
      rotate_left
      · (intro w hSw; (try dsimp only at hSw); go_simp; try (with_reducible rfl))
      try simp only [Act.put, List.setIfInBounds_toArray, List.set_cons_zero, List.set_cons_succ]
      refine wpAnyH_ready (rs := [1]) (by kernel_rfl) (by simp) ?_
      refine AllReadyH.cons (by simp only [List.getElem?_toArray, List.getElem?_cons_succ, List.getElem?_cons_zero]; rfl) (fun K hK => ?_) AllReadyH.nil
      go_simp
      first
        | (go_at_call 68; refine (fairWhole_any { t with v := t.v } _).mono ?_; rintro e w5 ⟨rfl, k5⟩; rw [Ha.out])
        | (go_at_call 70; refine (rightOr_any { t with v := t.v } t _).mono ?_; rintro e w6 ⟨rfl, k6⟩; rw [Hn.out])
      try go_wp2_with fail
      refine hK.out _ _ ?_ (fun hHeld => ?_)
      · first | exact hHeld.go k6 | exact hHeld.go k5
      clear hK K
      try simp only [Act.put, List.setIfInBounds_toArray, List.set_cons_zero, List.set_cons_succ]
      refine wpAnyH_ready (rs := [3]) (by kernel_rfl) (by simp) ?_
      refine AllReadyH.cons (by simp only [List.getElem?_toArray, List.getElem?_cons_succ, List.getElem?_cons_zero]; rfl) (fun K hK => ?_) AllReadyH.nil
      go_simp
      first
        | (go_at_call 68; refine (fairWhole_any { t with v := t.v } _).mono ?_; rintro e w5 ⟨rfl, k5⟩; rw [Ha.out])
        | (go_at_call 70; refine (rightOr_any { t with v := t.v } t _).mono ?_; rintro e w6 ⟨rfl, k6⟩; rw [Hn.out])
      try go_wp2_with fail
      refine hK.out _ _ ?_ (fun hHeld => ?_)
      · first | exact hHeld.go k6 | exact hHeld.go k5
      clear hK K
      try simp only [Act.put, List.setIfInBounds_toArray, List.set_cons_zero, List.set_cons_succ]
      refine wpAnyH_ready (rs := [4]) (by kernel_rfl) (by simp) ?_
      refine AllReadyH.cons (by simp only [List.getElem?_toArray, List.getElem?_cons_succ, List.getElem?_cons_zero]; rfl) (fun K hK => ?_) AllReadyH.nil
      have HB := XR.out.keeps ((Keeps.refl X).drew.trans (k5.trans k6)); have HD : Hid (Blk w6 (w.heap.size + 1) (tc Tsk.zero)) := HB; obtain ⟨_, q1, q2⟩ := HB
      go_simp
      try go_wp2_with fail
      refine hK.out _ _ ?_ (fun hHeld => ?_)
      · exact hHeld.put (r := w.heap.size + 1) (by omega) hs1 hs2 0 (tc N).toList
      clear hK K
      try simp only [Act.put, List.setIfInBounds_toArray, List.set_cons_zero, List.set_cons_succ]
      refine wpAnyH_done (by kernel_rfl) ?_ _
      go_wp2
      have D := HD.out.putC (tc N).toList rfl
      have K := Keeps.putC (b := w.heap.size + 1) (by omega) (tc N).toList 0 ((H0.keeps.drew).trans (k5.trans k6))
      change bodyPost _ _ _ _ _ (putC w6 (w.heap.size + 1) 0 (tc N).toList)
      generalize putC w6 (w.heap.size + 1) 0 (tc N).toList = Y at D K ⊢
      exact bodyPost_ret (v := tk N) (by simp [results, Try.results26, go_sem, D.cells]) rfl ⟨by rw [HN.out], K⟩
end Go.Proofs.Ytdndgacaohmdnaa
