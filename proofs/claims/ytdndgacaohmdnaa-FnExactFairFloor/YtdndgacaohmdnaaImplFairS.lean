/-
  Fair shares, the program's side: it spends.
-/
import Derived.Test.YtdndgacaohmdnaaImplFairA
namespace Go.Proofs.Ytdndgacaohmdnaa
open Go.RowKit
attribute [local go_sem] Keeps.refl Keeps.alloc Keeps.drew Keeps.drewN

set_option maxRecDepth 100000 in
set_option maxHeartbeats 4000000 in
theorem implFairSpend_says : SaysFairSpend := by
  intro t w
  go_enter Try.func25, Try.ntmps25
  go_wp2_with fail
  refine (isFair_any t _).mono ?_
  rintro e w1 ⟨rfl, k1⟩
  have B1 := ((Blk.new w (tc t) 25).alloc (.cells (tc Tsk.zero) 25)).keeps k1
  have B2 := (Blk.new (w.alloc (.cells (tc t) 25)) (tc Tsk.zero) 25).keeps k1
  have K1 : Hid (Keeps w w1) := (((Keeps.refl w).alloc _).alloc _).trans k1
  simp only [World.size_alloc] at B2
  have R : Hid (Blk w1 (w.heap.size + 1) (tc Tsk.zero)) := B2
  have T : Hid (Blk w1 w.heap.size (tc t)) := B1
  obtain ⟨_, b1, b2⟩ := B1
  obtain ⟨_, c1, c2⟩ := B2
  clear k1
  cases hd : fairB t
  · have Hn : Hid (fairSpendT t = t) := by show _ = _; simp [fairSpendT, hd]
    go_wp2
    have D := R.out.putC (tc (t)).toList rfl
    have K := Keeps.putC (b := w.heap.size + 1) (by omega) (tc (t)).toList 0 K1.out
    change bodyPost _ _ _ _ _ (putC w1 (w.heap.size + 1) 0 (tc (t)).toList)
    generalize putC w1 (w.heap.size + 1) 0 (tc (t)).toList = X at D K ⊢
    exact bodyPost_ret (v := tk (t)) (by simp [results, Try.results25, go_sem, D.cells]) rfl ⟨by rw [Hn.out], K⟩
  · have H := (fairB_iff t).1 hd
    have hst := stepI_bd t.nice
    obtain ⟨v0, v1⟩ := H.v
    have e1 : IntKind.i64.wrap (t.v + stepI t.nice) = t.v + stepI t.nice := Go.IntWalk.i64_in _ (by omega)
    have Ha : Hid (({ t with v := t.v + stepI t.nice } : Tsk).asFair = { t with v := t.v + stepI t.nice }) := asFair_of H.none
    have Hn : Hid (rightT { t with v := t.v + stepI t.nice } t = fairSpendT t) := by show _ = _; rw [right_to H, fairSpendT, if_pos hd]
    obtain ⟨st, Hst⟩ : ∃ st, Hid (stepI t.nice = st) := ⟨_, rfl⟩
    rw [Hst.out] at e1 Ha Hn hst
    go_wp2_with fail
    refine (fairTaskOf_any t _).mono ?_
    rintro e w2 ⟨rfl, k2⟩
    go_wp2_with fail
    have Bd : Hid (Blk (w2.alloc (.cells (rtc t) 87)) w2.heap.size (rtc t)) := Blk.new _ _ _
    have R3 : Hid (Blk (w2.alloc (.cells (rtc t) 87)) (w.heap.size + 1) (tc Tsk.zero)) := (R.out.keeps k2).alloc _
    have T3 : Hid (Blk (w2.alloc (.cells (rtc t) 87)) w.heap.size (tc t)) := (T.out.keeps k2).alloc _
    have K3 : Hid (Keeps w (w2.alloc (.cells (rtc t) 87))) := (K1.out.trans k2).alloc _
    have hsz : w.heap.size + 1 < w2.heap.size := Nat.lt_of_lt_of_le R.out.lt k2.size
    have r1 : ∀ w', Keeps (w2.alloc (.cells (rtc t) 87)) w' → ∀ k, w'.cell? ⟨w2.heap.size, k, none⟩ = (rtc t)[k]? := fun w' h => (Bd.out.keeps h).cells
    have K0 := Keeps.refl (w2.alloc (.cells (rtc t) 87))
    clear b1 b2 c1 c2 k2 R T
    generalize w2.alloc (.cells (rtc t) 87) = W3 at *
    generalize w2.heap.size = s at *
    go_cut [19] (fun c wx => c = .pointer (some ⟨s, 6, none⟩) ∧ Blk wx s (rtc { t with v := t.v + st }) ∧ Blk wx (w.heap.size + 1) (tc Tsk.zero) ∧ Blk wx w.heap.size (tc t) ∧ Keeps w wx)
    case first =>
      go_region_with (go_at_call 30; refine (implStepOf_says t.nice _).mono ?_; rintro e w4 ⟨rfl, k4⟩; have K4 : Keeps W3 w4 := K0.drew.trans k4; have fz : w4.frozen? ⟨s, 6, none⟩ = false := (Bd.out.keeps K4).frozens 6; clear k4; rw [Hst.out])
      all_goals
        go_wp2
        go_meet
        exact ⟨rfl, (Bd.out.keeps K4).set 6 (by simp) _, (R3.out.keeps K4).far (by omega) _, (T3.out.keeps K4).far (by omega) _, (K3.out.trans K4).setCell (by show _ ≤ s; omega) _⟩
    case rest =>
      obtain ⟨rfl, x1, x2, x3, x4⟩ := hcut
      generalize wc = X at *
      have XR : Hid (Blk X (w.heap.size + 1) (tc Tsk.zero)) := x2
      have H0 : Has2 w s (rtc { t with v := t.v + st }) w.heap.size (tc t) X := ⟨x4, x1, x3⟩
      have r2 : ∀ w', Has2 w s (rtc { t with v := t.v + st }) w.heap.size (tc t) w' → ∀ k, w'.cell? ⟨s, k, none⟩ = (rtc { t with v := t.v + st })[k]? := fun w' h => h.box.cells
      have r3 : ∀ w', Has2 w s (rtc { t with v := t.v + st }) w.heap.size (tc t) w' → ∀ k, w'.cell? ⟨w.heap.size, k, none⟩ = (tc t)[k]? := fun w' h => h.box2.cells
      have hs1 : w.heap.size + 1 ≠ s := by omega
      have hs2 : w.heap.size + 1 ≠ w.heap.size := by omega
      clear x1 x2 x3 x4 r1 K0
      obtain ⟨N, HN⟩ : ∃ N, Hid (fairSpendT t = N) := ⟨_, rfl⟩
      rw [HN.out] at Hn
      go_wp2_with fail
      refine wp_region_held_drew (S := (fun w' => Has2 w s (rtc { t with v := t.v + st }) w.heap.size (tc t) w')) (by kernel_rfl) ?_ (fun hHeld => ?_)
      · exact H0.go (Keeps.refl _).drew
      refine wpAnyH_take (i := 0) (v := ?_) (by simp only [List.getElem?_toArray, List.getElem?_cons_zero]; rfl) (by kernel_rfl) (by kernel_rfl) (by kernel_rfl) (by exact fun _ _ _ h => h) (Or.inl ⟨by rfl, ?_⟩) (by assumption) ?_
      rotate_left
      · (intro w hSw; (try dsimp only at hSw); go_simp; try (with_reducible rfl))
      try simp only [Act.put, List.setIfInBounds_toArray, List.set_cons_zero, List.set_cons_succ]
      refine wpAnyH_take (i := 2) (v := ?_) (by simp only [List.getElem?_toArray, List.getElem?_cons_succ, List.getElem?_cons_zero]; rfl) (by kernel_rfl) (by kernel_rfl) (by kernel_rfl) (by exact fun _ _ _ h => h) (Or.inl ⟨by rfl, ?_⟩) (by assumption) ?_
      rotate_left
      · (intro w hSw; (try dsimp only at hSw); go_simp; try (with_reducible rfl))
      try simp only [Act.put, List.setIfInBounds_toArray, List.set_cons_zero, List.set_cons_succ]
      refine wpAnyH_ready (rs := [1]) (by kernel_rfl) (by simp) ?_
      refine AllReadyH.cons (by simp only [List.getElem?_toArray, List.getElem?_cons_succ, List.getElem?_cons_zero]; rfl) (fun K hK => ?_) AllReadyH.nil
      go_simp
      first
        | (go_at_call 68; refine (fairWhole_any { t with v := t.v + st } _).mono ?_; rintro e w5 ⟨rfl, k5⟩; rw [Ha.out])
        | (go_at_call 70; refine (rightOr_any { t with v := t.v + st } t _).mono ?_; rintro e w6 ⟨rfl, k6⟩; rw [Hn.out])
      try go_wp2_with fail
      refine hK.out _ _ ?_ (fun hHeld => ?_)
      · first | exact hHeld.go k6 | exact hHeld.go k5
      clear hK K
      try simp only [Act.put, List.setIfInBounds_toArray, List.set_cons_zero, List.set_cons_succ]
      refine wpAnyH_ready (rs := [3]) (by kernel_rfl) (by simp) ?_
      refine AllReadyH.cons (by simp only [List.getElem?_toArray, List.getElem?_cons_succ, List.getElem?_cons_zero]; rfl) (fun K hK => ?_) AllReadyH.nil
      go_simp
      first
        | (go_at_call 68; refine (fairWhole_any { t with v := t.v + st } _).mono ?_; rintro e w5 ⟨rfl, k5⟩; rw [Ha.out])
        | (go_at_call 70; refine (rightOr_any { t with v := t.v + st } t _).mono ?_; rintro e w6 ⟨rfl, k6⟩; rw [Hn.out])
      try go_wp2_with fail
      refine hK.out _ _ ?_ (fun hHeld => ?_)
      · first | exact hHeld.go k6 | exact hHeld.go k5
      clear hK K
      try simp only [Act.put, List.setIfInBounds_toArray, List.set_cons_zero, List.set_cons_succ]
      refine wpAnyH_ready (rs := [4]) (by kernel_rfl) (by simp) ?_
      refine AllReadyH.cons (by simp only [List.getElem?_toArray, List.getElem?_cons_succ, List.getElem?_cons_zero]; rfl) (fun K hK => ?_) AllReadyH.nil
      have HB := XR.out.keeps ((Keeps.refl X).drew.trans (k5.trans k6)); have HD : Hid (Blk w6 (w.heap.size + 1) (tc Tsk.zero)) := HB; obtain ⟨_, q1, q2⟩ := HB
      go_simp
      try go_wp2_with fail
      refine hK.out _ _ ?_ (fun hHeld => ?_)
      · exact hHeld.put (r := w.heap.size + 1) (by omega) hs1 hs2 0 (tc N).toList
      clear hK K
      try simp only [Act.put, List.setIfInBounds_toArray, List.set_cons_zero, List.set_cons_succ]
      refine wpAnyH_done (by kernel_rfl) ?_ _
      go_wp2
      have D := HD.out.putC (tc N).toList rfl
      have K := Keeps.putC (b := w.heap.size + 1) (by omega) (tc N).toList 0 ((H0.keeps.drew).trans (k5.trans k6))
      change bodyPost _ _ _ _ _ (putC w6 (w.heap.size + 1) 0 (tc N).toList)
      generalize putC w6 (w.heap.size + 1) 0 (tc N).toList = Y at D K ⊢
      exact bodyPost_ret (v := tk N) (by simp [results, Try.results25, go_sem, D.cells]) rfl ⟨by rw [HN.out], K⟩
end Go.Proofs.Ytdndgacaohmdnaa
