/-
  The walk of the exact law of DueBefore.
-/
import Derived.Test.YtmdpngahofeliaaDueLaws
namespace Go.Proofs.Ytmdpngahofeliaa
open Go.RowKit
attribute [local go_sem] Keeps.refl Keeps.alloc Keeps.drew Keeps.drewN

set_option maxHeartbeats 1000000 in
theorem exactDueBefore_walk (H : SaysDueBefore) (a b : Tsk) (w : World) :
    Calls Try.prog 15 #[tk a, tk b] w fun e w' => e = .returned (.bool true) ∧ Keeps w w' := by
  obtain ⟨g, Hg⟩ : ∃ g, Hid (dueBefB a b = g) := ⟨_, rfl⟩
  have hne : (g != g) = false := by simp
  have HH : Hid SaysDueBefore := H
  clear H
  go_enter Try.func15, Try.ntmps15
  go_wp2_with fail
  have kW : Keeps w ((w.alloc (.cells (tc a) 23)).alloc (.cells (tc b) 23)) := ((Keeps.refl w).alloc _).alloc _
  have r1 : ∀ w', Keeps ((w.alloc (.cells (tc a) 23)).alloc (.cells (tc b) 23)) w' → ∀ k, w'.cell? ⟨w.heap.size, k, none⟩ = (tc a)[k]? := fun w' h => (((Blk.new w (tc a) 23).alloc _).keeps h).cells
  have r2 : ∀ w', Keeps ((w.alloc (.cells (tc a) 23)).alloc (.cells (tc b) 23)) w' → ∀ k, w'.cell? ⟨w.heap.size + 1, k, none⟩ = (tc b)[k]? := fun w' h => by
    have := (Blk.new (w.alloc (.cells (tc a) 23)) (tc b) 23).keeps h
    simp only [World.size_alloc] at this
    exact this.cells
  generalize (w.alloc (.cells (tc a) 23)).alloc (.cells (tc b) 23) = W at *
  have K0 := Keeps.refl W
  refine wp_region_held_drew (S := (fun w' => Keeps W w')) (by kernel_rfl) ?_ (fun hHeld => ?_)
  · exact K0.drew
  refine wpAnyH_take (i := 0) (v := ?_) (by simp only [List.getElem?_toArray, List.getElem?_cons_zero]; rfl) (by kernel_rfl) (by kernel_rfl) (by kernel_rfl) (by exact fun _ _ _ h => h) (Or.inl ⟨by rfl, ?_⟩) (by assumption) ?_
  rotate_left
  · (intro w hSw; (try dsimp only at hSw); go_simp; try (with_reducible rfl))
  try simp only [Act.put, List.setIfInBounds_toArray, List.set_cons_zero, List.set_cons_succ]
  refine wpAnyH_take (i := 2) (v := ?_) (by simp only [List.getElem?_toArray, List.getElem?_cons_succ, List.getElem?_cons_zero]; rfl) (by kernel_rfl) (by kernel_rfl) (by kernel_rfl) (by exact fun _ _ _ h => h) (Or.inl ⟨by rfl, ?_⟩) (by assumption) ?_
  rotate_left
  · (intro w hSw; (try dsimp only at hSw); go_simp; try (with_reducible rfl))
  try simp only [Act.put, List.setIfInBounds_toArray, List.set_cons_zero, List.set_cons_succ]
  refine wpAnyH_ready (rs := [1]) (by kernel_rfl) (by simp) ?_
  refine AllReadyH.cons (by simp only [List.getElem?_toArray, List.getElem?_cons_succ, List.getElem?_cons_zero]; rfl) (fun K hK => ?_) AllReadyH.nil
  go_simp
  first
    | (go_at_call 52; refine (specDueBefore_any a b _).mono ?_; rintro e w3 ⟨rfl, k3⟩; rw [Hg.out])
    | (go_at_call 21; refine (toTask_any _ _).mono ?_; rintro e w1 ⟨rfl, k1⟩)
  try go_wp2_with fail
  refine hK.out _ _ ?_ (fun hHeld => ?_)
  · exact Keeps.trans (by assumption) (by assumption)
  clear hK K
  try simp only [Act.put, List.setIfInBounds_toArray, List.set_cons_zero, List.set_cons_succ]
  refine wpAnyH_ready (rs := [3]) (by kernel_rfl) (by simp) ?_
  refine AllReadyH.cons (by simp only [List.getElem?_toArray, List.getElem?_cons_succ, List.getElem?_cons_zero]; rfl) (fun K hK => ?_) AllReadyH.nil
  go_simp
  first
    | (go_at_call 52; refine (specDueBefore_any a b _).mono ?_; rintro e w3 ⟨rfl, k3⟩; rw [Hg.out])
    | (go_at_call 21; refine (toTask_any _ _).mono ?_; rintro e w1 ⟨rfl, k1⟩)
  try go_wp2_with fail
  refine hK.out _ _ ?_ (fun hHeld => ?_)
  · exact Keeps.trans (by assumption) (by assumption)
  clear hK K
  try simp only [Act.put, List.setIfInBounds_toArray, List.set_cons_zero, List.set_cons_succ]
  refine wpAnyH_ready (rs := [4]) (by kernel_rfl) (by simp) ?_
  refine AllReadyH.cons (by simp only [List.getElem?_toArray, List.getElem?_cons_succ, List.getElem?_cons_zero]; rfl) (fun K hK => ?_) AllReadyH.nil
  go_simp
  first
    | (go_at_call 52; refine (specDueBefore_any a b _).mono ?_; rintro e w3 ⟨rfl, k3⟩; rw [Hg.out])
    | (go_at_call 21; refine (toTask_any _ _).mono ?_; rintro e w1 ⟨rfl, k1⟩)
  try go_wp2_with fail
  refine hK.out _ _ ?_ (fun hHeld => ?_)
  · exact Keeps.trans (by assumption) (by assumption)
  clear hK K
  try simp only [Act.put, List.setIfInBounds_toArray, List.set_cons_zero, List.set_cons_succ]
  refine wpAnyH_take (i := 5) (v := ?_) (by simp only [List.getElem?_toArray, List.getElem?_cons_succ, List.getElem?_cons_zero]; rfl) (by kernel_rfl) (by kernel_rfl) (by kernel_rfl) (by exact fun _ _ _ h => h) (Or.inl ⟨by rfl, ?_⟩) (by assumption) ?_
  rotate_left
  · (intro w hSw; (try dsimp only at hSw); go_simp; try (with_reducible rfl))
  try simp only [Act.put, List.setIfInBounds_toArray, List.set_cons_zero, List.set_cons_succ]
  refine wpAnyH_done (by kernel_rfl) ?_ _
  have K3 : Keeps W w3 := by assumption
  go_wp2_with fail
  refine wp_region_held_drew (S := (fun w' => Keeps W w')) (by kernel_rfl) ?_ (fun hHeld => ?_)
  · exact K3.drew
  refine wpAnyH_take (i := 0) (v := ?_) (by simp only [List.getElem?_toArray, List.getElem?_cons_zero]; rfl) (by kernel_rfl) (by kernel_rfl) (by kernel_rfl) (by exact fun _ _ _ h => h) (Or.inl ⟨by rfl, ?_⟩) (by assumption) ?_
  rotate_left
  · (intro w hSw; (try dsimp only at hSw); go_simp; try (with_reducible rfl))
  try simp only [Act.put, List.setIfInBounds_toArray, List.set_cons_zero, List.set_cons_succ]
  refine wpAnyH_take (i := 2) (v := ?_) (by simp only [List.getElem?_toArray, List.getElem?_cons_succ, List.getElem?_cons_zero]; rfl) (by kernel_rfl) (by kernel_rfl) (by kernel_rfl) (by exact fun _ _ _ h => h) (Or.inl ⟨by rfl, ?_⟩) (by assumption) ?_
  rotate_left
  · (intro w hSw; (try dsimp only at hSw); go_simp; try (with_reducible rfl))
  try simp only [Act.put, List.setIfInBounds_toArray, List.set_cons_zero, List.set_cons_succ]
  refine wpAnyH_ready (rs := [1]) (by kernel_rfl) (by simp) ?_
  refine AllReadyH.cons (by simp only [List.getElem?_toArray, List.getElem?_cons_succ, List.getElem?_cons_zero]; rfl) (fun K hK => ?_) AllReadyH.nil
  go_simp
  first
    | (go_at_call 53; refine (HH.out a b _).mono ?_; rintro e w6 ⟨rfl, k6⟩; rw [Hg.out])
    | (go_at_call 21; refine (toTask_any _ _).mono ?_; rintro e w4 ⟨rfl, k4⟩)
  try go_wp2_with fail
  refine hK.out _ _ ?_ (fun hHeld => ?_)
  · exact Keeps.trans (by assumption) (by assumption)
  clear hK K
  try simp only [Act.put, List.setIfInBounds_toArray, List.set_cons_zero, List.set_cons_succ]
  refine wpAnyH_ready (rs := [3]) (by kernel_rfl) (by simp) ?_
  refine AllReadyH.cons (by simp only [List.getElem?_toArray, List.getElem?_cons_succ, List.getElem?_cons_zero]; rfl) (fun K hK => ?_) AllReadyH.nil
  go_simp
  first
    | (go_at_call 53; refine (HH.out a b _).mono ?_; rintro e w6 ⟨rfl, k6⟩; rw [Hg.out])
    | (go_at_call 21; refine (toTask_any _ _).mono ?_; rintro e w4 ⟨rfl, k4⟩)
  try go_wp2_with fail
  refine hK.out _ _ ?_ (fun hHeld => ?_)
  · exact Keeps.trans (by assumption) (by assumption)
  clear hK K
  try simp only [Act.put, List.setIfInBounds_toArray, List.set_cons_zero, List.set_cons_succ]
  refine wpAnyH_ready (rs := [4]) (by kernel_rfl) (by simp) ?_
  refine AllReadyH.cons (by simp only [List.getElem?_toArray, List.getElem?_cons_succ, List.getElem?_cons_zero]; rfl) (fun K hK => ?_) AllReadyH.nil
  go_simp
  first
    | (go_at_call 53; refine (HH.out a b _).mono ?_; rintro e w6 ⟨rfl, k6⟩; rw [Hg.out])
    | (go_at_call 21; refine (toTask_any _ _).mono ?_; rintro e w4 ⟨rfl, k4⟩)
  try go_wp2_with fail
  refine hK.out _ _ ?_ (fun hHeld => ?_)
  · exact Keeps.trans (by assumption) (by assumption)
  clear hK K
  try simp only [Act.put, List.setIfInBounds_toArray, List.set_cons_zero, List.set_cons_succ]
  refine wpAnyH_take (i := 5) (v := ?_) (by simp only [List.getElem?_toArray, List.getElem?_cons_succ, List.getElem?_cons_zero]; rfl) (by kernel_rfl) (by kernel_rfl) (by kernel_rfl) (by exact fun _ _ _ h => h) (Or.inl ⟨by rfl, ?_⟩) (by assumption) ?_
  rotate_left
  · (intro w hSw; (try dsimp only at hSw); go_simp; try (with_reducible rfl))
  try simp only [Act.put, List.setIfInBounds_toArray, List.set_cons_zero, List.set_cons_succ]
  refine wpAnyH_done (by kernel_rfl) ?_ _
  have K6 : Keeps W w6 := by assumption
  go_wp2
  go_ret
  exact ⟨rfl, kW.trans K6⟩

end Go.Proofs.Ytmdpngahofeliaa
