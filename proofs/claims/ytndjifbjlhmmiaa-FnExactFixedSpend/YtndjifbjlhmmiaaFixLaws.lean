/-
  The walks of the exact laws of chapter 5, over contracts of the program's functions.
-/
import Derived.Test.YtndjifbjlhmmiaaFixSpec
namespace Go.Proofs.Ytndjifbjlhmmiaa
open Go.RowKit
attribute [local go_sem] Keeps.refl Keeps.alloc Keeps.drew Keeps.drewN

/-- What the program's functions are held to. -/
def SaysFixedSpend : Prop := ∀ (t : Tsk) (seq : Int) (w : World), Calls Try.prog 8 #[tk t, .int .i64 seq] w fun e w' => e = .returned (.tuple #[tk (fixSpendT t seq), .bool (turnB t seq)]) ∧ Keeps w w'
def SaysFixedBefore : Prop := ∀ (a b : Tsk) (w : World), Calls Try.prog 14 #[tk a, tk b] w fun e w' => e = .returned (.bool (fixBefB a b)) ∧ Keeps w w'

set_option maxRecDepth 100000 in
set_option maxHeartbeats 1000000 in
theorem exactFixedSpend_walk (H : SaysFixedSpend) (t : Tsk) (seq : Int) (w : World) :
    Calls Try.prog 5 #[tk t, .int .i64 seq] w fun e w' => e = .returned (.bool true) ∧ Keeps w w' := by
  obtain ⟨N, HN⟩ : ∃ N, Hid (fixSpendT t seq = N) := ⟨_, rfl⟩
  obtain ⟨g, Hg⟩ : ∃ g, Hid (turnB t seq = g) := ⟨_, rfl⟩
  have hne : (g != g) = false := by simp
  have HH : Hid SaysFixedSpend := H
  clear H
  go_enter Try.func5, Try.ntmps5
  go_wp2_with fail
  have kW : Keeps w (w.alloc (.cells (tc t) 31)) := (Keeps.refl _).alloc _
  have r1 : ∀ w', Keeps (w.alloc (.cells (tc t) 31)) w' → ∀ k, w'.cell? ⟨w.heap.size, k, none⟩ = (tc t)[k]? := fun w' h => ((Blk.new w (tc t) 31).keeps h).cells
  generalize w.alloc (.cells (tc t) 31) = W at *
  refine (toTask_any t _).mono ?_
  rintro e w1 ⟨rfl, b1⟩
  have k1 : Keeps W w1 := b1
  go_wp2_with fail
  refine (specFixedSpend_any t seq _).mono ?_
  rintro e w2 ⟨rfl, b2⟩
  have k2 : Keeps W w2 := k1.trans b2
  rw [HN.out, Hg.out]
  go_wp2_with fail
  have K2 : Keeps W (w2.alloc (.cells (tc N) 25)) := k2.alloc _
  have r2 : ∀ w', Keeps (w2.alloc (.cells (tc N) 25)) w' → ∀ k, w'.cell? ⟨w2.heap.size, k, none⟩ = (tc N)[k]? := fun w' h => ((Blk.new w2 (tc N) 25).keeps h).cells
  clear k1 k2 b1 b2 r1
  generalize w2.alloc (.cells (tc N) 25) = W2 at *
  generalize w2.heap.size = s2 at *
  refine (toTask_any t _).mono ?_
  rintro e w3 ⟨rfl, k3⟩
  go_wp2_with fail
  refine (HH.out t seq _).mono ?_
  rintro e w4 ⟨rfl, b4⟩
  have k4 : Keeps W2 w4 := k3.trans b4
  rw [HN.out, Hg.out]
  have r3 : ∀ w', Keeps (w4.alloc (.cells (tc N) 25)) w' → ∀ k, w'.cell? ⟨w4.heap.size, k, none⟩ = (tc N)[k]? := fun w' h => ((Blk.new w4 (tc N) 25).keeps h).cells
  have r4 : ∀ w', Keeps (w4.alloc (.cells (tc N) 25)) w' → ∀ k, w'.cell? ⟨s2, k, none⟩ = (tc N)[k]? := fun w' h => r2 w' ((k4.alloc _).trans h)
  have K4 : Keeps w (w4.alloc (.cells (tc N) 25)) := kW.trans (K2.trans (k4.alloc _))
  clear r2 k3 k4 b4 K2
  go_wp2_with (go_at_call 15; refine (eqTask_same N _).mono ?_; rintro e w5 ⟨rfl, k5⟩)
  go_ret
  exact ⟨rfl, K4.trans k5⟩

set_option maxRecDepth 100000 in
set_option maxHeartbeats 1000000 in
theorem exactFixedBefore_walk (H : SaysFixedBefore) (a b : Tsk) (w : World) :
    Calls Try.prog 4 #[tk a, tk b] w fun e w' => e = .returned (.bool true) ∧ Keeps w w' := by
  obtain ⟨g, Hg⟩ : ∃ g, Hid (fixBefB a b = g) := ⟨_, rfl⟩
  have hne : (g != g) = false := by simp
  have HH : Hid SaysFixedBefore := H
  clear H
  go_enter Try.func4, Try.ntmps4
  go_wp2_with fail
  have kW : Keeps w ((w.alloc (.cells (tc a) 31)).alloc (.cells (tc b) 31)) := ((Keeps.refl w).alloc _).alloc _
  have r1 : ∀ w', Keeps ((w.alloc (.cells (tc a) 31)).alloc (.cells (tc b) 31)) w' → ∀ k, w'.cell? ⟨w.heap.size, k, none⟩ = (tc a)[k]? := fun w' h => (((Blk.new w (tc a) 31).alloc _).keeps h).cells
  have r2 : ∀ w', Keeps ((w.alloc (.cells (tc a) 31)).alloc (.cells (tc b) 31)) w' → ∀ k, w'.cell? ⟨w.heap.size + 1, k, none⟩ = (tc b)[k]? := fun w' h => by
    have := (Blk.new (w.alloc (.cells (tc a) 31)) (tc b) 31).keeps h
    simp only [World.size_alloc] at this
    exact this.cells
  generalize (w.alloc (.cells (tc a) 31)).alloc (.cells (tc b) 31) = W at *
  have K0 := Keeps.refl W
  refine wp_region_held_drew (S := (fun w' => Keeps W w')) (by kernel_rfl) ?_ (fun hHeld => ?_)
  · exact K0.drew
  refine wpAnyH_take (i := 0) (v := ?_) (by simp only [List.getElem?_toArray, List.getElem?_cons_zero]; rfl) (by kernel_rfl) (by kernel_rfl) (by kernel_rfl) (by exact fun _ _ _ h => h) (Or.inl ⟨by rfl, ?_⟩) (by assumption) ?_
  rotate_left
  · (intro w hSw; (try dsimp only at hSw); go_simp; try (with_reducible rfl))
  try simp only [Act.put, List.setIfInBounds_toArray, List.set_cons_zero, List.set_cons_succ]
  refine wpAnyH_take (i := 2) (v := ?_) (by simp only [List.getElem?_toArray, List.getElem?_cons_succ, List.getElem?_cons_zero]; rfl) (by kernel_rfl) (by kernel_rfl) (by kernel_rfl) (by exact fun _ _ _ h => h) (Or.inl ⟨by rfl, ?_⟩) (by assumption) ?_
  rotate_left
  · (intro w hSw; (try dsimp only at hSw); go_simp; try (with_reducible rfl))
  try simp only [Act.put, List.setIfInBounds_toArray, List.set_cons_zero, List.set_cons_succ]
  refine wpAnyH_ready (rs := [1]) (by kernel_rfl) (by simp) ?_
  refine AllReadyH.cons (by simp only [List.getElem?_toArray, List.getElem?_cons_succ, List.getElem?_cons_zero]; rfl) (fun K hK => ?_) AllReadyH.nil
  go_simp
  first
    | (go_at_call 12; refine (specFixedBefore_any a b _).mono ?_; rintro e w3 ⟨rfl, k3⟩; rw [Hg.out])
    | (go_at_call 13; refine (toTask_any _ _).mono ?_; rintro e w1 ⟨rfl, k1⟩)
  try go_wp2_with fail
  refine hK.out _ _ ?_ (fun hHeld => ?_)
  · exact Keeps.trans (by assumption) (by assumption)
  clear hK K
  try simp only [Act.put, List.setIfInBounds_toArray, List.set_cons_zero, List.set_cons_succ]
  refine wpAnyH_ready (rs := [3]) (by kernel_rfl) (by simp) ?_
  refine AllReadyH.cons (by simp only [List.getElem?_toArray, List.getElem?_cons_succ, List.getElem?_cons_zero]; rfl) (fun K hK => ?_) AllReadyH.nil
  go_simp
  first
    | (go_at_call 12; refine (specFixedBefore_any a b _).mono ?_; rintro e w3 ⟨rfl, k3⟩; rw [Hg.out])
    | (go_at_call 13; refine (toTask_any _ _).mono ?_; rintro e w1 ⟨rfl, k1⟩)
  try go_wp2_with fail
  refine hK.out _ _ ?_ (fun hHeld => ?_)
  · exact Keeps.trans (by assumption) (by assumption)
  clear hK K
  try simp only [Act.put, List.setIfInBounds_toArray, List.set_cons_zero, List.set_cons_succ]
  refine wpAnyH_ready (rs := [4]) (by kernel_rfl) (by simp) ?_
  refine AllReadyH.cons (by simp only [List.getElem?_toArray, List.getElem?_cons_succ, List.getElem?_cons_zero]; rfl) (fun K hK => ?_) AllReadyH.nil
  go_simp
  first
    | (go_at_call 12; refine (specFixedBefore_any a b _).mono ?_; rintro e w3 ⟨rfl, k3⟩; rw [Hg.out])
    | (go_at_call 13; refine (toTask_any _ _).mono ?_; rintro e w1 ⟨rfl, k1⟩)
  try go_wp2_with fail
  refine hK.out _ _ ?_ (fun hHeld => ?_)
  · exact Keeps.trans (by assumption) (by assumption)
  clear hK K
  try simp only [Act.put, List.setIfInBounds_toArray, List.set_cons_zero, List.set_cons_succ]
  refine wpAnyH_take (i := 5) (v := ?_) (by simp only [List.getElem?_toArray, List.getElem?_cons_succ, List.getElem?_cons_zero]; rfl) (by kernel_rfl) (by kernel_rfl) (by kernel_rfl) (by exact fun _ _ _ h => h) (Or.inl ⟨by rfl, ?_⟩) (by assumption) ?_
  rotate_left
  · (intro w hSw; (try dsimp only at hSw); go_simp; try (with_reducible rfl))
  try simp only [Act.put, List.setIfInBounds_toArray, List.set_cons_zero, List.set_cons_succ]
  refine wpAnyH_done (by kernel_rfl) ?_ _
  have K3 : Keeps W w3 := by assumption
  go_wp2_with fail
  refine wp_region_held_drew (S := (fun w' => Keeps W w')) (by kernel_rfl) ?_ (fun hHeld => ?_)
  · exact K3.drew
  refine wpAnyH_take (i := 0) (v := ?_) (by simp only [List.getElem?_toArray, List.getElem?_cons_zero]; rfl) (by kernel_rfl) (by kernel_rfl) (by kernel_rfl) (by exact fun _ _ _ h => h) (Or.inl ⟨by rfl, ?_⟩) (by assumption) ?_
  rotate_left
  · (intro w hSw; (try dsimp only at hSw); go_simp; try (with_reducible rfl))
  try simp only [Act.put, List.setIfInBounds_toArray, List.set_cons_zero, List.set_cons_succ]
  refine wpAnyH_take (i := 2) (v := ?_) (by simp only [List.getElem?_toArray, List.getElem?_cons_succ, List.getElem?_cons_zero]; rfl) (by kernel_rfl) (by kernel_rfl) (by kernel_rfl) (by exact fun _ _ _ h => h) (Or.inl ⟨by rfl, ?_⟩) (by assumption) ?_
  rotate_left
  · (intro w hSw; (try dsimp only at hSw); go_simp; try (with_reducible rfl))
  try simp only [Act.put, List.setIfInBounds_toArray, List.set_cons_zero, List.set_cons_succ]
  refine wpAnyH_ready (rs := [1]) (by kernel_rfl) (by simp) ?_
  refine AllReadyH.cons (by simp only [List.getElem?_toArray, List.getElem?_cons_succ, List.getElem?_cons_zero]; rfl) (fun K hK => ?_) AllReadyH.nil
  go_simp
  first
    | (go_at_call 14; refine (HH.out a b _).mono ?_; rintro e w6 ⟨rfl, k6⟩; rw [Hg.out])
    | (go_at_call 13; refine (toTask_any _ _).mono ?_; rintro e w4 ⟨rfl, k4⟩)
  try go_wp2_with fail
  refine hK.out _ _ ?_ (fun hHeld => ?_)
  · exact Keeps.trans (by assumption) (by assumption)
  clear hK K
  try simp only [Act.put, List.setIfInBounds_toArray, List.set_cons_zero, List.set_cons_succ]
  refine wpAnyH_ready (rs := [3]) (by kernel_rfl) (by simp) ?_
  refine AllReadyH.cons (by simp only [List.getElem?_toArray, List.getElem?_cons_succ, List.getElem?_cons_zero]; rfl) (fun K hK => ?_) AllReadyH.nil
  go_simp
  first
    | (go_at_call 14; refine (HH.out a b _).mono ?_; rintro e w6 ⟨rfl, k6⟩; rw [Hg.out])
    | (go_at_call 13; refine (toTask_any _ _).mono ?_; rintro e w4 ⟨rfl, k4⟩)
  try go_wp2_with fail
  refine hK.out _ _ ?_ (fun hHeld => ?_)
  · exact Keeps.trans (by assumption) (by assumption)
  clear hK K
  try simp only [Act.put, List.setIfInBounds_toArray, List.set_cons_zero, List.set_cons_succ]
  refine wpAnyH_ready (rs := [4]) (by kernel_rfl) (by simp) ?_
  refine AllReadyH.cons (by simp only [List.getElem?_toArray, List.getElem?_cons_succ, List.getElem?_cons_zero]; rfl) (fun K hK => ?_) AllReadyH.nil
  go_simp
  first
    | (go_at_call 14; refine (HH.out a b _).mono ?_; rintro e w6 ⟨rfl, k6⟩; rw [Hg.out])
    | (go_at_call 13; refine (toTask_any _ _).mono ?_; rintro e w4 ⟨rfl, k4⟩)
  try go_wp2_with fail
  refine hK.out _ _ ?_ (fun hHeld => ?_)
  · exact Keeps.trans (by assumption) (by assumption)
  clear hK K
  try simp only [Act.put, List.setIfInBounds_toArray, List.set_cons_zero, List.set_cons_succ]
  refine wpAnyH_take (i := 5) (v := ?_) (by simp only [List.getElem?_toArray, List.getElem?_cons_succ, List.getElem?_cons_zero]; rfl) (by kernel_rfl) (by kernel_rfl) (by kernel_rfl) (by exact fun _ _ _ h => h) (Or.inl ⟨by rfl, ?_⟩) (by assumption) ?_
  rotate_left
  · (intro w hSw; (try dsimp only at hSw); go_simp; try (with_reducible rfl))
  try simp only [Act.put, List.setIfInBounds_toArray, List.set_cons_zero, List.set_cons_succ]
  refine wpAnyH_done (by kernel_rfl) ?_ _
  have K6 : Keeps W w6 := by assumption
  go_wp2
  go_ret
  exact ⟨rfl, kW.trans K6⟩

end Go.Proofs.Ytndjifbjlhmmiaa
