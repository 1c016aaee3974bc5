/-
  The walks of the exact laws of chapter 6, over contracts of the program's functions.
-/
import Derived.Test.YtdndgacaohmdnaaFairList
import Derived.Test.YtdndgacaohmdnaaFairSpendS
import Derived.Test.YtdndgacaohmdnaaFairWakeS
import Derived.Test.YtdndgacaohmdnaaFairMoveS
import Derived.Test.YtdndgacaohmdnaaTaskLaws
namespace Go.Proofs.Ytdndgacaohmdnaa
open Go.RowKit
attribute [local go_sem] Keeps.refl Keeps.alloc Keeps.drew Keeps.drewN

/-- What the program's functions are held to. -/
def SaysFairBefore : Prop := ∀ (a b : Tsk) (w : World), Calls Try.prog 19 #[tk a, tk b] w fun e w' => e = .returned (.bool (fairBefB a b)) ∧ Keeps w w'
def SaysFairSpend : Prop := ∀ (t : Tsk) (w : World), Calls Try.prog 25 #[tk t] w fun e w' => e = .returned (tk (fairSpendT t)) ∧ Keeps w w'
def SaysFairWake : Prop := ∀ (t : Tsk) (floor : Int) (w : World), Calls Try.prog 26 #[tk t, .int .i64 floor] w fun e w' => e = .returned (tk (fairWakeT t floor)) ∧ Keeps w w'
def SaysFairMove : Prop := ∀ (t : Tsk) (cpu frm dst : Int) (w : World), Calls Try.prog 37 #[tk t, .int .i64 cpu, .int .i64 frm, .int .i64 dst] w fun e w' => e = .returned (tk (fairMoveT t cpu frm dst)) ∧ Keeps w w'
def SaysFairFloor : Prop := ∀ (a : Option Addr) (cap : Nat) (ts : List Tsk) (floor : Int) (w : World), ts.length ≤ maxLen → Ts w a ts → Calls Try.prog 32 #[.slice a ts.length cap, .int .i64 floor] w fun e w' => e = .returned (.int .i64 (fairFloorI ts floor)) ∧ Keeps w w'
def SaysFairSpread : Prop := ∀ (a : Option Addr) (cap : Nat) (ts : List Tsk) (w : World), ts.length ≤ maxLen → Ts w a ts → Calls Try.prog 33 #[.slice a ts.length cap] w fun e w' => e = .returned (.int .i64 (fairSpreadI ts)) ∧ Keeps w w'

set_option maxRecDepth 100000 in
set_option maxHeartbeats 1000000 in
theorem exactFairBefore_walk (H : SaysFairBefore) (a b : Tsk) (w : World) :
    Calls Try.prog 7 #[tk a, tk b] w fun e w' => e = .returned (.bool true) ∧ Keeps w w' := by
  obtain ⟨g, Hg⟩ : ∃ g, Hid (fairBefB a b = g) := ⟨_, rfl⟩
  have hne : (g != g) = false := by simp
  have HH : Hid SaysFairBefore := H
  clear H
  go_enter Try.func7, Try.ntmps7
  go_wp2_with fail
  have kW : Keeps w ((w.alloc (.cells (tc a) 43)).alloc (.cells (tc b) 43)) := ((Keeps.refl w).alloc _).alloc _
  have r1 : ∀ w', Keeps ((w.alloc (.cells (tc a) 43)).alloc (.cells (tc b) 43)) w' → ∀ k, w'.cell? ⟨w.heap.size, k, none⟩ = (tc a)[k]? := fun w' h => (((Blk.new w (tc a) 43).alloc _).keeps h).cells
  have r2 : ∀ w', Keeps ((w.alloc (.cells (tc a) 43)).alloc (.cells (tc b) 43)) w' → ∀ k, w'.cell? ⟨w.heap.size + 1, k, none⟩ = (tc b)[k]? := fun w' h => by
    have := (Blk.new (w.alloc (.cells (tc a) 43)) (tc b) 43).keeps h
    simp only [World.size_alloc] at this
    exact this.cells
  generalize (w.alloc (.cells (tc a) 43)).alloc (.cells (tc b) 43) = W at *
  have K0 := Keeps.refl W
  refine wp_region_held_drew (S := (fun w' => Keeps W w')) (by kernel_rfl) ?_ (fun hHeld => ?_)
  · exact K0.drew
  refine wpAnyH_take (i := 0) (v := ?_) (by simp only [List.getElem?_toArray, List.getElem?_cons_zero]; rfl) (by kernel_rfl) (by kernel_rfl) (by kernel_rfl) (by exact fun _ _ _ h => h) (Or.inl ⟨by rfl, ?_⟩) (by assumption) ?_
  rotate_left
  · (intro w hSw; (try dsimp only at hSw); go_simp; try (with_reducible rfl))
  try simp only [Act.put, List.setIfInBounds_toArray, List.set_cons_zero, List.set_cons_succ]
  refine wpAnyH_take (i := 2) (v := ?_) (by simp only [List.getElem?_toArray, List.getElem?_cons_succ, List.getElem?_cons_zero]; rfl) (by kernel_rfl) (by kernel_rfl) (by kernel_rfl) (by exact fun _ _ _ h => h) (Or.inl ⟨by rfl, ?_⟩) (by assumption) ?_
  rotate_left
  · (intro w hSw; (try dsimp only at hSw); go_simp; try (with_reducible rfl))
  try simp only [Act.put, List.setIfInBounds_toArray, List.set_cons_zero, List.set_cons_succ]
  refine wpAnyH_ready (rs := [1]) (by kernel_rfl) (by simp) ?_
  refine AllReadyH.cons (by simp only [List.getElem?_toArray, List.getElem?_cons_succ, List.getElem?_cons_zero]; rfl) (fun K hK => ?_) AllReadyH.nil
  go_simp
  first
    | (go_at_call 22; refine (specFairBefore_any a b _).mono ?_; rintro e w3 ⟨rfl, k3⟩; rw [Hg.out])
    | (go_at_call 39; refine (toTask_any _ _).mono ?_; rintro e w1 ⟨rfl, k1⟩)
  try go_wp2_with fail
  refine hK.out _ _ ?_ (fun hHeld => ?_)
  · exact Keeps.trans (by assumption) (by assumption)
  clear hK K
  try simp only [Act.put, List.setIfInBounds_toArray, List.set_cons_zero, List.set_cons_succ]
  refine wpAnyH_ready (rs := [3]) (by kernel_rfl) (by simp) ?_
  refine AllReadyH.cons (by simp only [List.getElem?_toArray, List.getElem?_cons_succ, List.getElem?_cons_zero]; rfl) (fun K hK => ?_) AllReadyH.nil
  go_simp
  first
    | (go_at_call 22; refine (specFairBefore_any a b _).mono ?_; rintro e w3 ⟨rfl, k3⟩; rw [Hg.out])
    | (go_at_call 39; refine (toTask_any _ _).mono ?_; rintro e w1 ⟨rfl, k1⟩)
  try go_wp2_with fail
  refine hK.out _ _ ?_ (fun hHeld => ?_)
  · exact Keeps.trans (by assumption) (by assumption)
  clear hK K
  try simp only [Act.put, List.setIfInBounds_toArray, List.set_cons_zero, List.set_cons_succ]
  refine wpAnyH_ready (rs := [4]) (by kernel_rfl) (by simp) ?_
  refine AllReadyH.cons (by simp only [List.getElem?_toArray, List.getElem?_cons_succ, List.getElem?_cons_zero]; rfl) (fun K hK => ?_) AllReadyH.nil
  go_simp
  first
    | (go_at_call 22; refine (specFairBefore_any a b _).mono ?_; rintro e w3 ⟨rfl, k3⟩; rw [Hg.out])
    | (go_at_call 39; refine (toTask_any _ _).mono ?_; rintro e w1 ⟨rfl, k1⟩)
  try go_wp2_with fail
  refine hK.out _ _ ?_ (fun hHeld => ?_)
  · exact Keeps.trans (by assumption) (by assumption)
  clear hK K
  try simp only [Act.put, List.setIfInBounds_toArray, List.set_cons_zero, List.set_cons_succ]
  refine wpAnyH_take (i := 5) (v := ?_) (by simp only [List.getElem?_toArray, List.getElem?_cons_succ, List.getElem?_cons_zero]; rfl) (by kernel_rfl) (by kernel_rfl) (by kernel_rfl) (by exact fun _ _ _ h => h) (Or.inl ⟨by rfl, ?_⟩) (by assumption) ?_
  rotate_left
  · (intro w hSw; (try dsimp only at hSw); go_simp; try (with_reducible rfl))
  try simp only [Act.put, List.setIfInBounds_toArray, List.set_cons_zero, List.set_cons_succ]
  refine wpAnyH_done (by kernel_rfl) ?_ _
  have K3 : Keeps W w3 := by assumption
  go_wp2_with fail
  refine wp_region_held_drew (S := (fun w' => Keeps W w')) (by kernel_rfl) ?_ (fun hHeld => ?_)
  · exact K3.drew
  refine wpAnyH_take (i := 0) (v := ?_) (by simp only [List.getElem?_toArray, List.getElem?_cons_zero]; rfl) (by kernel_rfl) (by kernel_rfl) (by kernel_rfl) (by exact fun _ _ _ h => h) (Or.inl ⟨by rfl, ?_⟩) (by assumption) ?_
  rotate_left
  · (intro w hSw; (try dsimp only at hSw); go_simp; try (with_reducible rfl))
  try simp only [Act.put, List.setIfInBounds_toArray, List.set_cons_zero, List.set_cons_succ]
  refine wpAnyH_take (i := 2) (v := ?_) (by simp only [List.getElem?_toArray, List.getElem?_cons_succ, List.getElem?_cons_zero]; rfl) (by kernel_rfl) (by kernel_rfl) (by kernel_rfl) (by exact fun _ _ _ h => h) (Or.inl ⟨by rfl, ?_⟩) (by assumption) ?_
  rotate_left
  · (intro w hSw; (try dsimp only at hSw); go_simp; try (with_reducible rfl))
  try simp only [Act.put, List.setIfInBounds_toArray, List.set_cons_zero, List.set_cons_succ]
  refine wpAnyH_ready (rs := [1]) (by kernel_rfl) (by simp) ?_
  refine AllReadyH.cons (by simp only [List.getElem?_toArray, List.getElem?_cons_succ, List.getElem?_cons_zero]; rfl) (fun K hK => ?_) AllReadyH.nil
  go_simp
  first
    | (go_at_call 19; refine (HH.out a b _).mono ?_; rintro e w6 ⟨rfl, k6⟩; rw [Hg.out])
    | (go_at_call 39; refine (toTask_any _ _).mono ?_; rintro e w4 ⟨rfl, k4⟩)
  try go_wp2_with fail
  refine hK.out _ _ ?_ (fun hHeld => ?_)
  · exact Keeps.trans (by assumption) (by assumption)
  clear hK K
  try simp only [Act.put, List.setIfInBounds_toArray, List.set_cons_zero, List.set_cons_succ]
  refine wpAnyH_ready (rs := [3]) (by kernel_rfl) (by simp) ?_
  refine AllReadyH.cons (by simp only [List.getElem?_toArray, List.getElem?_cons_succ, List.getElem?_cons_zero]; rfl) (fun K hK => ?_) AllReadyH.nil
  go_simp
  first
    | (go_at_call 19; refine (HH.out a b _).mono ?_; rintro e w6 ⟨rfl, k6⟩; rw [Hg.out])
    | (go_at_call 39; refine (toTask_any _ _).mono ?_; rintro e w4 ⟨rfl, k4⟩)
  try go_wp2_with fail
  refine hK.out _ _ ?_ (fun hHeld => ?_)
  · exact Keeps.trans (by assumption) (by assumption)
  clear hK K
  try simp only [Act.put, List.setIfInBounds_toArray, List.set_cons_zero, List.set_cons_succ]
  refine wpAnyH_ready (rs := [4]) (by kernel_rfl) (by simp) ?_
  refine AllReadyH.cons (by simp only [List.getElem?_toArray, List.getElem?_cons_succ, List.getElem?_cons_zero]; rfl) (fun K hK => ?_) AllReadyH.nil
  go_simp
  first
    | (go_at_call 19; refine (HH.out a b _).mono ?_; rintro e w6 ⟨rfl, k6⟩; rw [Hg.out])
    | (go_at_call 39; refine (toTask_any _ _).mono ?_; rintro e w4 ⟨rfl, k4⟩)
  try go_wp2_with fail
  refine hK.out _ _ ?_ (fun hHeld => ?_)
  · exact Keeps.trans (by assumption) (by assumption)
  clear hK K
  try simp only [Act.put, List.setIfInBounds_toArray, List.set_cons_zero, List.set_cons_succ]
  refine wpAnyH_take (i := 5) (v := ?_) (by simp only [List.getElem?_toArray, List.getElem?_cons_succ, List.getElem?_cons_zero]; rfl) (by kernel_rfl) (by kernel_rfl) (by kernel_rfl) (by exact fun _ _ _ h => h) (Or.inl ⟨by rfl, ?_⟩) (by assumption) ?_
  rotate_left
  · (intro w hSw; (try dsimp only at hSw); go_simp; try (with_reducible rfl))
  try simp only [Act.put, List.setIfInBounds_toArray, List.set_cons_zero, List.set_cons_succ]
  refine wpAnyH_done (by kernel_rfl) ?_ _
  have K6 : Keeps W w6 := by assumption
  go_wp2
  go_ret
  exact ⟨rfl, kW.trans K6⟩


set_option maxRecDepth 100000 in
set_option maxHeartbeats 1000000 in
theorem exactFairSpend_walk (H : SaysFairSpend) (t : Tsk) (w : World) :
    Calls Try.prog 8 #[tk t] w fun e w' => e = .returned (.bool true) ∧ Keeps w w' := by
  obtain ⟨N, HN⟩ : ∃ N, Hid (fairSpendT t = N) := ⟨_, rfl⟩
  have HH : Hid SaysFairSpend := H
  clear H
  go_enter Try.func8, Try.ntmps8
  go_wp2_with fail
  have kW : Keeps w (w.alloc (.cells (tc t) 43)) := (Keeps.refl _).alloc _
  have r1 : ∀ w', Keeps (w.alloc (.cells (tc t) 43)) w' → ∀ k, w'.cell? ⟨w.heap.size, k, none⟩ = (tc t)[k]? := fun w' h => ((Blk.new w (tc t) 43).keeps h).cells
  generalize w.alloc (.cells (tc t) 43) = W at *
  refine (toTask_any t _).mono ?_
  rintro e w1 ⟨rfl, b1⟩
  have k1 : Keeps W w1 := b1
  go_wp2_with fail
  refine (specFairSpend_any t _).mono ?_
  rintro e w2 ⟨rfl, b2⟩
  have k2 : Keeps W w2 := k1.trans b2
  rw [HN.out]
  go_wp2_with fail
  have K2 : Keeps W (w2.alloc (.cells (tc N) 25)) := k2.alloc _
  have r2 : ∀ w', Keeps (w2.alloc (.cells (tc N) 25)) w' → ∀ k, w'.cell? ⟨w2.heap.size, k, none⟩ = (tc N)[k]? := fun w' h => ((Blk.new w2 (tc N) 25).keeps h).cells
  clear k1 k2 b1 b2 r1
  generalize w2.alloc (.cells (tc N) 25) = W2 at *
  generalize w2.heap.size = s2 at *
  refine (toTask_any t _).mono ?_
  rintro e w3 ⟨rfl, k3⟩
  go_wp2_with fail
  refine (HH.out t _).mono ?_
  rintro e w4 ⟨rfl, b4⟩
  have k4 : Keeps W2 w4 := k3.trans b4
  rw [HN.out]
  have r3 : ∀ w', Keeps (w4.alloc (.cells (tc N) 25)) w' → ∀ k, w'.cell? ⟨w4.heap.size, k, none⟩ = (tc N)[k]? := fun w' h => ((Blk.new w4 (tc N) 25).keeps h).cells
  have r4 : ∀ w', Keeps (w4.alloc (.cells (tc N) 25)) w' → ∀ k, w'.cell? ⟨s2, k, none⟩ = (tc N)[k]? := fun w' h => r2 w' ((k4.alloc _).trans h)
  have K4 : Keeps w (w4.alloc (.cells (tc N) 25)) := kW.trans (K2.trans (k4.alloc _))
  clear r2 k3 k4 b4 K2
  go_wp2_with (go_at_call 40; refine (eqTask_same N _).mono ?_; rintro e w5 ⟨rfl, k5⟩)
  go_ret
  exact ⟨rfl, K4.trans k5⟩


set_option maxRecDepth 100000 in
set_option maxHeartbeats 1000000 in
theorem exactFairWake_walk (H : SaysFairWake) (t : Tsk) (floor : Int) (w : World) :
    Calls Try.prog 9 #[tk t, .int .i64 floor] w fun e w' => e = .returned (.bool true) ∧ Keeps w w' := by
  obtain ⟨N, HN⟩ : ∃ N, Hid (fairWakeT t floor = N) := ⟨_, rfl⟩
  have HH : Hid SaysFairWake := H
  clear H
  go_enter Try.func9, Try.ntmps9
  go_wp2_with fail
  have kW : Keeps w (w.alloc (.cells (tc t) 43)) := (Keeps.refl _).alloc _
  have r1 : ∀ w', Keeps (w.alloc (.cells (tc t) 43)) w' → ∀ k, w'.cell? ⟨w.heap.size, k, none⟩ = (tc t)[k]? := fun w' h => ((Blk.new w (tc t) 43).keeps h).cells
  generalize w.alloc (.cells (tc t) 43) = W at *
  refine (toTask_any t _).mono ?_
  rintro e w1 ⟨rfl, b1⟩
  have k1 : Keeps W w1 := b1
  go_wp2_with fail
  refine (specFairWake_any t floor _).mono ?_
  rintro e w2 ⟨rfl, b2⟩
  have k2 : Keeps W w2 := k1.trans b2
  rw [HN.out]
  go_wp2_with fail
  have K2 : Keeps W (w2.alloc (.cells (tc N) 25)) := k2.alloc _
  have r2 : ∀ w', Keeps (w2.alloc (.cells (tc N) 25)) w' → ∀ k, w'.cell? ⟨w2.heap.size, k, none⟩ = (tc N)[k]? := fun w' h => ((Blk.new w2 (tc N) 25).keeps h).cells
  clear k1 k2 b1 b2 r1
  generalize w2.alloc (.cells (tc N) 25) = W2 at *
  generalize w2.heap.size = s2 at *
  refine (toTask_any t _).mono ?_
  rintro e w3 ⟨rfl, k3⟩
  go_wp2_with fail
  refine (HH.out t floor _).mono ?_
  rintro e w4 ⟨rfl, b4⟩
  have k4 : Keeps W2 w4 := k3.trans b4
  rw [HN.out]
  have r3 : ∀ w', Keeps (w4.alloc (.cells (tc N) 25)) w' → ∀ k, w'.cell? ⟨w4.heap.size, k, none⟩ = (tc N)[k]? := fun w' h => ((Blk.new w4 (tc N) 25).keeps h).cells
  have r4 : ∀ w', Keeps (w4.alloc (.cells (tc N) 25)) w' → ∀ k, w'.cell? ⟨s2, k, none⟩ = (tc N)[k]? := fun w' h => r2 w' ((k4.alloc _).trans h)
  have K4 : Keeps w (w4.alloc (.cells (tc N) 25)) := kW.trans (K2.trans (k4.alloc _))
  clear r2 k3 k4 b4 K2
  go_wp2_with (go_at_call 40; refine (eqTask_same N _).mono ?_; rintro e w5 ⟨rfl, k5⟩)
  go_ret
  exact ⟨rfl, K4.trans k5⟩


set_option maxRecDepth 100000 in
set_option maxHeartbeats 1000000 in
theorem exactFairMove_walk (H : SaysFairMove) (t : Tsk) (cpu frm dst : Int) (w : World) :
    Calls Try.prog 11 #[tk t, .int .i64 cpu, .int .i64 frm, .int .i64 dst] w fun e w' => e = .returned (.bool true) ∧ Keeps w w' := by
  obtain ⟨N, HN⟩ : ∃ N, Hid (fairMoveT t cpu frm dst = N) := ⟨_, rfl⟩
  have HH : Hid SaysFairMove := H
  clear H
  go_enter Try.func11, Try.ntmps11
  go_wp2_with fail
  have kW : Keeps w (w.alloc (.cells (tc t) 43)) := (Keeps.refl _).alloc _
  have r1 : ∀ w', Keeps (w.alloc (.cells (tc t) 43)) w' → ∀ k, w'.cell? ⟨w.heap.size, k, none⟩ = (tc t)[k]? := fun w' h => ((Blk.new w (tc t) 43).keeps h).cells
  generalize w.alloc (.cells (tc t) 43) = W at *
  refine (toTask_any t _).mono ?_
  rintro e w1 ⟨rfl, b1⟩
  have k1 : Keeps W w1 := b1
  go_wp2_with fail
  refine (specFairMove_any t cpu frm dst _).mono ?_
  rintro e w2 ⟨rfl, b2⟩
  have k2 : Keeps W w2 := k1.trans b2
  rw [HN.out]
  go_wp2_with fail
  have K2 : Keeps W (w2.alloc (.cells (tc N) 25)) := k2.alloc _
  have r2 : ∀ w', Keeps (w2.alloc (.cells (tc N) 25)) w' → ∀ k, w'.cell? ⟨w2.heap.size, k, none⟩ = (tc N)[k]? := fun w' h => ((Blk.new w2 (tc N) 25).keeps h).cells
  clear k1 k2 b1 b2 r1
  generalize w2.alloc (.cells (tc N) 25) = W2 at *
  generalize w2.heap.size = s2 at *
  refine (toTask_any t _).mono ?_
  rintro e w3 ⟨rfl, k3⟩
  go_wp2_with fail
  refine (HH.out t cpu frm dst _).mono ?_
  rintro e w4 ⟨rfl, b4⟩
  have k4 : Keeps W2 w4 := k3.trans b4
  rw [HN.out]
  have r3 : ∀ w', Keeps (w4.alloc (.cells (tc N) 25)) w' → ∀ k, w'.cell? ⟨w4.heap.size, k, none⟩ = (tc N)[k]? := fun w' h => ((Blk.new w4 (tc N) 25).keeps h).cells
  have r4 : ∀ w', Keeps (w4.alloc (.cells (tc N) 25)) w' → ∀ k, w'.cell? ⟨s2, k, none⟩ = (tc N)[k]? := fun w' h => r2 w' ((k4.alloc _).trans h)
  have K4 : Keeps w (w4.alloc (.cells (tc N) 25)) := kW.trans (K2.trans (k4.alloc _))
  clear r2 k3 k4 b4 K2
  go_wp2_with (go_at_call 40; refine (eqTask_same N _).mono ?_; rintro e w5 ⟨rfl, k5⟩)
  go_ret
  exact ⟨rfl, K4.trans k5⟩


set_option maxRecDepth 100000 in
set_option maxHeartbeats 1000000 in
theorem exactFairFloor_walk (H : SaysFairFloor) (a : Option Addr) (cap : Nat) (ts : List Tsk) (floor : Int) (w : World) (hl : ts.length ≤ maxLen) (hs : Ts w a ts) :
    Calls Try.prog 10 #[.slice a ts.length cap, .int .i64 floor] w fun e w' => e = .returned (.bool true) ∧ Keeps w w' := by
  have HH : Hid SaysFairFloor := H
  clear H
  by_cases hn : ts.length ≤ 1048576
  · have hl' : ts.length ≤ maxLen := hl
    unfold maxLen at hl
    have hni : (ts.length : Int) ≤ 1048576 := by omega
    have hsz : Hid ((if (ts.length : Int) ≤ 1048576 then (1048576 : Int) - ts.length else -1) = 1048576 - ts.length) := if_pos hni
    have hnn : ((1048576 : Int) - (ts.length : Int) < 0) = False := by simp; omega
    obtain ⟨g, Hg⟩ : ∃ g, Hid (fairFloorI ts floor = g) := ⟨_, rfl⟩
    have n0 : (g != g) = false := by simp
    go_enter Try.func10, Try.ntmps10
    go_wp2_with fail
    refine (szTaskS_any _ _ _ _ _ hl (by decide) (by decide)).mono ?_
    rintro e w1 ⟨rfl, rfl⟩
    rw [hsz.out]
    go_wp2_with fail
    refine (toTaskS_any _ _ ts _ hn hs).mono ?_
    rintro e w1 ⟨b1, rfl, hs1, _, _, k1⟩
    go_wp2_with fail
    refine (specFairFloor_any _ _ ts _ _ hl' hs1).mono ?_
    rintro e w2 ⟨rfl, k2⟩
    rw [Hg.out]
    go_wp2_with fail
    refine (toTaskS_any _ _ ts _ hn (hs.keeps (k1.trans k2))).mono ?_
    rintro e w3 ⟨b3, rfl, hs3, _, _, k3⟩
    go_wp2_with fail
    refine (HH.out _ _ ts _ _ hl' hs3).mono ?_
    rintro e w4 ⟨rfl, k4⟩
    rw [Hg.out]
    go_wp2_with fail
    refine (toTaskS_any _ _ ts _ hn (hs.keeps ((k1.trans k2).trans (k3.trans k4)))).mono ?_
    rintro e w5 ⟨b5, rfl, hs5, _, _, k5⟩
    go_wp2_with fail
    refine (eqTaskS_same _ _ _ _ ts _ hl' (hs3.keeps (k4.trans k5)) hs5).mono ?_
    rintro e w6 ⟨rfl, k6⟩
    go_wp2
    go_ret
    exact ⟨rfl, (((((k1.trans k2).trans k3).trans k4).trans k5).trans k6)⟩
  · unfold maxLen at hl
    have hsz : Hid ((if (ts.length : Int) ≤ 1048576 then (1048576 : Int) - ts.length else -1) = -1) := if_neg (by omega)
    go_enter Try.func10, Try.ntmps10
    go_wp2_with (go_at_call 41; refine (szTaskS_any _ _ _ _ _ hl (by decide) (by decide)).mono ?_; rintro e w1 ⟨rfl, rfl⟩; rw [hsz.out])
    go_ret
    exact ⟨rfl, Keeps.refl _⟩


set_option maxRecDepth 100000 in
set_option maxHeartbeats 1000000 in
theorem exactFairSpread_walk (H : SaysFairSpread) (a : Option Addr) (cap : Nat) (ts : List Tsk) (w : World) (hl : ts.length ≤ maxLen) (hs : Ts w a ts) :
    Calls Try.prog 12 #[.slice a ts.length cap] w fun e w' => e = .returned (.bool true) ∧ Keeps w w' := by
  have HH : Hid SaysFairSpread := H
  clear H
  by_cases hn : ts.length ≤ 1048576
  · have hl' : ts.length ≤ maxLen := hl
    unfold maxLen at hl
    have hni : (ts.length : Int) ≤ 1048576 := by omega
    have hsz : Hid ((if (ts.length : Int) ≤ 1048576 then (1048576 : Int) - ts.length else -1) = 1048576 - ts.length) := if_pos hni
    have hnn : ((1048576 : Int) - (ts.length : Int) < 0) = False := by simp; omega
    obtain ⟨g, Hg⟩ : ∃ g, Hid (fairSpreadI ts = g) := ⟨_, rfl⟩
    have n0 : (g != g) = false := by simp
    go_enter Try.func12, Try.ntmps12
    go_wp2_with fail
    refine (szTaskS_any _ _ _ _ _ hl (by decide) (by decide)).mono ?_
    rintro e w1 ⟨rfl, rfl⟩
    rw [hsz.out]
    go_wp2_with fail
    refine (toTaskS_any _ _ ts _ hn hs).mono ?_
    rintro e w1 ⟨b1, rfl, hs1, _, _, k1⟩
    go_wp2_with fail
    refine (specFairSpread_any _ _ ts _ hl' hs1).mono ?_
    rintro e w2 ⟨rfl, k2⟩
    rw [Hg.out]
    go_wp2_with fail
    refine (toTaskS_any _ _ ts _ hn (hs.keeps (k1.trans k2))).mono ?_
    rintro e w3 ⟨b3, rfl, hs3, _, _, k3⟩
    go_wp2_with fail
    refine (HH.out _ _ ts _ hl' hs3).mono ?_
    rintro e w4 ⟨rfl, k4⟩
    rw [Hg.out]
    go_wp2_with fail
    refine (toTaskS_any _ _ ts _ hn (hs.keeps ((k1.trans k2).trans (k3.trans k4)))).mono ?_
    rintro e w5 ⟨b5, rfl, hs5, _, _, k5⟩
    go_wp2_with fail
    refine (eqTaskS_same _ _ _ _ ts _ hl' (hs3.keeps (k4.trans k5)) hs5).mono ?_
    rintro e w6 ⟨rfl, k6⟩
    go_wp2
    go_ret
    exact ⟨rfl, (((((k1.trans k2).trans k3).trans k4).trans k5).trans k6)⟩
  · unfold maxLen at hl
    have hsz : Hid ((if (ts.length : Int) ≤ 1048576 then (1048576 : Int) - ts.length else -1) = -1) := if_neg (by omega)
    go_enter Try.func12, Try.ntmps12
    go_wp2_with (go_at_call 41; refine (szTaskS_any _ _ _ _ _ hl (by decide) (by decide)).mono ?_; rintro e w1 ⟨rfl, rfl⟩; rw [hsz.out])
    go_ret
    exact ⟨rfl, Keeps.refl _⟩
end Go.Proofs.Ytdndgacaohmdnaa
