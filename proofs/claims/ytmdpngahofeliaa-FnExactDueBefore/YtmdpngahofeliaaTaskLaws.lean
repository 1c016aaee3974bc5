/-
  The walks of the exact laws over one task, over contracts of the program's functions.
-/
import Derived.Test.YtmdpngahofeliaaTaskNew
namespace Go.Proofs.Ytmdpngahofeliaa
open Go.RowKit
attribute [local go_sem] Keeps.refl Keeps.alloc Keeps.drew Keeps.drewN

/-- What the program's functions are held to. -/
def SaysTaskOk : Prop := ∀ (t : Tsk) (w : World), Calls Try.prog 22 #[tk t] w fun e w' => e = .returned (.bool (taskB t)) ∧ Keeps w w'
def SaysNewDue : Prop := ∀ (no cpu q p now : Int) (w : World), Calls Try.prog 24 #[.int .i64 no, .int .i64 cpu, .int .i64 q, .int .i64 p, .int .i64 now] w fun e w' => e = .returned (.tuple #[tk (dueNewT no cpu q p now), .bool (dueNewB no cpu q p now)]) ∧ Keeps w w'
def SaysNewFixed : Prop := ∀ (no cpu prio round seq : Int) (w : World), Calls Try.prog 27 #[.int .i64 no, .int .i64 cpu, .int .i64 prio, .int .i64 round, .int .i64 seq] w fun e w' => e = .returned (.tuple #[tk (newT (fixT no cpu prio round seq)), .bool (taskB (fixT no cpu prio round seq))]) ∧ Keeps w w'
def SaysNewFair : Prop := ∀ (no cpu nice v : Int) (w : World), Calls Try.prog 29 #[.int .i64 no, .int .i64 cpu, .int .i64 nice, .int .i64 v] w fun e w' => e = .returned (.tuple #[tk (newT (fairT no cpu nice v)), .bool (taskB (fairT no cpu nice v))]) ∧ Keeps w w'

set_option maxHeartbeats 1000000 in
theorem exactTaskOk_walk (H : SaysTaskOk) (t : Tsk) (w : World) :
    Calls Try.prog 3 #[tk t] w fun e w' => e = .returned (.bool true) ∧ Keeps w w' := by
  obtain ⟨g, Hg⟩ : ∃ g, Hid (taskB t = g) := ⟨_, rfl⟩
  have hne : (g != g) = false := by simp
  have HH : Hid SaysTaskOk := H
  clear H
  go_enter Try.func3, Try.ntmps3
  go_wp2_with fail
  have kW : Keeps w (w.alloc (.cells (tc t) 23)) := (Keeps.refl _).alloc _
  have r1 : ∀ w', Keeps (w.alloc (.cells (tc t) 23)) w' → ∀ k, w'.cell? ⟨w.heap.size, k, none⟩ = (tc t)[k]? := fun w' h => ((Blk.new w (tc t) 23).keeps h).cells
  generalize w.alloc (.cells (tc t) 23) = W at *
  refine (toTask_any t _).mono ?_
  rintro e w1 ⟨rfl, b1⟩
  have k1 : Keeps W w1 := b1
  go_wp2_with fail
  refine (specTaskOk_any t _).mono ?_
  rintro e w2 ⟨rfl, b2⟩
  have k2 : Keeps W w2 := k1.trans b2
  rw [Hg.out]
  go_wp2_with fail
  refine (toTask_any t _).mono ?_
  rintro e w3 ⟨rfl, b3⟩
  have k3 : Keeps W w3 := k2.trans b3
  go_wp2_with fail
  refine (HH.out t _).mono ?_
  rintro e w4 ⟨rfl, b4⟩
  have k4 : Keeps W w4 := k3.trans b4
  rw [Hg.out]
  go_wp2
  go_ret
  exact ⟨rfl, kW.trans k4⟩

set_option maxHeartbeats 1000000 in
theorem exactNewDue_walk (H : SaysNewDue) (no cpu q p now : Int) (w : World) :
    Calls Try.prog 4 #[.int .i64 no, .int .i64 cpu, .int .i64 q, .int .i64 p, .int .i64 now] w fun e w' => e = .returned (.bool true) ∧ Keeps w w' := by
  obtain ⟨g, Hg⟩ : ∃ g, Hid (dueNewB no cpu q p now = g) := ⟨_, rfl⟩
  obtain ⟨N, HN⟩ : ∃ N, Hid (dueNewT no cpu q p now = N) := ⟨_, rfl⟩
  have hne : (g != g) = false := by simp
  have HH : Hid SaysNewDue := H
  clear H
  go_enter Try.func4, Try.ntmps4
  go_wp2_with fail
  refine (specNewDue_any _ _ _ _ _ _).mono ?_
  rintro e w1 ⟨rfl, k1⟩
  rw [Hg.out, HN.out]
  go_wp2_with fail
  have k2 : Keeps w (w1.alloc (.cells (tc N) 25)) := k1.alloc _
  have r1 : ∀ w', Keeps (w1.alloc (.cells (tc N) 25)) w' → ∀ k, w'.cell? ⟨w1.heap.size, k, none⟩ = (tc N)[k]? := fun w' h => ((Blk.new w1 (tc N) 25).keeps h).cells
  clear k1
  generalize w1.alloc (.cells (tc N) 25) = W1 at *
  generalize w1.heap.size = s1 at *
  refine (HH.out _ _ _ _ _ _).mono ?_
  rintro e w2 ⟨rfl, k3⟩
  rw [Hg.out, HN.out]
  have r3 : ∀ w', Keeps (w2.alloc (.cells (tc N) 25)) w' → ∀ k, w'.cell? ⟨w2.heap.size, k, none⟩ = (tc N)[k]? := fun w' h => ((Blk.new w2 (tc N) 25).keeps h).cells
  have r2 : ∀ w', Keeps (w2.alloc (.cells (tc N) 25)) w' → ∀ k, w'.cell? ⟨s1, k, none⟩ = (tc N)[k]? := fun w' h => r1 w' ((k3.alloc _).trans h)
  have k4 : Keeps w (w2.alloc (.cells (tc N) 25)) := k2.trans (k3.alloc _)
  clear r1
  go_wp2_with (go_at_call 25; refine (eqTask_same N _).mono ?_; rintro e w5 ⟨rfl, k5⟩)
  go_ret
  exact ⟨rfl, k4.trans k5⟩

set_option maxHeartbeats 1000000 in
theorem exactNewFixed_walk (H : SaysNewFixed) (no cpu prio round seq : Int) (w : World) :
    Calls Try.prog 5 #[.int .i64 no, .int .i64 cpu, .int .i64 prio, .int .i64 round, .int .i64 seq] w fun e w' => e = .returned (.bool true) ∧ Keeps w w' := by
  obtain ⟨g, Hg⟩ : ∃ g, Hid (taskB (fixT no cpu prio round seq) = g) := ⟨_, rfl⟩
  obtain ⟨N, HN⟩ : ∃ N, Hid (newT (fixT no cpu prio round seq) = N) := ⟨_, rfl⟩
  have hne : (g != g) = false := by simp
  have HH : Hid SaysNewFixed := H
  clear H
  go_enter Try.func5, Try.ntmps5
  go_wp2_with fail
  refine (specNewFixed_any _ _ _ _ _ _).mono ?_
  rintro e w1 ⟨rfl, k1⟩
  rw [Hg.out, HN.out]
  go_wp2_with fail
  have k2 : Keeps w (w1.alloc (.cells (tc N) 25)) := k1.alloc _
  have r1 : ∀ w', Keeps (w1.alloc (.cells (tc N) 25)) w' → ∀ k, w'.cell? ⟨w1.heap.size, k, none⟩ = (tc N)[k]? := fun w' h => ((Blk.new w1 (tc N) 25).keeps h).cells
  clear k1
  generalize w1.alloc (.cells (tc N) 25) = W1 at *
  generalize w1.heap.size = s1 at *
  refine (HH.out _ _ _ _ _ _).mono ?_
  rintro e w2 ⟨rfl, k3⟩
  rw [Hg.out, HN.out]
  have r3 : ∀ w', Keeps (w2.alloc (.cells (tc N) 25)) w' → ∀ k, w'.cell? ⟨w2.heap.size, k, none⟩ = (tc N)[k]? := fun w' h => ((Blk.new w2 (tc N) 25).keeps h).cells
  have r2 : ∀ w', Keeps (w2.alloc (.cells (tc N) 25)) w' → ∀ k, w'.cell? ⟨s1, k, none⟩ = (tc N)[k]? := fun w' h => r1 w' ((k3.alloc _).trans h)
  have k4 : Keeps w (w2.alloc (.cells (tc N) 25)) := k2.trans (k3.alloc _)
  clear r1
  go_wp2_with (go_at_call 25; refine (eqTask_same N _).mono ?_; rintro e w5 ⟨rfl, k5⟩)
  go_ret
  exact ⟨rfl, k4.trans k5⟩

set_option maxHeartbeats 1000000 in
theorem exactNewFair_walk (H : SaysNewFair) (no cpu nice v : Int) (w : World) :
    Calls Try.prog 6 #[.int .i64 no, .int .i64 cpu, .int .i64 nice, .int .i64 v] w fun e w' => e = .returned (.bool true) ∧ Keeps w w' := by
  obtain ⟨g, Hg⟩ : ∃ g, Hid (taskB (fairT no cpu nice v) = g) := ⟨_, rfl⟩
  obtain ⟨N, HN⟩ : ∃ N, Hid (newT (fairT no cpu nice v) = N) := ⟨_, rfl⟩
  have hne : (g != g) = false := by simp
  have HH : Hid SaysNewFair := H
  clear H
  go_enter Try.func6, Try.ntmps6
  go_wp2_with fail
  refine (specNewFair_any _ _ _ _ _).mono ?_
  rintro e w1 ⟨rfl, k1⟩
  rw [Hg.out, HN.out]
  go_wp2_with fail
  have k2 : Keeps w (w1.alloc (.cells (tc N) 25)) := k1.alloc _
  have r1 : ∀ w', Keeps (w1.alloc (.cells (tc N) 25)) w' → ∀ k, w'.cell? ⟨w1.heap.size, k, none⟩ = (tc N)[k]? := fun w' h => ((Blk.new w1 (tc N) 25).keeps h).cells
  clear k1
  generalize w1.alloc (.cells (tc N) 25) = W1 at *
  generalize w1.heap.size = s1 at *
  refine (HH.out _ _ _ _ _).mono ?_
  rintro e w2 ⟨rfl, k3⟩
  rw [Hg.out, HN.out]
  have r3 : ∀ w', Keeps (w2.alloc (.cells (tc N) 25)) w' → ∀ k, w'.cell? ⟨w2.heap.size, k, none⟩ = (tc N)[k]? := fun w' h => ((Blk.new w2 (tc N) 25).keeps h).cells
  have r2 : ∀ w', Keeps (w2.alloc (.cells (tc N) 25)) w' → ∀ k, w'.cell? ⟨s1, k, none⟩ = (tc N)[k]? := fun w' h => r1 w' ((k3.alloc _).trans h)
  have k4 : Keeps w (w2.alloc (.cells (tc N) 25)) := k2.trans (k3.alloc _)
  clear r1
  go_wp2_with (go_at_call 25; refine (eqTask_same N _).mono ?_; rintro e w5 ⟨rfl, k5⟩)
  go_ret
  exact ⟨rfl, k4.trans k5⟩
end Go.Proofs.Ytmdpngahofeliaa
