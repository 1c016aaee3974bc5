/-
  The walks of the exact laws of chapter 4, over contracts of the program's functions.
-/
import Derived.Test.YtmdpngahofeliaaDueWakeS
import Derived.Test.YtmdpngahofeliaaDueRenewS
namespace Go.Proofs.Ytmdpngahofeliaa
open Go.RowKit
attribute [local go_sem] Keeps.refl Keeps.alloc Keeps.drew Keeps.drewN

/-- What the program's functions are held to. -/
def SaysDueWake : Prop := ∀ (t : Tsk) (now : Int) (w : World), Calls Try.prog 47 #[tk t, .int .i64 now] w fun e w' => e = .returned (tk (wakeT t now)) ∧ Keeps w w'
def SaysDueRenew : Prop := ∀ (t : Tsk) (now : Int) (w : World), Calls Try.prog 49 #[tk t, .int .i64 now] w fun e w' => e = .returned (tk (renewT t now)) ∧ Keeps w w'
def SaysDueSpend : Prop := ∀ (t : Tsk) (w : World), Calls Try.prog 51 #[tk t] w fun e w' => e = .returned (tk (spendT t)) ∧ Keeps w w'
def SaysDueBefore : Prop := ∀ (a b : Tsk) (w : World), Calls Try.prog 53 #[tk a, tk b] w fun e w' => e = .returned (.bool (dueBefB a b)) ∧ Keeps w w'
def SaysDueShare : Prop := ∀ (t : Tsk) (w : World), Calls Try.prog 55 #[tk t] w fun e w' => e = .returned (.tuple #[sh (dueQ t) (dueP t), .bool (dueB t)]) ∧ Keeps w w'

set_option maxHeartbeats 1000000 in
theorem exactDueWake_walk (H : SaysDueWake) (t : Tsk) (now : Int) (w : World) :
    Calls Try.prog 12 #[tk t, .int .i64 now] w fun e w' => e = .returned (.bool true) ∧ Keeps w w' := by
  obtain ⟨N, HN⟩ : ∃ N, Hid (wakeT t now = N) := ⟨_, rfl⟩
  have HH : Hid SaysDueWake := H
  clear H
  go_enter Try.func12, Try.ntmps12
  go_wp2_with fail
  have kW : Keeps w (w.alloc (.cells (tc t) 23)) := (Keeps.refl _).alloc _
  have r1 : ∀ w', Keeps (w.alloc (.cells (tc t) 23)) w' → ∀ k, w'.cell? ⟨w.heap.size, k, none⟩ = (tc t)[k]? := fun w' h => ((Blk.new w (tc t) 23).keeps h).cells
  generalize w.alloc (.cells (tc t) 23) = W at *
  refine (toTask_any t _).mono ?_
  rintro e w1 ⟨rfl, b1⟩
  have k1 : Keeps W w1 := b1
  go_wp2_with fail
  refine (specDueWake_any t now _).mono ?_
  rintro e w2 ⟨rfl, b2⟩
  have k2 : Keeps W w2 := k1.trans b2
  rw [HN.out]
  go_wp2_with fail
  have K2 : Keeps W (w2.alloc (.cells (tc N) 25)) := k2.alloc _
  have r2 : ∀ w', Keeps (w2.alloc (.cells (tc N) 25)) w' → ∀ k, w'.cell? ⟨w2.heap.size, k, none⟩ = (tc N)[k]? := fun w' h => ((Blk.new w2 (tc N) 25).keeps h).cells
  clear k1 k2 b1 b2 r1
  generalize w2.alloc (.cells (tc N) 25) = W2 at *
  generalize w2.heap.size = s2 at *
  refine (toTask_any t _).mono ?_
  rintro e w3 ⟨rfl, k3⟩
  go_wp2_with fail
  refine (HH.out t now _).mono ?_
  rintro e w4 ⟨rfl, b4⟩
  have k4 : Keeps W2 w4 := k3.trans b4
  rw [HN.out]
  have r3 : ∀ w', Keeps (w4.alloc (.cells (tc N) 25)) w' → ∀ k, w'.cell? ⟨w4.heap.size, k, none⟩ = (tc N)[k]? := fun w' h => ((Blk.new w4 (tc N) 25).keeps h).cells
  have r4 : ∀ w', Keeps (w4.alloc (.cells (tc N) 25)) w' → ∀ k, w'.cell? ⟨s2, k, none⟩ = (tc N)[k]? := fun w' h => r2 w' ((k4.alloc _).trans h)
  have K4 : Keeps w (w4.alloc (.cells (tc N) 25)) := kW.trans (K2.trans (k4.alloc _))
  clear r2 k3 k4 b4 K2
  go_wp2_with (go_at_call 25; refine (eqTask_same N _).mono ?_; rintro e w5 ⟨rfl, k5⟩)
  go_ret
  exact ⟨rfl, K4.trans k5⟩

set_option maxHeartbeats 1000000 in
theorem exactDueRenew_walk (H : SaysDueRenew) (t : Tsk) (now : Int) (w : World) :
    Calls Try.prog 13 #[tk t, .int .i64 now] w fun e w' => e = .returned (.bool true) ∧ Keeps w w' := by
  obtain ⟨N, HN⟩ : ∃ N, Hid (renewT t now = N) := ⟨_, rfl⟩
  have HH : Hid SaysDueRenew := H
  clear H
  go_enter Try.func13, Try.ntmps13
  go_wp2_with fail
  have kW : Keeps w (w.alloc (.cells (tc t) 23)) := (Keeps.refl _).alloc _
  have r1 : ∀ w', Keeps (w.alloc (.cells (tc t) 23)) w' → ∀ k, w'.cell? ⟨w.heap.size, k, none⟩ = (tc t)[k]? := fun w' h => ((Blk.new w (tc t) 23).keeps h).cells
  generalize w.alloc (.cells (tc t) 23) = W at *
  refine (toTask_any t _).mono ?_
  rintro e w1 ⟨rfl, b1⟩
  have k1 : Keeps W w1 := b1
  go_wp2_with fail
  refine (specDueRenew_any t now _).mono ?_
  rintro e w2 ⟨rfl, b2⟩
  have k2 : Keeps W w2 := k1.trans b2
  rw [HN.out]
  go_wp2_with fail
  have K2 : Keeps W (w2.alloc (.cells (tc N) 25)) := k2.alloc _
  have r2 : ∀ w', Keeps (w2.alloc (.cells (tc N) 25)) w' → ∀ k, w'.cell? ⟨w2.heap.size, k, none⟩ = (tc N)[k]? := fun w' h => ((Blk.new w2 (tc N) 25).keeps h).cells
  clear k1 k2 b1 b2 r1
  generalize w2.alloc (.cells (tc N) 25) = W2 at *
  generalize w2.heap.size = s2 at *
  refine (toTask_any t _).mono ?_
  rintro e w3 ⟨rfl, k3⟩
  go_wp2_with fail
  refine (HH.out t now _).mono ?_
  rintro e w4 ⟨rfl, b4⟩
  have k4 : Keeps W2 w4 := k3.trans b4
  rw [HN.out]
  have r3 : ∀ w', Keeps (w4.alloc (.cells (tc N) 25)) w' → ∀ k, w'.cell? ⟨w4.heap.size, k, none⟩ = (tc N)[k]? := fun w' h => ((Blk.new w4 (tc N) 25).keeps h).cells
  have r4 : ∀ w', Keeps (w4.alloc (.cells (tc N) 25)) w' → ∀ k, w'.cell? ⟨s2, k, none⟩ = (tc N)[k]? := fun w' h => r2 w' ((k4.alloc _).trans h)
  have K4 : Keeps w (w4.alloc (.cells (tc N) 25)) := kW.trans (K2.trans (k4.alloc _))
  clear r2 k3 k4 b4 K2
  go_wp2_with (go_at_call 25; refine (eqTask_same N _).mono ?_; rintro e w5 ⟨rfl, k5⟩)
  go_ret
  exact ⟨rfl, K4.trans k5⟩

set_option maxHeartbeats 1000000 in
theorem exactDueSpend_walk (H : SaysDueSpend) (t : Tsk) (w : World) :
    Calls Try.prog 14 #[tk t] w fun e w' => e = .returned (.bool true) ∧ Keeps w w' := by
  obtain ⟨N, HN⟩ : ∃ N, Hid (spendT t = N) := ⟨_, rfl⟩
  have HH : Hid SaysDueSpend := H
  clear H
  go_enter Try.func14, Try.ntmps14
  go_wp2_with fail
  have kW : Keeps w (w.alloc (.cells (tc t) 23)) := (Keeps.refl _).alloc _
  have r1 : ∀ w', Keeps (w.alloc (.cells (tc t) 23)) w' → ∀ k, w'.cell? ⟨w.heap.size, k, none⟩ = (tc t)[k]? := fun w' h => ((Blk.new w (tc t) 23).keeps h).cells
  generalize w.alloc (.cells (tc t) 23) = W at *
  refine (toTask_any t _).mono ?_
  rintro e w1 ⟨rfl, b1⟩
  have k1 : Keeps W w1 := b1
  go_wp2_with fail
  refine (specDueSpend_any t _).mono ?_
  rintro e w2 ⟨rfl, b2⟩
  have k2 : Keeps W w2 := k1.trans b2
  rw [HN.out]
  go_wp2_with fail
  have K2 : Keeps W (w2.alloc (.cells (tc N) 25)) := k2.alloc _
  have r2 : ∀ w', Keeps (w2.alloc (.cells (tc N) 25)) w' → ∀ k, w'.cell? ⟨w2.heap.size, k, none⟩ = (tc N)[k]? := fun w' h => ((Blk.new w2 (tc N) 25).keeps h).cells
  clear k1 k2 b1 b2 r1
  generalize w2.alloc (.cells (tc N) 25) = W2 at *
  generalize w2.heap.size = s2 at *
  refine (toTask_any t _).mono ?_
  rintro e w3 ⟨rfl, k3⟩
  go_wp2_with fail
  refine (HH.out t _).mono ?_
  rintro e w4 ⟨rfl, b4⟩
  have k4 : Keeps W2 w4 := k3.trans b4
  rw [HN.out]
  have r3 : ∀ w', Keeps (w4.alloc (.cells (tc N) 25)) w' → ∀ k, w'.cell? ⟨w4.heap.size, k, none⟩ = (tc N)[k]? := fun w' h => ((Blk.new w4 (tc N) 25).keeps h).cells
  have r4 : ∀ w', Keeps (w4.alloc (.cells (tc N) 25)) w' → ∀ k, w'.cell? ⟨s2, k, none⟩ = (tc N)[k]? := fun w' h => r2 w' ((k4.alloc _).trans h)
  have K4 : Keeps w (w4.alloc (.cells (tc N) 25)) := kW.trans (K2.trans (k4.alloc _))
  clear r2 k3 k4 b4 K2
  go_wp2_with (go_at_call 25; refine (eqTask_same N _).mono ?_; rintro e w5 ⟨rfl, k5⟩)
  go_ret
  exact ⟨rfl, K4.trans k5⟩

theorem eqShare_same (q p : Int) (w : World) :
    Calls Try.prog 56 #[sh q p, sh q p] w fun e w' => e = .returned (.bool true) ∧ Keeps w w' := by
  have e1 : ∀ x : Int, (x != x) = false := by simp
  go_enter Try.func56, Try.ntmps56
  go_wp2
  go_ret
  exact ⟨rfl, ((Keeps.refl _).alloc _).alloc _⟩

set_option maxHeartbeats 1000000 in
theorem exactDueShare_walk (H : SaysDueShare) (t : Tsk) (w : World) :
    Calls Try.prog 16 #[tk t] w fun e w' => e = .returned (.bool true) ∧ Keeps w w' := by
  obtain ⟨q, Hq⟩ : ∃ q, Hid (dueQ t = q) := ⟨_, rfl⟩
  obtain ⟨p, Hp⟩ : ∃ p, Hid (dueP t = p) := ⟨_, rfl⟩
  obtain ⟨g, Hg⟩ : ∃ g, Hid (dueB t = g) := ⟨_, rfl⟩
  have hne : (g != g) = false := by simp
  have HH : Hid SaysDueShare := H
  clear H
  go_enter Try.func16, Try.ntmps16
  go_wp2_with fail
  have kW : Keeps w (w.alloc (.cells (tc t) 23)) := (Keeps.refl _).alloc _
  have r1 : ∀ w', Keeps (w.alloc (.cells (tc t) 23)) w' → ∀ k, w'.cell? ⟨w.heap.size, k, none⟩ = (tc t)[k]? := fun w' h => ((Blk.new w (tc t) 23).keeps h).cells
  generalize w.alloc (.cells (tc t) 23) = W at *
  refine (toTask_any t _).mono ?_
  rintro e w1 ⟨rfl, b1⟩
  have k1 : Keeps W w1 := b1
  go_wp2_with fail
  refine (specDueShare_any t _).mono ?_
  rintro e w2 ⟨rfl, b2⟩
  have k2 : Keeps W w2 := k1.trans b2
  rw [Hq.out, Hp.out, Hg.out]
  go_wp2_with fail
  have K2 : Keeps W (w2.alloc (.cells #[.int .i64 q, .int .i64 p] 59)) := k2.alloc _
  have r2 : ∀ w', Keeps (w2.alloc (.cells #[.int .i64 q, .int .i64 p] 59)) w' → ∀ k, w'.cell? ⟨w2.heap.size, k, none⟩ = (#[.int .i64 q, .int .i64 p] : Array Value)[k]? := fun w' h => ((Blk.new w2 _ 59).keeps h).cells
  clear k1 k2 b1 b2 r1
  generalize w2.alloc (.cells #[.int .i64 q, .int .i64 p] 59) = W2 at *
  generalize w2.heap.size = s2 at *
  refine (toTask_any t _).mono ?_
  rintro e w3 ⟨rfl, k3⟩
  go_wp2_with fail
  refine (HH.out t _).mono ?_
  rintro e w4 ⟨rfl, b4⟩
  have k4 : Keeps W2 w4 := k3.trans b4
  rw [Hq.out, Hp.out, Hg.out]
  have r3 : ∀ w', Keeps (w4.alloc (.cells #[.int .i64 q, .int .i64 p] 59)) w' → ∀ k, w'.cell? ⟨w4.heap.size, k, none⟩ = (#[.int .i64 q, .int .i64 p] : Array Value)[k]? := fun w' h => ((Blk.new w4 _ 59).keeps h).cells
  have r4 : ∀ w', Keeps (w4.alloc (.cells #[.int .i64 q, .int .i64 p] 59)) w' → ∀ k, w'.cell? ⟨s2, k, none⟩ = (#[.int .i64 q, .int .i64 p] : Array Value)[k]? := fun w' h => r2 w' ((k4.alloc _).trans h)
  have K4 : Keeps w (w4.alloc (.cells #[.int .i64 q, .int .i64 p] 59)) := kW.trans (K2.trans (k4.alloc _))
  clear r2 k3 k4 b4 K2
  go_wp2_with (go_at_call 56; refine (eqShare_same q p _).mono ?_; rintro e w5 ⟨rfl, k5⟩)
  go_ret
  exact ⟨rfl, K4.trans k5⟩
end Go.Proofs.Ytmdpngahofeliaa
