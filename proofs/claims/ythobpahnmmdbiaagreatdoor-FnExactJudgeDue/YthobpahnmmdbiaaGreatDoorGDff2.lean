/-
  Fixed priorities: contracts of the model's functions.
  The walks of the exact laws of chapter 5, over contracts of the program's functions.
  The walks of the exact laws of chapter 6, over contracts of the program's functions.
-/
import Derived.Test.YthobpahnmmdbiaaGreatDoorGPure1
import Derived.Test.YthobpahnmmdbiaaGreatDoorGBase1
import Derived.Test.YthobpahnmmdbiaaGreatDoorGDff1
import Derived.Test.YthobpahnmmdbiaaGreatDoorGTask4
namespace Go.Proofs.YthobpahnmmdbiaaGreatDoor
open Go.RowKit
attribute [local go_sem] Keeps.refl Keeps.alloc Keeps.drew Keeps.drewN

set_option maxRecDepth 100000 in
theorem l5Fixed_any (t : Tsk) (w : World) :
    Calls Tryz.prog 124 #[tk t] w fun e w' => e = .returned (.bool (fixB t)) ∧ Keeps w w' := by
  go_enter Tryz.func124, Tryz.ntmps124
  go_wp2_with fail
  refine (specTaskOk_any t _).mono ?_
  rintro e w1 ⟨rfl, k1⟩
  have B1 := (Blk.new w (tc t) 46).keeps k1
  have K1 : Keeps w w1 := ((Keeps.refl w).alloc _).trans k1
  obtain ⟨_, b1, b2⟩ := B1
  clear k1
  cases hb : taskB t
  · have Hr : Hid (fixB t = false) := by show _ = _; simp [fixB, hb]
    go_wp2
    go_ret
    exact ⟨by rw [Hr.out]; rfl, K1⟩
  · have Hr : Hid (fixB t = (t.cls == 2)) := by show _ = _; simp [fixB, hb]
    go_wp2
    go_ret
    exact ⟨by rw [Hr.out]; rfl, K1⟩

set_option maxRecDepth 100000 in
set_option maxHeartbeats 2000000 in
theorem specFixedBefore_any (a b : Tsk) (w : World) :
    Calls Tryz.prog 77 #[tk a, tk b] w fun e w' => e = .returned (.bool (fixBefB a b)) ∧ Keeps w w' := by
  go_enter Tryz.func77, Tryz.ntmps77
  go_wp2_with fail
  have kW : Keeps w ((w.alloc (.cells (tc a) 46)).alloc (.cells (tc b) 46)) := ((Keeps.refl w).alloc _).alloc _
  have r1 : ∀ w', Keeps ((w.alloc (.cells (tc a) 46)).alloc (.cells (tc b) 46)) w' → ∀ k, w'.cell? ⟨w.heap.size, k, none⟩ = (tc a)[k]? := fun w' h => (((Blk.new w (tc a) 46).alloc _).keeps h).cells
  have r2 : ∀ w', Keeps ((w.alloc (.cells (tc a) 46)).alloc (.cells (tc b) 46)) w' → ∀ k, w'.cell? ⟨w.heap.size + 1, k, none⟩ = (tc b)[k]? := fun w' h => by
    have := (Blk.new (w.alloc (.cells (tc a) 46)) (tc b) 46).keeps h
    simp only [World.size_alloc] at this
    exact this.cells
  generalize (w.alloc (.cells (tc a) 46)).alloc (.cells (tc b) 46) = W at *
  refine (l5Fixed_any a _).mono ?_
  rintro e w1 ⟨rfl, k1⟩
  cases ha : fixB a
  · have Hr : Hid (fixBefB a b = false) := by show _ = _; simp [fixBefB, ha]
    go_wp2
    go_ret
    exact ⟨by rw [Hr.out]; rfl, kW.trans k1⟩
  · go_wp2_with fail
    refine (l5Fixed_any b _).mono ?_
    rintro e w2 ⟨rfl, k2⟩
    have K2 := k1.trans k2
    cases hb : fixB b
    · have Hr : Hid (fixBefB a b = false) := by show _ = _; simp [fixBefB, hb]
      go_wp2
      go_ret
      exact ⟨by rw [Hr.out]; rfl, kW.trans K2⟩
    · cases h1 : (a.prio != b.prio)
      · cases h2 : (a.seq != b.seq)
        · have Hr : Hid (fixBefB a b = decide (a.no < b.no)) := by show _ = _; simp only [fixBefB, ha, hb, h1, h2, Bool.true_and, Bool.false_eq_true, if_false]
          go_wp2
          go_ret
          exact ⟨by rw [Hr.out]; rfl, kW.trans K2⟩
        · have Hr : Hid (fixBefB a b = decide (a.seq < b.seq)) := by show _ = _; simp only [fixBefB, ha, hb, h1, h2, Bool.true_and, Bool.false_eq_true, if_false, if_true]
          go_wp2
          go_ret
          exact ⟨by rw [Hr.out]; rfl, kW.trans K2⟩
      · have Hr : Hid (fixBefB a b = decide (b.prio < a.prio)) := by show _ = _; simp only [fixBefB, ha, hb, h1, Bool.true_and, if_true]
        go_wp2
        go_ret
        exact ⟨by rw [Hr.out]; rfl, kW.trans K2⟩
end Go.Proofs.YthobpahnmmdbiaaGreatDoor
namespace Go.Proofs.YthobpahnmmdbiaaGreatDoor
open Go.RowKit
attribute [local go_sem] Keeps.refl Keeps.alloc Keeps.drew Keeps.drewN

def SaysFixedBefore : Prop := ∀ (a b : Tsk) (w : World), Calls Tryz.prog 289 #[tk a, tk b] w fun e w' => e = .returned (.bool (fixBefB a b)) ∧ Keeps w w'

end Go.Proofs.YthobpahnmmdbiaaGreatDoor
namespace Go.Proofs.YthobpahnmmdbiaaGreatDoor
open Go.RowKit
attribute [local go_sem] Keeps.refl Keeps.alloc Keeps.drew Keeps.drewN

/-- What the program's functions are held to. -/
def SaysFairBefore : Prop := ∀ (a b : Tsk) (w : World), Calls Tryz.prog 297 #[tk a, tk b] w fun e w' => e = .returned (.bool (fairBefB a b)) ∧ Keeps w w'
end Go.Proofs.YthobpahnmmdbiaaGreatDoor
