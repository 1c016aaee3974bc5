/-
  Deadlines: contracts of the model's functions.
  Deadlines: the contract of one of the model's functions.
  Deadlines: the contract of one of the model's functions.
  The walks of the exact laws of chapter 4, over contracts of the program's functions.
  Fair shares: contracts of the model's functions.
  Fair shares over lists: contracts of the model's functions.
  Fair shares: a contract of the model's function.
  Fair shares: a contract of the model's function.
  Fair shares: a contract of the model's function.
-/
import Derived.Test.YthobpahnmmdbiaaGreatDoorGPure1
import Derived.Test.YthobpahnmmdbiaaGreatDoorGBase1
import Derived.Test.YthobpahnmmdbiaaGreatDoorGTask2
namespace Go.Proofs.YthobpahnmmdbiaaGreatDoor
open Go.RowKit
attribute [local go_sem] Keeps.refl Keeps.alloc Keeps.drew Keeps.drewN

theorem l4Due_any (t : Tsk) (w : World) :
    Calls Tryz.prog 123 #[tk t] w fun e w' => e = .returned (.bool (dueB t)) ∧ Keeps w w' := by
  go_enter Tryz.func123, Tryz.ntmps123
  go_wp2_with fail
  refine (specTaskOk_any t _).mono ?_
  rintro e w1 ⟨rfl, k1⟩
  have B1 := (Blk.new w (tc t) 46).keeps k1
  have K1 : Keeps w w1 := ((Keeps.refl w).alloc _).trans k1
  obtain ⟨_, b1, b2⟩ := B1
  clear k1
  cases hb : taskB t
  · have Hr : Hid (dueB t = false) := by show _ = _; simp [dueB, hb]
    go_wp2
    go_ret
    exact ⟨by rw [Hr.out]; rfl, K1⟩
  · have Hr : Hid (dueB t = (t.cls == 1)) := by show _ = _; simp [dueB, hb]
    go_wp2
    go_ret
    exact ⟨by rw [Hr.out]; rfl, K1⟩

set_option maxHeartbeats 2000000 in
theorem specDueBefore_any (a b : Tsk) (w : World) :
    Calls Tryz.prog 76 #[tk a, tk b] w fun e w' => e = .returned (.bool (dueBefB a b)) ∧ Keeps w w' := by
  go_enter Tryz.func76, Tryz.ntmps76
  go_wp2_with fail
  have kW : Keeps w ((w.alloc (.cells (tc a) 46)).alloc (.cells (tc b) 46)) := ((Keeps.refl w).alloc _).alloc _
  have r1 : ∀ w', Keeps ((w.alloc (.cells (tc a) 46)).alloc (.cells (tc b) 46)) w' → ∀ k, w'.cell? ⟨w.heap.size, k, none⟩ = (tc a)[k]? := fun w' h => (((Blk.new w (tc a) 46).alloc _).keeps h).cells
  have r2 : ∀ w', Keeps ((w.alloc (.cells (tc a) 46)).alloc (.cells (tc b) 46)) w' → ∀ k, w'.cell? ⟨w.heap.size + 1, k, none⟩ = (tc b)[k]? := fun w' h => by
    have := (Blk.new (w.alloc (.cells (tc a) 46)) (tc b) 46).keeps h
    simp only [World.size_alloc] at this
    exact this.cells
  generalize (w.alloc (.cells (tc a) 46)).alloc (.cells (tc b) 46) = W at *
  refine (l4Due_any a _).mono ?_
  rintro e w1 ⟨rfl, k1⟩
  cases ha : dueB a
  · have Hr : Hid (dueBefB a b = false) := by show _ = _; simp [dueBefB, ha]
    go_wp2
    go_ret
    exact ⟨by rw [Hr.out]; rfl, kW.trans k1⟩
  · go_wp2_with fail
    refine (l4Due_any b _).mono ?_
    rintro e w2 ⟨rfl, k2⟩
    have K2 := k1.trans k2
    cases hb : dueB b
    · have Hr : Hid (dueBefB a b = false) := by show _ = _; simp [dueBefB, hb]
      go_wp2
      go_ret
      exact ⟨by rw [Hr.out]; rfl, kW.trans K2⟩
    · cases h1 : decide (a.due < b.due)
      · cases h2 : (a.due == b.due)
        · have Hr : Hid (dueBefB a b = false) := by show _ = _; simp only [dueBefB, h1, h2, Bool.false_and, Bool.or_false, Bool.and_false]
          go_wp2
          go_ret
          exact ⟨by rw [Hr.out]; rfl, kW.trans K2⟩
        · have Hr : Hid (dueBefB a b = decide (a.no < b.no)) := by show _ = _; simp only [dueBefB, ha, hb, h1, h2, Bool.true_and, Bool.false_or]
          go_wp2
          go_ret
          exact ⟨by rw [Hr.out]; rfl, kW.trans K2⟩
      · have Hr : Hid (dueBefB a b = true) := by show _ = _; simp only [dueBefB, ha, hb, h1, Bool.true_or, Bool.and_true]
        go_wp2
        go_ret
        exact ⟨by rw [Hr.out]; rfl, kW.trans K2⟩

end Go.Proofs.YthobpahnmmdbiaaGreatDoor
namespace Go.Proofs.YthobpahnmmdbiaaGreatDoor
open Go.RowKit
attribute [local go_sem] Keeps.refl Keeps.alloc Keeps.drew Keeps.drewN

end Go.Proofs.YthobpahnmmdbiaaGreatDoor
namespace Go.Proofs.YthobpahnmmdbiaaGreatDoor
open Go.RowKit
attribute [local go_sem] Keeps.refl Keeps.alloc Keeps.drew Keeps.drewN

end Go.Proofs.YthobpahnmmdbiaaGreatDoor
namespace Go.Proofs.YthobpahnmmdbiaaGreatDoor
open Go.RowKit
attribute [local go_sem] Keeps.refl Keeps.alloc Keeps.drew Keeps.drewN

def SaysDueBefore : Prop := ∀ (a b : Tsk) (w : World), Calls Tryz.prog 283 #[tk a, tk b] w fun e w' => e = .returned (.bool (dueBefB a b)) ∧ Keeps w w'
end Go.Proofs.YthobpahnmmdbiaaGreatDoor
namespace Go.Proofs.YthobpahnmmdbiaaGreatDoor
open Go.RowKit
attribute [local go_sem] Keeps.refl Keeps.alloc Keeps.drew Keeps.drewN

set_option maxRecDepth 100000 in
theorem l6Fair_any (t : Tsk) (w : World) :
    Calls Tryz.prog 125 #[tk t] w fun e w' => e = .returned (.bool (fairB t)) ∧ Keeps w w' := by
  go_enter Tryz.func125, Tryz.ntmps125
  go_wp2_with fail
  refine (specTaskOk_any t _).mono ?_
  rintro e w1 ⟨rfl, k1⟩
  have B1 := (Blk.new w (tc t) 46).keeps k1
  have K1 : Keeps w w1 := ((Keeps.refl w).alloc _).trans k1
  obtain ⟨_, b1, b2⟩ := B1
  clear k1
  cases hb : taskB t
  · have Hr : Hid (fairB t = false) := by show _ = _; simp [fairB, hb]
    go_wp2
    go_ret
    exact ⟨by rw [Hr.out]; rfl, K1⟩
  · have Hr : Hid (fairB t = (t.cls == 3)) := by show _ = _; simp [fairB, hb]
    go_wp2
    go_ret
    exact ⟨by rw [Hr.out]; rfl, K1⟩

set_option maxRecDepth 100000 in
set_option maxHeartbeats 2000000 in
theorem specFairBefore_any (a b : Tsk) (w : World) :
    Calls Tryz.prog 78 #[tk a, tk b] w fun e w' => e = .returned (.bool (fairBefB a b)) ∧ Keeps w w' := by
  go_enter Tryz.func78, Tryz.ntmps78
  go_wp2_with fail
  have kW : Keeps w ((w.alloc (.cells (tc a) 46)).alloc (.cells (tc b) 46)) := ((Keeps.refl w).alloc _).alloc _
  have r1 : ∀ w', Keeps ((w.alloc (.cells (tc a) 46)).alloc (.cells (tc b) 46)) w' → ∀ k, w'.cell? ⟨w.heap.size, k, none⟩ = (tc a)[k]? := fun w' h => (((Blk.new w (tc a) 46).alloc _).keeps h).cells
  have r2 : ∀ w', Keeps ((w.alloc (.cells (tc a) 46)).alloc (.cells (tc b) 46)) w' → ∀ k, w'.cell? ⟨w.heap.size + 1, k, none⟩ = (tc b)[k]? := fun w' h => by
    have := (Blk.new (w.alloc (.cells (tc a) 46)) (tc b) 46).keeps h
    simp only [World.size_alloc] at this
    exact this.cells
  generalize (w.alloc (.cells (tc a) 46)).alloc (.cells (tc b) 46) = W at *
  refine (l6Fair_any a _).mono ?_
  rintro e w1 ⟨rfl, k1⟩
  cases ha : fairB a
  · have Hr : Hid (fairBefB a b = false) := by show _ = _; simp [fairBefB, ha]
    go_wp2
    go_ret
    exact ⟨by rw [Hr.out]; rfl, kW.trans k1⟩
  · go_wp2_with fail
    refine (l6Fair_any b _).mono ?_
    rintro e w2 ⟨rfl, k2⟩
    have K2 := k1.trans k2
    cases hb : fairB b
    · have Hr : Hid (fairBefB a b = false) := by show _ = _; simp [fairBefB, hb]
      go_wp2
      go_ret
      exact ⟨by rw [Hr.out]; rfl, kW.trans K2⟩
    · cases h1 : decide (a.v < b.v)
      · cases h2 : (a.v == b.v)
        · have Hr : Hid (fairBefB a b = false) := by show _ = _; simp only [fairBefB, h1, h2, Bool.false_and, Bool.or_false, Bool.and_false]
          go_wp2
          go_ret
          exact ⟨by rw [Hr.out]; rfl, kW.trans K2⟩
        · have Hr : Hid (fairBefB a b = decide (a.no < b.no)) := by show _ = _; simp only [fairBefB, ha, hb, h1, h2, Bool.true_and, Bool.false_or]
          go_wp2
          go_ret
          exact ⟨by rw [Hr.out]; rfl, kW.trans K2⟩
      · have Hr : Hid (fairBefB a b = true) := by show _ = _; simp only [fairBefB, ha, hb, h1, Bool.true_or, Bool.and_true]
        go_wp2
        go_ret
        exact ⟨by rw [Hr.out]; rfl, kW.trans K2⟩

end Go.Proofs.YthobpahnmmdbiaaGreatDoor
namespace Go.Proofs.YthobpahnmmdbiaaGreatDoor
open Go.RowKit
attribute [local go_sem] Keeps.refl Keeps.alloc Keeps.drew Keeps.drewN

end Go.Proofs.YthobpahnmmdbiaaGreatDoor
namespace Go.Proofs.YthobpahnmmdbiaaGreatDoor
open Go.RowKit
attribute [local go_sem] Keeps.refl Keeps.alloc Keeps.drew Keeps.drewN

end Go.Proofs.YthobpahnmmdbiaaGreatDoor
namespace Go.Proofs.YthobpahnmmdbiaaGreatDoor
open Go.RowKit
attribute [local go_sem] Keeps.refl Keeps.alloc Keeps.drew Keeps.drewN

end Go.Proofs.YthobpahnmmdbiaaGreatDoor
namespace Go.Proofs.YthobpahnmmdbiaaGreatDoor
open Go.RowKit
attribute [local go_sem] Keeps.refl Keeps.alloc Keeps.drew Keeps.drewN

end Go.Proofs.YthobpahnmmdbiaaGreatDoor
