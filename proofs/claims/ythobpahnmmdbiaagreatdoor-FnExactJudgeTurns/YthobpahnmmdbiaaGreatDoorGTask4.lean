/-
  New tasks: contracts of the model's functions.
  What is a nice: the contract of the program's NiceOk.
  The walks of the exact laws over one task, over contracts of the program's functions.
-/
import Derived.Test.YthobpahnmmdbiaaGreatDoorGTask2
import Derived.Test.YthobpahnmmdbiaaGreatDoorGBase1
import Derived.Test.YthobpahnmmdbiaaGreatDoorGTask1
namespace Go.Proofs.YthobpahnmmdbiaaGreatDoor
open Go.RowKit

end Go.Proofs.YthobpahnmmdbiaaGreatDoor
namespace Go.Proofs.YthobpahnmmdbiaaGreatDoor
open Go.RowKit

theorem implNiceOk_any (x : Int) (w : World) :
    Calls Tryz.prog 202 #[.int .i64 x] w fun e w' => e = .returned (.bool (inB x (-4) 4)) ∧ w' = w := by
  by_cases h1 : -4 ≤ x
  · by_cases h2 : x ≤ 4
    · have Hr : Hid (inB x (-4) 4 = true) := inB_yes h1 h2
      go_enter Tryz.func202, Tryz.ntmps202
      go_wp2
      go_ret
      exact ⟨by rw [Hr.out]; rfl, rfl⟩
    · have Hr : Hid (inB x (-4) 4 = false) := inB_no (.inr (by omega))
      have hd : decide (x ≤ 4) = false := by simpa using h2
      go_enter Tryz.func202, Tryz.ntmps202
      go_wp2
      go_ret
      exact ⟨by rw [Hr.out]; rfl, rfl⟩
  · have Hr : Hid (inB x (-4) 4 = false) := inB_no (.inl (by omega))
    have hd : decide (-4 ≤ x) = false := by simpa using h1
    go_enter Tryz.func202, Tryz.ntmps202
    go_wp2
    go_ret
    exact ⟨by rw [Hr.out]; rfl, rfl⟩

end Go.Proofs.YthobpahnmmdbiaaGreatDoor
namespace Go.Proofs.YthobpahnmmdbiaaGreatDoor
open Go.RowKit
attribute [local go_sem] Keeps.refl Keeps.alloc Keeps.drew Keeps.drewN

/-- What the program's functions are held to. -/
def SaysTaskOk : Prop := ∀ (t : Tsk) (w : World), Calls Tryz.prog 113 #[tk t] w fun e w' => e = .returned (.bool (taskB t)) ∧ Keeps w w'
end Go.Proofs.YthobpahnmmdbiaaGreatDoor
