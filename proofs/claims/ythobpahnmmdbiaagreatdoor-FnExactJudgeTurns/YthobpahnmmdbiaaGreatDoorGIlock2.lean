/-
  The program's locks: copies of them, and what may be passed on.
  The program's locks: asking for one, freeing one; what each function says.
-/
import Derived.Test.YthobpahnmmdbiaaGreatDoorGIlock1
import Derived.Test.YthobpahnmmdbiaaGreatDoorGBase1
import Derived.Test.YthobpahnmmdbiaaGreatDoorGLock3
import Derived.Deep.Cut
import Derived.Test.YthobpahnmmdbiaaGreatDoorGPure1
namespace Go.Proofs.YthobpahnmmdbiaaGreatDoor
open Go.RowKit
attribute [local go_sem] Keeps.refl Keeps.alloc Keeps.drew Keeps.drewN

set_option maxRecDepth 100000 in
theorem hasLock_any (a : Option Addr) (cap n : Nat) (i : Int) (w : World) (hl : n ≤ maxLen) :
    Calls Tryz.prog 223 #[.slice a n cap, .int .i64 i] w fun e w' => e = .returned (.bool (inB i 0 ((n : Int) - 1))) ∧ w' = w := by
  unfold maxLen at hl
  have ewrap : IntKind.i64.wrap ((n : Int) - 1) = (n : Int) - 1 := Go.IntWalk.i64_in _ (by omega)
  obtain ⟨q, Hq⟩ : ∃ q, Hid (inB i 0 ((n : Int) - 1) = q) := ⟨_, rfl⟩
  rw [Hq.out]
  go_enter Tryz.func223, Tryz.ntmps223
  go_wp2_with (go_at_call 69; refine (isWithin_any _ _ _ _).mono ?_; rintro e w' ⟨rfl, hw'⟩; have hw2 := hw'.symm; subst hw2; rw [Hq.out])
  go_ret
  exact ⟨rfl, rfl⟩

end Go.Proofs.YthobpahnmmdbiaaGreatDoor
namespace Go.Proofs.YthobpahnmmdbiaaGreatDoor
open Go.RowKit
attribute [local go_sem] Keeps.refl Keeps.alloc Keeps.drew Keeps.drewN

end Go.Proofs.YthobpahnmmdbiaaGreatDoor
