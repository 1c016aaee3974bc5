/-
  The program's locks: copies of them, and what may be passed on.
  The program's locks: asking for one, freeing one; what each function says.
-/
import Derived.Test.YthffapllcbjmlaaGreatDoorGIlock1
import Derived.Test.YthffapllcbjmlaaGreatDoorGBase1
import Derived.Test.YthffapllcbjmlaaGreatDoorGLock3
import Derived.Deep.Cut
import Derived.Test.YthffapllcbjmlaaGreatDoorGPure1
namespace Go.Proofs.YthffapllcbjmlaaGreatDoor
open Go.RowKit
attribute [local go_sem] Keeps.refl Keeps.alloc Keeps.drew Keeps.drewN

set_option maxRecDepth 100000 in
theorem hasLock_any (a : Option Addr) (cap n : Nat) (i : Int) (w : World) (hl : n ≤ maxLen) :
    Calls Tryz.prog 116 #[.slice a n cap, .int .i64 i] w fun e w' => e = .returned (.bool (inB i 0 ((n : Int) - 1))) ∧ w' = w := by
  unfold maxLen at hl
  have ewrap : IntKind.i64.wrap ((n : Int) - 1) = (n : Int) - 1 := Go.IntWalk.i64_in _ (by omega)
  obtain ⟨q, Hq⟩ : ∃ q, Hid (inB i 0 ((n : Int) - 1) = q) := ⟨_, rfl⟩
  rw [Hq.out]
  go_enter Tryz.func116, Tryz.ntmps116
  go_wp2_with (go_at_call 65; refine (isWithin_any _ _ _ _).mono ?_; rintro e w' ⟨rfl, hw'⟩; have hw2 := hw'.symm; subst hw2; rw [Hq.out])
  go_ret
  exact ⟨rfl, rfl⟩

end Go.Proofs.YthffapllcbjmlaaGreatDoor
namespace Go.Proofs.YthffapllcbjmlaaGreatDoor
open Go.RowKit
attribute [local go_sem] Keeps.refl Keeps.alloc Keeps.drew Keeps.drewN

end Go.Proofs.YthffapllcbjmlaaGreatDoor
