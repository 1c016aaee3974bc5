/-
  The program's locks: copies of them, and what may be passed on.
  The program's locks: asking for one, freeing one; what each function says.
-/
import Derived.Test.YthpdlbcdbncnhaaGreatDoorGIlock1
import Derived.Test.YthpdlbcdbncnhaaGreatDoorGBase1
import Derived.Test.YthpdlbcdbncnhaaGreatDoorGLock3
import Derived.Deep.Cut
import Derived.Test.YthpdlbcdbncnhaaGreatDoorGPure1
namespace Go.Proofs.YthpdlbcdbncnhaaGreatDoor
open Go.RowKit
attribute [local go_sem] Keeps.refl Keeps.alloc Keeps.drew Keeps.drewN

set_option maxRecDepth 100000 in
theorem hasLock_any (a : Option Addr) (cap n : Nat) (i : Int) (w : World) (hl : n ≤ maxLen) :
    Calls Tryz.prog 234 #[.slice a n cap, .int .i64 i] w fun e w' => e = .returned (.bool (inB i 0 ((n : Int) - 1))) ∧ w' = w := by
  unfold maxLen at hl
  have ewrap : IntKind.i64.wrap ((n : Int) - 1) = (n : Int) - 1 := Go.IntWalk.i64_in _ (by omega)
  obtain ⟨q, Hq⟩ : ∃ q, Hid (inB i 0 ((n : Int) - 1) = q) := ⟨_, rfl⟩
  rw [Hq.out]
  go_enter Tryz.func234, Tryz.ntmps234
  go_wp2_with (go_at_call 104; refine (isWithin_any _ _ _ _).mono ?_; rintro e w' ⟨rfl, hw'⟩; have hw2 := hw'.symm; subst hw2; rw [Hq.out])
  go_ret
  exact ⟨rfl, rfl⟩

/-- Whether one may hand its lock on to another. -/
def passB (l : Lk) (no next : Int) : Bool := !(no == 0) && (l.owner == no && mayNext l.waits next)
theorem filter_take {f : Int → Bool} {xs : List Int} {k : Nat} {y : Int} (h : xs[k]? = some y) : (xs.take (k + 1)).filter f = (xs.take k).filter f ++ (if f y then [y] else []) := by
  rw [List.take_add_one, h, List.filter_append]
  congr 1
  cases hx : f y <;> simp [hx]
end Go.Proofs.YthpdlbcdbncnhaaGreatDoor
namespace Go.Proofs.YthpdlbcdbncnhaaGreatDoor
open Go.RowKit
attribute [local go_sem] Keeps.refl Keeps.alloc Keeps.drew Keeps.drewN

theorem freeB_of {ls : List Lk} {j : Nat} {l : Lk} (hb : locksB ls = true) (hl : ls[j]? = some l) (no next : Int) : freeB ls (j : Int) no next = passB l no next := by
  unfold freeB passB
  have h1 : inB (j : Int) 0 ((ls.length : Int) - 1) = true := inB_yes (by omega) (by have := lt_of_some hl; omega)
  rw [hb, h1, Int.toNat_natCast, ownerAt_of hl]
  simp [waitsAt, hl]
end Go.Proofs.YthpdlbcdbncnhaaGreatDoor
