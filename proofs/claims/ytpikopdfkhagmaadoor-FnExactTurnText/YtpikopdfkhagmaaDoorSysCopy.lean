/-
  A row is copied: append onto an empty row of one's own.
  A system of one's own: one row of it is another one now, the others are as they were.
  The system: a copy of it.
-/
import Derived.Test.YtpikopdfkhagmaaDoorSysBase
import Derived.Test.YtpikopdfkhagmaaDoorLockS2
namespace Go.Proofs.YtpikopdfkhagmaaDoor
open Go.RowKit

end Go.Proofs.YtpikopdfkhagmaaDoor
namespace Go.Proofs.YtpikopdfkhagmaaDoor
open Go.RowKit

end Go.Proofs.YtpikopdfkhagmaaDoor
namespace Go.Proofs.YtpikopdfkhagmaaDoor
open Go.RowKit
attribute [local go_sem] Keeps.refl Keeps.alloc Keeps.drew Keeps.drewN

/-- The rows of a system of which nothing is there. -/
abbrev Sv.zero : Sv := ⟨⟨none, 0, 0⟩, ⟨none, 0, 0⟩, ⟨none, 0, 0⟩, ⟨none, 0, 0⟩, ⟨none, 0, 0⟩⟩
/-- A row has been copied, and its slice is stored over the cell k of the block b. -/
theorem copied {X w' : World} {e : TypeId} {b k n : Nat} {C : Array Value} (hn : X.heap.size = n) (B : Blk X b C) (hk : k < C.size) (g : (X.alloc (.cells #[] e)).grownBy w' (some n)) (u : Value) :
    Blk w' b C ∧ KeepsBut b X (w'.setCell ⟨b, k, none⟩ u) ∧ Blk (w'.setCell ⟨b, k, none⟩ u) b (C.setIfInBounds k u) := by
  have hl := B.lt
  have B1 : Blk w' b C := (B.alloc _).grown g (by intro q hq; cases hq; omega)
  exact ⟨B1, ((KeepsBut.of ((Keeps.refl X).alloc _)).grown g (by intro q hq; cases hq; omega)).setCell k u, B1.set k hk u⟩
end Go.Proofs.YtpikopdfkhagmaaDoor
