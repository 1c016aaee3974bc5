/-
  Lists of tasks are marked, and looked at again: the laws' own helpers.
  Rows of locks are marked, and looked at again.
  The system: two that are alike.
  The system: its rows are marked, and looked at again.
-/
import Derived.Test.YtpikopdfkhagmaaDoorTaskSpec
import Derived.Test.YtpikopdfkhagmaaDoorBut
import Derived.Test.YtpikopdfkhagmaaDoorLockS2
import Derived.Test.YtpikopdfkhagmaaDoorSysTo2
namespace Go.Proofs.YtpikopdfkhagmaaDoor
open Go.RowKit
attribute [local go_sem] Keeps.refl Keeps.alloc Keeps.drew Keeps.drewN

/-- The block b has m cells that may be written. -/
structure Room (w : World) (b m : Nat) : Prop where
  lt : b < w.heap.size
  cells : ∀ o, o < m → ∃ v, w.cell? ⟨b, o, none⟩ = some v
  frozens : ∀ o, w.frozen? ⟨b, o, none⟩ = false
theorem Room.setCell {w : World} {b m : Nat} (h : Room w b m) (p : Addr) (v : Value) : Room (w.setCell p v) b m :=
  ⟨by simpa using h.lt, fun q hq => by obtain ⟨u, hu⟩ := h.cells q hq; exact cell?_setCell_some hu, fun q => by simpa using h.frozens q⟩
theorem Room.put {w : World} {b m o : Nat} (h : Room w b m) (t : Tsk) : Room (putAt w b o t) b m :=
  (((((((((((((h.setCell _ _).setCell _ _).setCell _ _).setCell _ _).setCell _ _).setCell _ _).setCell _ _).setCell _ _).setCell _ _).setCell _ _).setCell _ _).setCell _ _).setCell _ _).setCell _ _
theorem KeepsBut.put {g o : Nat} {a b : World} (h : KeepsBut g a b) (t : Tsk) : KeepsBut g a (putAt b g o t) :=
  (((((((((((((h.setCell _ _).setCell _ _).setCell _ _).setCell _ _).setCell _ _).setCell _ _).setCell _ _).setCell _ _).setCell _ _).setCell _ _).setCell _ _).setCell _ _).setCell _ _).setCell _ _

end Go.Proofs.YtpikopdfkhagmaaDoor
namespace Go.Proofs.YtpikopdfkhagmaaDoor
open Go.RowKit
variable {p p' : Bool}
attribute [local go_sem] Keeps.refl Keeps.alloc Keeps.drew Keeps.drewN

end Go.Proofs.YtpikopdfkhagmaaDoor
namespace Go.Proofs.YtpikopdfkhagmaaDoor
open Go.RowKit
attribute [local go_sem] Keeps.refl Keeps.alloc Keeps.drew Keeps.drewN

end Go.Proofs.YtpikopdfkhagmaaDoor
namespace Go.Proofs.YtpikopdfkhagmaaDoor
open Go.RowKit
attribute [local go_sem] Keeps.refl Keeps.alloc Keeps.drew Keeps.drewN

end Go.Proofs.YtpikopdfkhagmaaDoor
