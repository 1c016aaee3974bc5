/-
  What every step from a walk to a given statement leans on.
  A task, and a list of tasks, that come in as arguments: what their reading says of their cells.
  A list of locks that comes in as an argument: what its reading says of its cells.
-/
import Derived.Test.YtpikopdfkhagmaaDoorRows
import Derived.WalkKit
import Derived.ProofKit
import Derived.OpenShut
import Derived.ShutString
import Derived.ChangeOld
import Derived.Lib.SmallJoins
import Derived.Test.YtpikopdfkhagmaaDoorTaskPutAt
import Derived.Test.YtpikopdfkhagmaaDoorLies
import Derived.Deep.SlicePairs
import Derived.Test.YtpikopdfkhagmaaDoorLockRows
namespace Go.Proofs.YtpikopdfkhagmaaDoor
theorem own : ownKnob Tryd.prog.godebug = none := by kernel_rfl
theorem laidOut : laidOutB Tryd.prog = true := by kernel_rfl
end Go.Proofs.YtpikopdfkhagmaaDoor
namespace Go.Proofs.YtpikopdfkhagmaaDoor
open Go.ChangeShapes Go.WideShapes Go.ChangeAt Go.RowKit

theorem addr_add (b off n : Nat) : (⟨b, off, none⟩ : Addr).add n = ⟨b, off + n, none⟩ := by
  unfold Addr.add
  by_cases h : n = 0 <;> simp [h]

end Go.Proofs.YtpikopdfkhagmaaDoor
namespace Go.Proofs.YtpikopdfkhagmaaDoor
open Go.ChangeShapes Go.WideShapes Go.ChangeAt Go.RowKit

set_option maxRecDepth 100000 in
theorem readInt {H : Type} {enc : TypeId × Value → H} {W : World} {base : Nat} {spare : Nat → Bool} {held : Bool} {n : Nat} {cs : List Value} {y : DataW H × List MemPlace}
    (h : DataW.trod enc Tryd.prog W base spare held n 3 cs = some y) : ∃ x : Int, cs = [.int .i64 x] := by
  obtain ⟨x, e, _⟩ := DataW.trod_int Tryd.underlying3 h
  exact ⟨x, e⟩
end Go.Proofs.YtpikopdfkhagmaaDoor
