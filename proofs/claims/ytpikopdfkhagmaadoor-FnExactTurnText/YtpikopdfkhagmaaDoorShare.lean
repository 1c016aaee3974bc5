/-
  A part of time is right: contracts of the program's and of the model's ShareOk.
  The greatest common divisor: contracts of the program's and of the model's functions over it, each for every argument that its callers hand it.
  Parts of time: contracts of the functions that say which part is right and which of two is less.
-/
import Derived.Test.YtpikopdfkhagmaaDoorIn
import Derived.Laws.ResultCell
import Derived.Deep.RegionHeld3
namespace Go.Proofs.YtpikopdfkhagmaaDoor
open Go.RowKit

/-- It is right. -/
def okB (q p : Int) : Bool := inB p 1 40 && inB q 1 p
end Go.Proofs.YtpikopdfkhagmaaDoor
namespace Go.Proofs.YtpikopdfkhagmaaDoor
open Go.RowKit

end Go.Proofs.YtpikopdfkhagmaaDoor
namespace Go.Proofs.YtpikopdfkhagmaaDoor
open Go.RowKit

end Go.Proofs.YtpikopdfkhagmaaDoor
