/-
  What every step from a walk to a given statement leans on.
  A list of locks that comes in as an argument: what its reading says of its cells.
  The library's tables and the variable errLine, as the statements that list them have them when the call begins.
  The variable errLine, as the statements that list it have it when the call begins.
-/
import Derived.Test.YtpikopdfkhagmaaDoorRows
import Derived.WalkKit
import Derived.ProofKit
import Derived.OpenShut
import Derived.ShutString
import Derived.ChangeOld
import Derived.Lib.SmallJoins
import Derived.Test.YtpikopdfkhagmaaDoorLockRows
import Derived.Deep.SlicePairs
import Derived.Test.YtpikopdfkhagmaaDoorImplLineP
import Derived.ChangeSame
import Derived.ChangeVars
import Derived.OpenVars
import Derived.JoinedOf
import Derived.RowKitTokens
import Derived.LaidLaws
import Derived.LaidHandle
import Derived.LaidMore
import Derived.Lib.LaidTab
import Derived.Stop.LaidErr
import Derived.Stop.Joined
import Derived.Test.YtpikopdfkhagmaaDoorImplNums
namespace Go.Proofs.YtpikopdfkhagmaaDoor
theorem own : ownKnob Tryd.prog.godebug = none := by kernel_rfl
theorem laidOut : laidOutB Tryd.prog = true := by kernel_rfl
end Go.Proofs.YtpikopdfkhagmaaDoor
namespace Go.Proofs.YtpikopdfkhagmaaDoor
open Go.ChangeShapes Go.WideShapes Go.ChangeAt Go.RowKit

set_option maxRecDepth 100000 in
theorem readInt {H : Type} {enc : TypeId × Value → H} {W : World} {base : Nat} {spare : Nat → Bool} {held : Bool} {n : Nat} {cs : List Value} {y : DataW H × List MemPlace}
    (h : DataW.trod enc Tryd.prog W base spare held n 3 cs = some y) : ∃ x : Int, cs = [.int .i64 x] := by
  obtain ⟨x, e, _⟩ := DataW.trod_int Tryd.underlying3 h
  exact ⟨x, e⟩
end Go.Proofs.YtpikopdfkhagmaaDoor
namespace Go.Proofs.YtpikopdfkhagmaaDoor
open Go.ChangeShapes Go.WideShapes Go.RowKit
set_option maxRecDepth 100000

abbrev laidL : List (String × DataW Unit) := [("math/bits.deBruijn32tab", Rows.laid_math_bits_deBruijn32tab), ("math/bits.deBruijn64tab", Rows.laid_math_bits_deBruijn64tab), ("internal/strconv.uint64pow10", Rows.laid_internal_strconv_uint64pow10), ("loop.example/g00185/impl.errLine", Rows.laid_loop_example_g00185_impl_errLine)]
set_option maxRecDepth 100000 in
theorem laidL_met (os : Os) (args : Array Value) : laidMetH Tryd.prog laidL ((World.doorLaid Tryd.prog 400 os).forCall (fun _ _ => 0) ⟨#[], args, []⟩).memory :=
  laidMetH_of_parts3 (fuel := 8) (laidMet_of_run' 8 (by kernel_rfl) (by kernel_rfl)) (by kernel_rfl) (by kernel_rfl)
set_option maxRecDepth 100000 in
theorem tab_of {W : World} {r : List (String × DataW Unit)} (h : laidMet Tryd.prog (("internal/strconv.uint64pow10", Rows.laid_internal_strconv_uint64pow10) :: r) W) : GlobT W :=
  Lib.tabIs_of_head globT_at (show (Tryd.prog.globals[1]?).map (·.type) = some 89 by kernel_rfl) Tryd.underlying89 Tryd.underlying82 (by kernel_rfl) (by kernel_rfl) h
set_option maxRecDepth 100000 in
theorem globT_of_laidL {W : World} (h : laidMetH Tryd.prog laidL W) : GlobT W := by
  rw [MakeChecks.laidMetH_plain _ _ _ (by kernel_rfl)] at h
  exact tab_of h.tail.tail
end Go.Proofs.YtpikopdfkhagmaaDoor
namespace Go.Proofs.YtpikopdfkhagmaaDoor
open Go.ChangeShapes Go.WideShapes Go.RowKit
set_option maxRecDepth 100000

theorem starred : "*" ++ "errors.errorString" = "*errors.errorString" := by decide
set_option maxRecDepth 100000 in
theorem errRow (u : TypeId) (h : Tryd.prog.typeName? 3 u = some "*errors.errorString") : u = 98 :=
  typeName_ptr_named (nm := "errors.errorString") (by rw [starred]; kernel_rfl) (by kernel_rfl) (by decide) u (by rw [starred]; exact h)
set_option maxRecDepth 100000 in
theorem globL_of_laidL {W : World} (h : laidMetH Tryd.prog laidL W) : GlobL W := by
  rw [MakeChecks.laidMetH_plain _ _ _ (by kernel_rfl)] at h
  obtain ⟨a, s, hv, _⟩ := laid_sentinel (ti := 66) (tp := 98) (te := 113) (ts := 9) h.tail.tail.tail (show Tryd.prog.globalNamed "loop.example/g00185/impl.errLine" = some 0 by kernel_rfl) (by kernel_rfl) Tryd.underlying66 errRow Tryd.underlying98 Tryd.underlying113 rfl rfl Tryd.underlying9 (by kernel_rfl) (by kernel_rfl)
  exact ⟨_, a, by simpa using World.var?_cell (show Tryd.prog.globalNamed "loop.example/g00185/impl.errLine" = some 0 by kernel_rfl) hv 0⟩
end Go.Proofs.YtpikopdfkhagmaaDoor
