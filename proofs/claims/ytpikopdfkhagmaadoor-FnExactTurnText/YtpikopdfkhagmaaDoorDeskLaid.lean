/-
  The library's tables and the variable errLine, as the statements that list them have them when the call begins.
-/
import Derived.Test.YtpikopdfkhagmaaDoorOpenTask
import Derived.Test.YtpikopdfkhagmaaDoorImplLineP
import Derived.ChangeSame
import Derived.ChangeVars
import Derived.OpenVars
import Derived.JoinedOf
import Derived.RowKitTokens
import Derived.LaidLaws
import Derived.LaidHandle
import Derived.LaidMore
import Derived.Lib.LaidTab
import Derived.Stop.LaidErr
import Derived.Stop.Joined
namespace Go.Proofs.YtpikopdfkhagmaaDoor
open Go.ChangeShapes Go.WideShapes Go.RowKit
set_option maxRecDepth 100000

/-- What the statements list. -/
abbrev laidT : List (String × DataW Unit) := [("math/bits.deBruijn32tab", Rows.laid_math_bits_deBruijn32tab), ("math/bits.deBruijn64tab", Rows.laid_math_bits_deBruijn64tab), ("internal/strconv.uint64pow10", Rows.laid_internal_strconv_uint64pow10)]
set_option maxRecDepth 100000 in
/-- The heap that the program's own start leaves meets it. -/
theorem laidT_met (os : Os) (args : Array Value) : laidMetH Tryd.prog laidT ((World.doorLaid Tryd.prog 400 os).forCall (fun _ _ => 0) ⟨#[], args, []⟩).memory :=
  laidMetH_of_parts3 (fuel := 8) (laidMet_of_run' 8 (by kernel_rfl) (by kernel_rfl)) (by kernel_rfl) (by kernel_rfl)
set_option maxRecDepth 100000 in
theorem tab_of {W : World} {r : List (String × DataW Unit)} (h : laidMet Tryd.prog (("internal/strconv.uint64pow10", Rows.laid_internal_strconv_uint64pow10) :: r) W) : GlobT W :=
  Lib.tabIs_of_head globT_at (show (Tryd.prog.globals[1]?).map (·.type) = some 89 by kernel_rfl) Tryd.underlying89 Tryd.underlying82 (by kernel_rfl) (by kernel_rfl) h
set_option maxRecDepth 100000 in
theorem globT_of_laidT {W : World} (h : laidMetH Tryd.prog laidT W) : GlobT W := by
  rw [MakeChecks.laidMetH_plain _ _ _ (by kernel_rfl)] at h
  exact tab_of h.tail.tail
end Go.Proofs.YtpikopdfkhagmaaDoor
