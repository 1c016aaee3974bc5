/-
  The variable errors.errorType, as the statements that list
-/
import Derived.Test.YthpdlbcdbncnhaaGreatDoorGBase2
import Derived.Test.YthpdlbcdbncnhaaGreatDoorErrAs
import Derived.ChangeSame
import Derived.ChangeVars
import Derived.JoinedOf
import Derived.RowKitTokens
import Derived.LaidLaws
import Derived.LaidHandle
import Derived.Stop.Joined
namespace Go.Proofs.YthpdlbcdbncnhaaGreatDoor
open Go.ChangeShapes Go.WideShapes Go.RowKit
set_option maxRecDepth 100000
abbrev qdM : List (String × DataW Unit) := [("errors.errorType", Rows.laid_errors_errorType)]
set_option maxRecDepth 100000 in
theorem qlC : Tryz.prog.globalNamed "errors.errorType" = some 0 := by kernel_rfl
set_option maxRecDepth 100000 in
theorem qlD : (Tryz.prog.cutTypes.find? (·.1 == "internal/reflectlite.rtype")).map (·.2) = some 203 := by kernel_rfl
set_option maxRecDepth 100000 in
theorem qlE : ((List.range Tryz.prog.types.size).filter fun t => Tryz.prog.rowNamed t [101, 114, 114, 111, 114]) = [118] := by kernel_rfl
set_option maxRecDepth 100000 in
theorem qlF : typeHandle Tryz.prog 118 = .pointer (some ⟨1, 118, none⟩) := by kernel_rfl
set_option maxRecDepth 100000 in
theorem qlG {W : World} (h : laidMetH Tryz.prog qdM W) : GlobE W := by
 have h' : laidMet Tryz.prog [] W /\ handlesMet Tryz.prog qdM W := h
 obtain ⟨name, u, ty, e1, e2, e3, e4, e5⟩ := h'.2 _ (List.mem_singleton.2 rfl)
 have en : name = [101, 114, 114, 111, 114] := (Option.some.inj e1).symm
 subst en
 obtain rfl := Option.some.inj (qlD.symm.trans e2)
 have hm : ty ∈ (List.range Tryz.prog.types.size).filter fun t => Tryz.prog.rowNamed t [101, 114, 114, 111, 114] := List.mem_filter.2 ⟨List.mem_range.2 e3, e4⟩
 rw [qlE] at hm
 obtain rfl := List.mem_singleton.1 hm
 rw [qlF] at e5
 unfold GlobE
 simpa using World.var?_cell qlC e5 0
noncomputable def laidWorld (os : Os) : World :=
 let w0 := World.holding Tryz.prog os ⟨#[], #[], []⟩
 { w0 with heap := w0.heap.modify 0 fun
   | .cells _ t frozen => .cells #[.iface 203 (.agg #[.pointer (some ⟨1, 118, none⟩)])] t frozen
   | o => o }
set_option maxRecDepth 100000 in
theorem qlH (os : Os) (args : Array Value) : laidMetH Tryz.prog qdM ((laidWorld os).forCall (fun _ _ => 0) ⟨#[], args, []⟩).memory :=
 laidMetH_of_parts (laidMet_nil _ _) (by kernel_rfl)
end Go.Proofs.YthpdlbcdbncnhaaGreatDoor
