/-
  Closed facts on the program as a whole that every statement of a seat asks for, proved once: over the head of the translation as a list of signs (its string, sign by sign in the kernel, costs gigabytes where a seat has many roots).
-/
import Derived.Test.YtpikopdfkhagmaaDoorOpenTask
namespace Go.Proofs.YtpikopdfkhagmaaDoor

theorem join32 {b1 b2 b3 b4 b5 b6 b7 b8 b9 b10 b11 b12 b13 b14 b15 b16 b17 b18 b19 b20 b21 b22 b23 b24 b25 b26 b27 b28 b29 b30 b31 b32 : Bool} (h1 : b1 = true) (h2 : b2 = true) (h3 : b3 = true) (h4 : b4 = true) (h5 : b5 = true) (h6 : b6 = true) (h7 : b7 = true) (h8 : b8 = true) (h9 : b9 = true) (h10 : b10 = true) (h11 : b11 = true) (h12 : b12 = true) (h13 : b13 = true) (h14 : b14 = true) (h15 : b15 = true) (h16 : b16 = true) (h17 : b17 = true) (h18 : b18 = true) (h19 : b19 = true) (h20 : b20 = true) (h21 : b21 = true) (h22 : b22 = true) (h23 : b23 = true) (h24 : b24 = true) (h25 : b25 = true) (h26 : b26 = true) (h27 : b27 = true) (h28 : b28 = true) (h29 : b29 = true) (h30 : b30 = true) (h31 : b31 = true) (h32 : b32 = true) : (b1 && b2 && b3 && b4 && b5 && b6 && b7 && b8 && b9 && b10 && b11 && b12 && b13 && b14 && b15 && b16 && b17 && b18 && b19 && b20 && b21 && b22 && b23 && b24 && b25 && b26 && b27 && b28 && b29 && b30 && b31 && b32) = true := by
  subst_vars
  rfl
/-- The head's signs. -/
def headSigns : List Char := [Char.ofNat 104, Char.ofNat 97, Char.ofNat 114, Char.ofNat 110, Char.ofNat 101, Char.ofNat 115, Char.ofNat 115, Char.ofNat 32, Char.ofNat 49, Char.ofNat 49, Char.ofNat 101, Char.ofNat 51, Char.ofNat 49, Char.ofNat 97, Char.ofNat 50, Char.ofNat 100, Char.ofNat 50, Char.ofNat 57, Char.ofNat 52, Char.ofNat 50, Char.ofNat 49, Char.ofNat 99, Char.ofNat 49, Char.ofNat 55, Char.ofNat 100, Char.ofNat 56, Char.ofNat 50, Char.ofNat 55, Char.ofNat 99, Char.ofNat 56, Char.ofNat 52, Char.ofNat 48, Char.ofNat 49, Char.ofNat 56, Char.ofNat 102, Char.ofNat 53, Char.ofNat 98, Char.ofNat 48, Char.ofNat 102, Char.ofNat 97, Char.ofNat 51, Char.ofNat 99, Char.ofNat 97, Char.ofNat 101, Char.ofNat 48, Char.ofNat 57, Char.ofNat 101, Char.ofNat 53, Char.ofNat 56, Char.ofNat 102, Char.ofNat 49, Char.ofNat 99, Char.ofNat 100, Char.ofNat 48, Char.ofNat 49, Char.ofNat 48, Char.ofNat 48, Char.ofNat 98, Char.ofNat 52, Char.ofNat 102, Char.ofNat 52, Char.ofNat 98, Char.ofNat 55, Char.ofNat 53, Char.ofNat 52, Char.ofNat 52, Char.ofNat 97, Char.ofNat 51, Char.ofNat 49, Char.ofNat 101, Char.ofNat 57, Char.ofNat 52, Char.ofNat 32, Char.ofNat 99, Char.ofNat 117, Char.ofNat 116, Char.ofNat 32, Char.ofNat 97, Char.ofNat 116, Char.ofNat 32, Char.ofNat 108, Char.ofNat 111, Char.ofNat 111, Char.ofNat 112, Char.ofNat 46, Char.ofNat 101, Char.ofNat 120, Char.ofNat 97, Char.ofNat 109, Char.ofNat 112, Char.ofNat 108, Char.ofNat 101, Char.ofNat 47, Char.ofNat 103, Char.ofNat 48, Char.ofNat 48, Char.ofNat 49, Char.ofNat 56, Char.ofNat 53, Char.ofNat 47, Char.ofNat 108, Char.ofNat 97, Char.ofNat 119, Char.ofNat 115, Char.ofNat 46, Char.ofNat 70, Char.ofNat 110, Char.ofNat 69, Char.ofNat 120, Char.ofNat 97, Char.ofNat 99, Char.ofNat 116, Char.ofNat 67, Char.ofNat 97, Char.ofNat 108, Char.ofNat 108, Char.ofNat 76, Char.ofNat 105, Char.ofNat 110, Char.ofNat 101, Char.ofNat 32, Char.ofNat 108, Char.ofNat 111, Char.ofNat 111, Char.ofNat 112, Char.ofNat 46, Char.ofNat 101, Char.ofNat 120, Char.ofNat 97, Char.ofNat 109, Char.ofNat 112, Char.ofNat 108, Char.ofNat 101, Char.ofNat 47, Char.ofNat 103, Char.ofNat 48, Char.ofNat 48, Char.ofNat 49, Char.ofNat 56, Char.ofNat 53, Char.ofNat 47, Char.ofNat 108, Char.ofNat 97, Char.ofNat 119, Char.ofNat 115, Char.ofNat 46, Char.ofNat 70, Char.ofNat 110, Char.ofNat 69, Char.ofNat 120, Char.ofNat 97, Char.ofNat 99, Char.ofNat 116, Char.ofNat 67, Char.ofNat 97, Char.ofNat 108, Char.ofNat 108, Char.ofNat 80, Char.ofNat 97, Char.ofNat 114, Char.ofNat 115, Char.ofNat 101, Char.ofNat 32, Char.ofNat 108, Char.ofNat 111, Char.ofNat 111, Char.ofNat 112, Char.ofNat 46, Char.ofNat 101, Char.ofNat 120, Char.ofNat 97, Char.ofNat 109, Char.ofNat 112, Char.ofNat 108, Char.ofNat 101, Char.ofNat 47, Char.ofNat 103, Char.ofNat 48, Char.ofNat 48, Char.ofNat 49, Char.ofNat 56, Char.ofNat 53, Char.ofNat 47, Char.ofNat 108, Char.ofNat 97, Char.ofNat 119, Char.ofNat 115, Char.ofNat 46, Char.ofNat 70, Char.ofNat 110, Char.ofNat 69, Char.ofNat 120, Char.ofNat 97, Char.ofNat 99, Char.ofNat 116, Char.ofNat 84, Char.ofNat 117, Char.ofNat 114, Char.ofNat 110, Char.ofNat 84, Char.ofNat 101, Char.ofNat 120, Char.ofNat 116]
set_option maxRecDepth 100000 in
theorem head_is : Tryd.pinned.checked.prog.initOrder.toList = headSigns := by
  have h : Tryd.pinned.checked.prog.initOrder = String.ofList headSigns := String.toByteArray_inj.1 (by kernel_rfl)
  rw [h, String.toList_ofList]
set_option maxRecDepth 100000 in
theorem lifts_of (P : Program) (h : P.initOrder.toList = headSigns) : P.liftsFinal = false := by
  unfold Program.liftsFinal Program.headLifts
  rw [h]
  kernel_rfl
set_option maxRecDepth 100000 in
theorem lifts_final : Tryd.pinned.checked.prog.liftsFinal = false := lifts_of _ head_is
set_option maxRecDepth 100000 in
theorem make_of (P : Program) (h : P.initOrder.toList = headSigns) : P.make = some .cut := by
  unfold Program.make
  rw [h]
  kernel_rfl
set_option maxRecDepth 100000 in
theorem make_is : Tryd.pinned.checked.prog.make = some .cut := make_of _ head_is
set_option maxRecDepth 100000 in
theorem strip_is : stripLifts liftWords (behindMainWord (wordsSigns headSigns)) = ([], behindMainWord (wordsSigns headSigns)) := by kernel_rfl
set_option maxRecDepth 100000 in
theorem enter_of (P : Program) (h : P.initOrder.toList = headSigns) (h1 : P.laysLater = false) (h2 : P.bearsReflect = false) (h3 : P.doorFits [] = true) : P.mayEnter = true := by
  have hh : ((behindMainWord (wordsSigns headSigns)).head? == some "cut".toList) = true := by kernel_rfl
  have hs := strip_is
  unfold Program.mayEnter
  rw [h]
  generalize behindMainWord (wordsSigns headSigns) = L at hh hs ⊢
  cases L with
  | nil => cases hh
  | cons c rest =>
    simp only [hs, hh, h1, h2, h3]
    simp
set_option maxRecDepth 100000 in
theorem lays_later : Tryd.pinned.checked.prog.laysLater = false := by kernel_rfl
set_option maxRecDepth 100000 in
theorem bears_reflect : Tryd.pinned.checked.prog.bearsReflect = false := by kernel_rfl
set_option maxRecDepth 100000 in
theorem door_fits : Tryd.pinned.checked.prog.doorFits [] = true := by kernel_rfl
set_option maxRecDepth 100000 in
theorem may_enter : Tryd.pinned.checked.prog.mayEnter = true := enter_of _ head_is lays_later bears_reflect door_fits
end Go.Proofs.YtpikopdfkhagmaaDoor
