/-
  A call that comes in as an argument: what its reading says of its cells.
-/
import Derived.Test.YtpikopdfkhagmaaDoorDeskLaid
import Derived.Test.YtpikopdfkhagmaaDoorCallSpec
namespace Go.Proofs.YtpikopdfkhagmaaDoor
open Go.ChangeShapes Go.WideShapes Go.ChangeAt Go.RowKit

set_option maxHeartbeats 1000000 in
set_option maxRecDepth 100000 in
theorem read_call {H : Type} {enc : TypeId × Value → H} {W : World} {base : Nat} {spare : Nat → Bool} {held : Bool} {fuel : Nat} {cs : List Value} {x : DataW H × List MemPlace}
    (h : DataW.trod enc Tryd.prog W base spare held fuel 23 cs = some x) : ∃ c : Cl, cs = (cc c).toList := by
  have ci : Tryd.prog.cellsOf 3 = 1 := by kernel_rfl
  have ct : Tryd.prog.cellsOf 23 = 5 := by kernel_rfl
  obtain ⟨xs, n, _, _, hl, hxl, hf⟩ := DataW.trod_struct Tryd.underlying23 h
  rw [ct] at hl
  replace hxl : xs.length = 5 := hxl
  have g0 : DataW.trod enc Tryd.prog W base spare held n 3 ((cs.drop 0).take (Tryd.prog.cellsOf 3)) = xs[0]? := hf 0 _ rfl
  rw [ci, List.getElem?_eq_getElem (show 0 < xs.length by omega)] at g0
  obtain ⟨x0, e0⟩ := readInt g0
  have g1 : DataW.trod enc Tryd.prog W base spare held n 3 ((cs.drop 1).take (Tryd.prog.cellsOf 3)) = xs[1]? := hf 1 _ rfl
  rw [ci, List.getElem?_eq_getElem (show 1 < xs.length by omega)] at g1
  obtain ⟨x1, e1⟩ := readInt g1
  have g2 : DataW.trod enc Tryd.prog W base spare held n 3 ((cs.drop 2).take (Tryd.prog.cellsOf 3)) = xs[2]? := hf 2 _ rfl
  rw [ci, List.getElem?_eq_getElem (show 2 < xs.length by omega)] at g2
  obtain ⟨x2, e2⟩ := readInt g2
  have g3 : DataW.trod enc Tryd.prog W base spare held n 3 ((cs.drop 3).take (Tryd.prog.cellsOf 3)) = xs[3]? := hf 3 _ rfl
  rw [ci, List.getElem?_eq_getElem (show 3 < xs.length by omega)] at g3
  obtain ⟨x3, e3⟩ := readInt g3
  have g4 : DataW.trod enc Tryd.prog W base spare held n 3 ((cs.drop 4).take (Tryd.prog.cellsOf 3)) = xs[4]? := hf 4 _ rfl
  rw [ci, List.getElem?_eq_getElem (show 4 < xs.length by omega)] at g4
  obtain ⟨x4, e4⟩ := readInt g4
  match cs, hl with
  | [c0, c1, c2, c3, c4], _ =>
    simp at e0 e1 e2 e3 e4
    subst e0 e1 e2 e3 e4
    exact ⟨⟨x0, x1, x2, x3, x4⟩, rfl⟩
set_option maxRecDepth 100000 in
theorem open_call {H : Type} {enc : TypeId × Value → H} {W : World} {r : Reach} {b0 : Nat} {v : Value} {d : DataW H} {p : List MemPlace}
    (hv : Value.okWide Tryd.prog W r b0 23 v) (h : DataW.Trod enc Tryd.prog W 0 (fun _ => true) true 23 v d p) : ∃ c : Cl, v = ck c := by
  obtain ⟨cs, rfl, _⟩ := okWide_struct Tryd.underlying23 hv
  obtain ⟨fuel, hf⟩ := h
  obtain ⟨c, e⟩ := read_call hf
  refine ⟨c, ?_⟩
  simp only [Value.cells] at e
  exact congrArg Value.agg (Array.ext' e)
end Go.Proofs.YtpikopdfkhagmaaDoor
