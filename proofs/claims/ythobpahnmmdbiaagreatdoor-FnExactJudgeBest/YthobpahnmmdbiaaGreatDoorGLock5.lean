/-
  A list of locks that comes in as an argument: what its reading says of its cells.
-/
import Derived.Test.YthobpahnmmdbiaaGreatDoorGBase2
import Derived.Test.YthobpahnmmdbiaaGreatDoorGLock1
import Derived.Deep.SlicePairs
import Derived.Test.YthobpahnmmdbiaaGreatDoorGDraw3
namespace Go.Proofs.YthobpahnmmdbiaaGreatDoor
open Go.ChangeShapes Go.WideShapes Go.ChangeAt Go.RowKit

set_option maxRecDepth 100000 in
theorem readInt {H : Type} {enc : TypeId × Value → H} {W : World} {base : Nat} {spare : Nat → Bool} {held : Bool} {n : Nat} {cs : List Value} {y : DataW H × List MemPlace}
    (h : DataW.trod enc Tryz.prog W base spare held n 3 cs = some y) : ∃ x : Int, cs = [.int .i64 x] := by
  obtain ⟨x, e, _⟩ := DataW.trod_int Tryz.underlying3 h
  exact ⟨x, e⟩
theorem addrAdd (b off n : Nat) : (⟨b, off, none⟩ : Addr).add n = ⟨b, off + n, none⟩ := by
  unfold Addr.add
  by_cases h : n = 0 <;> simp [h]
set_option maxRecDepth 100000 in
theorem readInts {H : Type} {enc : TypeId × Value → H} {W : World} {base : Nat} {spare : Nat → Bool} {held : Bool} {fuel : Nat} {cs : List Value} {x : DataW H × List MemPlace}
    (h : DataW.trod enc Tryz.prog W base spare held fuel 27 cs = some x) : ∃ (a : Option Addr) (cap : Nat) (xs : List Int), cs = [.slice a xs.length cap] ∧ xs.length ≤ maxLen ∧ Ns W a xs := by
  have ct : Tryz.prog.cellsOf 3 = 1 := by kernel_rfl
  rcases Go.Deep.open_slice Tryz.underlying27 h with ⟨hcs, _⟩ | ⟨x, l, c, m, n, D, Pl, hcs, _, hl, hm, hmm, _, hc⟩
  · exact ⟨none, 0, [], hcs, by simp, .inl rfl⟩
  · have hml : l ≤ m := by rw [hmm]; split <;> omega
    rw [ct] at hc
    have each : ∀ i, i < l → ∃ t : Int, W.cell? (x.add i) = some (.int .i64 t) := by
      intro i hi
      obtain ⟨cs', h1, h2⟩ := hc i (by omega)
      obtain ⟨_, _, hcell⟩ := World.cells?_some h1
      obtain ⟨t, rfl⟩ := readInt h2
      have := hcell 0 (by omega)
      rw [Nat.mul_one] at this
      refine ⟨t, ?_⟩
      have e : (x.add i).add 0 = x.add i := by simp [Addr.add]
      rw [e] at this
      simpa using this
    haveI : Inhabited Int := ⟨0⟩
    obtain ⟨T, hT⟩ := Go.Deep.choose_lt each
    refine ⟨some x, c, (List.range l).map T, by simpa using hcs, by simp; omega, ?_⟩
    obtain ⟨b, off, spot⟩ := x
    by_cases h0 : l = 0
    · subst h0; exact .inl rfl
    · have hs : spot = none := by
        have h1 := hT 0 (by omega)
        have h2 := World.cell?_spot h1
        simpa [Addr.add] using h2
      subst hs
      have hb : b < W.heap.size := by
        have h1 := hT 0 (by omega)
        have := World.block_lt_of_cell? W _ h1
        simpa [Addr.add] using this
      refine .inr ⟨b, off, rfl, hb, fun i t hi => ?_⟩
      have hi' : i < l := by have := lt_of_some hi; simpa using this
      have e : T i = t := by simpa [hi'] using hi
      have := hT i hi'
      rwa [addrAdd, e] at this
set_option maxHeartbeats 1000000 in
set_option maxRecDepth 100000 in
theorem read_lock {H : Type} {enc : TypeId × Value → H} {W : World} {base : Nat} {spare : Nat → Bool} {held : Bool} {fuel : Nat} {cs : List Value} {x : DataW H × List MemPlace}
    (h : DataW.trod enc Tryz.prog W base spare held fuel 105 cs = some x) : ∃ y : Lv × Lk, cs = (lvc y.1).toList ∧ Fits false W y.1 y.2 := by
  have ci : Tryz.prog.cellsOf 3 = 1 := by kernel_rfl
  have cb : Tryz.prog.cellsOf 27 = 1 := by kernel_rfl
  have ct : Tryz.prog.cellsOf 105 = 2 := by kernel_rfl
  obtain ⟨xs, n, _, _, hl, hxl, hf⟩ := DataW.trod_struct Tryz.underlying105 h
  rw [ct] at hl
  replace hxl : xs.length = 2 := hxl
  have g0 : DataW.trod enc Tryz.prog W base spare held n 3 ((cs.drop 0).take (Tryz.prog.cellsOf 3)) = xs[0]? := hf 0 _ rfl
  rw [ci, List.getElem?_eq_getElem (show 0 < xs.length by omega)] at g0
  obtain ⟨x0, e0⟩ := readInt g0
  have g1 : DataW.trod enc Tryz.prog W base spare held n 27 ((cs.drop 1).take (Tryz.prog.cellsOf 27)) = xs[1]? := hf 1 _ rfl
  rw [cb, List.getElem?_eq_getElem (show 1 < xs.length by omega)] at g1
  obtain ⟨a, cap, ys, e1, h1, h2⟩ := readInts g1
  match cs, hl with
  | [c0, c1], _ =>
    simp at e0 e1
    subst e0 e1
    exact ⟨(⟨x0, a, ys.length, cap⟩, ⟨x0, ys⟩), rfl, rfl, rfl, h1, h2, fun e => by cases e⟩

end Go.Proofs.YthobpahnmmdbiaaGreatDoor
