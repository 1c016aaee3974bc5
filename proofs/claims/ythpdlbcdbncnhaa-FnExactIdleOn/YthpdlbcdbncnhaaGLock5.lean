/-
  A list of locks that comes in as an argument: what its reading says of its cells.
-/
import Derived.Test.YthpdlbcdbncnhaaGDraw3
import Derived.Test.YthpdlbcdbncnhaaGBase2
import Derived.Test.YthpdlbcdbncnhaaGLock1
import Derived.Deep.SlicePairs
namespace Go.Proofs.Ythpdlbcdbncnhaa
open Go.ChangeShapes Go.WideShapes Go.ChangeAt Go.RowKit

set_option maxRecDepth 100000 in
theorem readInt {H : Type} {enc : TypeId × Value → H} {W : World} {base : Nat} {spare : Nat → Bool} {held : Bool} {n : Nat} {cs : List Value} {y : DataW H × List MemPlace}
    (h : DataW.trod enc Try.prog W base spare held n 3 cs = some y) : ∃ x : Int, cs = [.int .i64 x] := by
  obtain ⟨x, e, _⟩ := DataW.trod_int Try.underlying3 h
  exact ⟨x, e⟩
theorem addrAdd (b off n : Nat) : (⟨b, off, none⟩ : Addr).add n = ⟨b, off + n, none⟩ := by
  unfold Addr.add
  by_cases h : n = 0 <;> simp [h]
set_option maxRecDepth 100000 in
theorem readInts {H : Type} {enc : TypeId × Value → H} {W : World} {base : Nat} {spare : Nat → Bool} {held : Bool} {fuel : Nat} {cs : List Value} {x : DataW H × List MemPlace}
    (h : DataW.trod enc Try.prog W base spare held fuel 55 cs = some x) : ∃ (a : Option Addr) (cap : Nat) (xs : List Int), cs = [.slice a xs.length cap] ∧ xs.length ≤ maxLen ∧ Ns W a xs := by
  have ct : Try.prog.cellsOf 3 = 1 := by kernel_rfl
  rcases Go.Deep.open_slice Try.underlying55 h with ⟨hcs, _⟩ | ⟨x, l, c, m, n, D, Pl, hcs, _, hl, hm, hmm, _, hc⟩
  · exact ⟨none, 0, [], hcs, by simp, .inl rfl⟩
  · have hml : l ≤ m := by rw [hmm]; split <;> omega
    rw [ct] at hc
    have each : ∀ i, i < l → ∃ t : Int, W.cell? (x.add i) = some (.int .i64 t) := by
      intro i hi
      obtain ⟨cs', h1, h2⟩ := hc i (by omega)
      obtain ⟨_, _, hcell⟩ := World.cells?_some h1
      obtain ⟨t, rfl⟩ := readInt h2
      have := hcell 0 (by omega)
      rw [Nat.mul_one] at this
      refine ⟨t, ?_⟩
      have e : (x.add i).add 0 = x.add i := by simp [Addr.add]
      rw [e] at this
      simpa using this
    haveI : Inhabited Int := ⟨0⟩
    obtain ⟨T, hT⟩ := Go.Deep.choose_lt each
    refine ⟨some x, c, (List.range l).map T, by simpa using hcs, by simp; omega, ?_⟩
    obtain ⟨b, off, spot⟩ := x
    by_cases h0 : l = 0
    · subst h0; exact .inl rfl
    · have hs : spot = none := by
        have h1 := hT 0 (by omega)
        have h2 := World.cell?_spot h1
        simpa [Addr.add] using h2
      subst hs
      have hb : b < W.heap.size := by
        have h1 := hT 0 (by omega)
        have := World.block_lt_of_cell? W _ h1
        simpa [Addr.add] using this
      refine .inr ⟨b, off, rfl, hb, fun i t hi => ?_⟩
      have hi' : i < l := by have := lt_of_some hi; simpa using this
      have e : T i = t := by simpa [hi'] using hi
      have := hT i hi'
      rwa [addrAdd, e] at this
set_option maxRecDepth 100000 in
theorem open_ints {H : Type} {enc : TypeId × Value → H} {W : World} {a : Option Addr} {len cap : Nat} {d : DataW H} {p : List MemPlace}
    (h : DataW.Trod enc Try.prog W 0 (fun _ => true) true 55 (.slice a len cap) d p) : ∃ xs : List Int, xs.length = len ∧ xs.length ≤ maxLen ∧ Ns W a xs := by
  obtain ⟨fuel, hf⟩ := h
  obtain ⟨a', cap', xs, hcs, h1, h2⟩ := readInts hf
  simp [Value.cells] at hcs
  obtain ⟨rfl, rfl, rfl⟩ := hcs
  exact ⟨xs, rfl, h1, h2⟩
end Go.Proofs.Ythpdlbcdbncnhaa
