/-
  A list of locks that comes in as an argument: what its reading says of its cells.
-/
import Derived.Test.YthpdlbcdbncnhaaGreatDoorGDraw3
import Derived.Test.YthpdlbcdbncnhaaGreatDoorGBase2
import Derived.Test.YthpdlbcdbncnhaaGreatDoorGLock1
import Derived.Deep.SlicePairs
namespace Go.Proofs.YthpdlbcdbncnhaaGreatDoor
open Go.ChangeShapes Go.WideShapes Go.ChangeAt Go.RowKit

set_option maxRecDepth 100000 in
theorem readInt {H : Type} {enc : TypeId × Value → H} {W : World} {base : Nat} {spare : Nat → Bool} {held : Bool} {n : Nat} {cs : List Value} {y : DataW H × List MemPlace}
    (h : DataW.trod enc Tryz.prog W base spare held n 3 cs = some y) : ∃ x : Int, cs = [.int .i64 x] := by
  obtain ⟨x, e, _⟩ := DataW.trod_int Tryz.underlying3 h
  exact ⟨x, e⟩
theorem addrAdd (b off n : Nat) : (⟨b, off, none⟩ : Addr).add n = ⟨b, off + n, none⟩ := by
  unfold Addr.add
  by_cases h : n = 0 <;> simp [h]
set_option maxRecDepth 100000 in
theorem readInts {H : Type} {enc : TypeId × Value → H} {W : World} {base : Nat} {spare : Nat → Bool} {held : Bool} {fuel : Nat} {cs : List Value} {x : DataW H × List MemPlace}
    (h : DataW.trod enc Tryz.prog W base spare held fuel 25 cs = some x) : ∃ (a : Option Addr) (cap : Nat) (xs : List Int), cs = [.slice a xs.length cap] ∧ xs.length ≤ maxLen ∧ Ns W a xs := by
  have ct : Tryz.prog.cellsOf 3 = 1 := by kernel_rfl
  rcases Go.Deep.open_slice Tryz.underlying25 h with ⟨hcs, _⟩ | ⟨x, l, c, m, n, D, Pl, hcs, _, hl, hm, hmm, _, hc⟩
  · exact ⟨none, 0, [], hcs, by simp, .inl rfl⟩
  · have hml : l ≤ m := by rw [hmm]; split <;> omega
    rw [ct] at hc
    have each : ∀ i, i < l → ∃ t : Int, W.cell? (x.add i) = some (.int .i64 t) := by
      intro i hi
      obtain ⟨cs', h1, h2⟩ := hc i (by omega)
      obtain ⟨_, _, hcell⟩ := World.cells?_some h1
      obtain ⟨t, rfl⟩ := readInt h2
      have := hcell 0 (by omega)
      rw [Nat.mul_one] at this
      refine ⟨t, ?_⟩
      have e : (x.add i).add 0 = x.add i := by simp [Addr.add]
      rw [e] at this
      simpa using this
    haveI : Inhabited Int := ⟨0⟩
    obtain ⟨T, hT⟩ := Go.Deep.choose_lt each
    refine ⟨some x, c, (List.range l).map T, by simpa using hcs, by simp; omega, ?_⟩
    obtain ⟨b, off, spot⟩ := x
    by_cases h0 : l = 0
    · subst h0; exact .inl rfl
    · have hs : spot = none := by
        have h1 := hT 0 (by omega)
        have h2 := World.cell?_spot h1
        simpa [Addr.add] using h2
      subst hs
      have hb : b < W.heap.size := by
        have h1 := hT 0 (by omega)
        have := World.block_lt_of_cell? W _ h1
        simpa [Addr.add] using this
      refine .inr ⟨b, off, rfl, hb, fun i t hi => ?_⟩
      have hi' : i < l := by have := lt_of_some hi; simpa using this
      have e : T i = t := by simpa [hi'] using hi
      have := hT i hi'
      rwa [addrAdd, e] at this
set_option maxHeartbeats 1000000 in
set_option maxRecDepth 100000 in
theorem read_lock {H : Type} {enc : TypeId × Value → H} {W : World} {base : Nat} {spare : Nat → Bool} {held : Bool} {fuel : Nat} {cs : List Value} {x : DataW H × List MemPlace}
    (h : DataW.trod enc Tryz.prog W base spare held fuel 101 cs = some x) : ∃ y : Lv × Lk, cs = (lvc y.1).toList ∧ Fits false W y.1 y.2 := by
  have ci : Tryz.prog.cellsOf 3 = 1 := by kernel_rfl
  have cb : Tryz.prog.cellsOf 25 = 1 := by kernel_rfl
  have ct : Tryz.prog.cellsOf 101 = 2 := by kernel_rfl
  obtain ⟨xs, n, _, _, hl, hxl, hf⟩ := DataW.trod_struct Tryz.underlying101 h
  rw [ct] at hl
  replace hxl : xs.length = 2 := hxl
  have g0 : DataW.trod enc Tryz.prog W base spare held n 3 ((cs.drop 0).take (Tryz.prog.cellsOf 3)) = xs[0]? := hf 0 _ rfl
  rw [ci, List.getElem?_eq_getElem (show 0 < xs.length by omega)] at g0
  obtain ⟨x0, e0⟩ := readInt g0
  have g1 : DataW.trod enc Tryz.prog W base spare held n 25 ((cs.drop 1).take (Tryz.prog.cellsOf 25)) = xs[1]? := hf 1 _ rfl
  rw [cb, List.getElem?_eq_getElem (show 1 < xs.length by omega)] at g1
  obtain ⟨a, cap, ys, e1, h1, h2⟩ := readInts g1
  match cs, hl with
  | [c0, c1], _ =>
    simp at e0 e1
    subst e0 e1
    exact ⟨(⟨x0, a, ys.length, cap⟩, ⟨x0, ys⟩), rfl, rfl, rfl, h1, h2, fun e => by cases e⟩

set_option maxRecDepth 100000 in
theorem open_locks {H : Type} {enc : TypeId × Value → H} {W : World} {a : Option Addr} {len cap : Nat} {d : DataW H} {p : List MemPlace}
    (h : DataW.Trod enc Tryz.prog W 0 (fun _ => true) true 23 (.slice a len cap) d p) : ∃ ls : List Lk, ls.length = len ∧ ls.length ≤ maxLen ∧ Lks false W a ls := by
  have ct : Tryz.prog.cellsOf 101 = 2 := by kernel_rfl
  obtain ⟨fuel, hf⟩ := h
  rcases Go.Deep.open_slice Tryz.underlying23 hf with ⟨hcs, _⟩ | ⟨x, l, c, m, n, D, Pl, hcs, _, hl, hm, hmm, _, hc⟩
  · simp [Value.cells] at hcs
    obtain ⟨rfl, rfl, rfl⟩ := hcs
    exact ⟨[], rfl, by simp, Lks.nil _ _ _⟩
  · simp [Value.cells] at hcs
    obtain ⟨rfl, rfl, rfl⟩ := hcs
    have hml : len ≤ m := by rw [hmm]; simp; omega
    rw [ct] at hc
    have each : ∀ i, i < len → ∃ y : Lv × Lk, Fits false W y.1 y.2 ∧ ∀ k, k < 2 → W.cell? ((x.add (i * 2)).add k) = (lvc y.1)[k]? := by
      intro i hi
      obtain ⟨cs', h1, h2⟩ := hc i (by omega)
      obtain ⟨_, _, hcell⟩ := World.cells?_some h1
      obtain ⟨y, rfl, hy⟩ := read_lock h2
      exact ⟨y, hy, fun k hk => by rw [hcell k hk]; simp⟩
    haveI : Inhabited (Lv × Lk) := ⟨(⟨0, none, 0, 0⟩, ⟨0, []⟩)⟩
    obtain ⟨T, hT⟩ := Go.Deep.choose_lt each
    refine ⟨(List.range len).map fun i => (T i).2, by simp, by simp; omega, (List.range len).map fun i => (T i).1, by simp, ?_, ?_⟩
    · obtain ⟨b, off, spot⟩ := x
      by_cases h0 : len = 0
      · subst h0; exact .inl rfl
      · have hs : spot = none := by
          have h1 := (hT 0 (by omega)).2 0 (by omega)
          have h2 := World.cell?_spot (h1.trans (by rfl : (lvc (T 0).1)[0]? = some (.int .i64 (T 0).1.o)))
          simpa [Addr.add] using h2
        subst hs
        have hb : b < W.heap.size := by
          have h1 := ((hT 0 (by omega)).2 0 (by omega)).trans (by rfl : (lvc (T 0).1)[0]? = some (.int .i64 (T 0).1.o))
          have := World.block_lt_of_cell? W _ h1
          simpa [Addr.add] using this
        refine .inr ⟨b, off, rfl, hb, fun i t hi k hk => ?_⟩
        have hi' : i < len := by have := lt_of_some hi; simpa using this
        have e : (T i).1 = t := by simpa [hi'] using hi
        have := (hT i hi').2 k hk
        rwa [addrAdd, addrAdd, e] at this
    · intro i x l hx hl
      have hi' : i < len := by have := lt_of_some hx; simpa using this
      have e1 : (T i).1 = x := by simpa [hi'] using hx
      have e2 : (T i).2 = l := by simpa [hi'] using hl
      have := (hT i hi').1
      rwa [e1, e2] at this
set_option maxRecDepth 100000 in
theorem open_ints {H : Type} {enc : TypeId × Value → H} {W : World} {a : Option Addr} {len cap : Nat} {d : DataW H} {p : List MemPlace}
    (h : DataW.Trod enc Tryz.prog W 0 (fun _ => true) true 25 (.slice a len cap) d p) : ∃ xs : List Int, xs.length = len ∧ xs.length ≤ maxLen ∧ Ns W a xs := by
  obtain ⟨fuel, hf⟩ := h
  obtain ⟨a', cap', xs, hcs, h1, h2⟩ := readInts hf
  simp [Value.cells] at hcs
  obtain ⟨rfl, rfl, rfl⟩ := hcs
  exact ⟨xs, rfl, h1, h2⟩
end Go.Proofs.YthpdlbcdbncnhaaGreatDoor
