/-
  A task, and a list of tasks, that come in as arguments: what their reading says of their cells.
-/
import Derived.Test.YtdndgacaohmdnaaFrame
import Derived.Test.YtdndgacaohmdnaaTaskBase
import Derived.Test.YtdndgacaohmdnaaLies
import Derived.Deep.SlicePairs
namespace Go.Proofs.Ytdndgacaohmdnaa
open Go.ChangeShapes Go.WideShapes Go.ChangeAt Go.RowKit

theorem read_int {H : Type} {enc : TypeId × Value → H} {W : World} {base : Nat} {spare : Nat → Bool} {held : Bool} {n : Nat} {cs : List Value} {k : Nat} {y : DataW H × List MemPlace}
    (h : DataW.trod enc Try.prog W base spare held n 3 ((cs.drop k).take 1) = some y) : ∃ x : Int, cs[k]? = some (.int .i64 x) := by
  obtain ⟨x, e, _⟩ := DataW.trod_int Try.underlying3 h
  refine ⟨x, ?_⟩
  have := congrArg (fun l => l[0]?) e
  simpa using this
theorem read_bool {H : Type} {enc : TypeId × Value → H} {W : World} {base : Nat} {spare : Nat → Bool} {held : Bool} {n : Nat} {cs : List Value} {k : Nat} {y : DataW H × List MemPlace}
    (h : DataW.trod enc Try.prog W base spare held n 4 ((cs.drop k).take 1) = some y) : ∃ x : Bool, cs[k]? = some (.bool x) := by
  obtain ⟨x, e, _⟩ := DataW.trod_bool Try.underlying4 h
  refine ⟨x, ?_⟩
  have := congrArg (fun l => l[0]?) e
  simpa using this
theorem list14 {α : Type} {cs : List α} (h : cs.length = 14) : ∃ c0 c1 c2 c3 c4 c5 c6 c7 c8 c9 c10 c11 c12 c13, cs = [c0, c1, c2, c3, c4, c5, c6, c7, c8, c9, c10, c11, c12, c13] := by
  match cs, h with
  | [c0, c1, c2, c3, c4, c5, c6, c7, c8, c9, c10, c11, c12, c13], _ => exact ⟨c0, c1, c2, c3, c4, c5, c6, c7, c8, c9, c10, c11, c12, c13, rfl⟩

set_option maxHeartbeats 1000000 in
set_option maxRecDepth 100000 in
theorem read_task {H : Type} {enc : TypeId × Value → H} {W : World} {base : Nat} {spare : Nat → Bool} {held : Bool} {fuel : Nat} {cs : List Value} {x : DataW H × List MemPlace}
    (h : DataW.trod enc Try.prog W base spare held fuel 43 cs = some x) : ∃ t : Tsk, cs = (tc t).toList := by
  have ci : Try.prog.cellsOf 3 = 1 := by kernel_rfl
  have cb : Try.prog.cellsOf 4 = 1 := by kernel_rfl
  have ct : Try.prog.cellsOf 43 = 14 := by kernel_rfl
  obtain ⟨xs, n, _, _, hl, hxl, hf⟩ := DataW.trod_struct Try.underlying43 h
  rw [ct] at hl
  replace hxl : xs.length = 14 := hxl
  have g0 : DataW.trod enc Try.prog W base spare held n 3 ((cs.drop 0).take (Try.prog.cellsOf 3)) = xs[0]? := hf 0 _ rfl
  rw [ci, List.getElem?_eq_getElem (show 0 < xs.length by omega)] at g0
  obtain ⟨x0, e0⟩ := read_int g0
  have g1 : DataW.trod enc Try.prog W base spare held n 3 ((cs.drop 1).take (Try.prog.cellsOf 3)) = xs[1]? := hf 1 _ rfl
  rw [ci, List.getElem?_eq_getElem (show 1 < xs.length by omega)] at g1
  obtain ⟨x1, e1⟩ := read_int g1
  have g2 : DataW.trod enc Try.prog W base spare held n 3 ((cs.drop 2).take (Try.prog.cellsOf 3)) = xs[2]? := hf 2 _ rfl
  rw [ci, List.getElem?_eq_getElem (show 2 < xs.length by omega)] at g2
  obtain ⟨x2, e2⟩ := read_int g2
  have g3 : DataW.trod enc Try.prog W base spare held n 3 ((cs.drop 3).take (Try.prog.cellsOf 3)) = xs[3]? := hf 3 _ rfl
  rw [ci, List.getElem?_eq_getElem (show 3 < xs.length by omega)] at g3
  obtain ⟨x3, e3⟩ := read_int g3
  have g4 : DataW.trod enc Try.prog W base spare held n 4 ((cs.drop 4).take (Try.prog.cellsOf 4)) = xs[4]? := hf 4 _ rfl
  rw [cb, List.getElem?_eq_getElem (show 4 < xs.length by omega)] at g4
  obtain ⟨x4, e4⟩ := read_bool g4
  have g5 : DataW.trod enc Try.prog W base spare held n 3 ((cs.drop 5).take (Try.prog.cellsOf 3)) = xs[5]? := hf 5 _ rfl
  rw [ci, List.getElem?_eq_getElem (show 5 < xs.length by omega)] at g5
  obtain ⟨x5, e5⟩ := read_int g5
  have g6 : DataW.trod enc Try.prog W base spare held n 3 ((cs.drop 6).take (Try.prog.cellsOf 3)) = xs[6]? := hf 6 _ rfl
  rw [ci, List.getElem?_eq_getElem (show 6 < xs.length by omega)] at g6
  obtain ⟨x6, e6⟩ := read_int g6
  have g7 : DataW.trod enc Try.prog W base spare held n 3 ((cs.drop 7).take (Try.prog.cellsOf 3)) = xs[7]? := hf 7 _ rfl
  rw [ci, List.getElem?_eq_getElem (show 7 < xs.length by omega)] at g7
  obtain ⟨x7, e7⟩ := read_int g7
  have g8 : DataW.trod enc Try.prog W base spare held n 3 ((cs.drop 8).take (Try.prog.cellsOf 3)) = xs[8]? := hf 8 _ rfl
  rw [ci, List.getElem?_eq_getElem (show 8 < xs.length by omega)] at g8
  obtain ⟨x8, e8⟩ := read_int g8
  have g9 : DataW.trod enc Try.prog W base spare held n 3 ((cs.drop 9).take (Try.prog.cellsOf 3)) = xs[9]? := hf 9 _ rfl
  rw [ci, List.getElem?_eq_getElem (show 9 < xs.length by omega)] at g9
  obtain ⟨x9, e9⟩ := read_int g9
  have g10 : DataW.trod enc Try.prog W base spare held n 3 ((cs.drop 10).take (Try.prog.cellsOf 3)) = xs[10]? := hf 10 _ rfl
  rw [ci, List.getElem?_eq_getElem (show 10 < xs.length by omega)] at g10
  obtain ⟨x10, e10⟩ := read_int g10
  have g11 : DataW.trod enc Try.prog W base spare held n 3 ((cs.drop 11).take (Try.prog.cellsOf 3)) = xs[11]? := hf 11 _ rfl
  rw [ci, List.getElem?_eq_getElem (show 11 < xs.length by omega)] at g11
  obtain ⟨x11, e11⟩ := read_int g11
  have g12 : DataW.trod enc Try.prog W base spare held n 3 ((cs.drop 12).take (Try.prog.cellsOf 3)) = xs[12]? := hf 12 _ rfl
  rw [ci, List.getElem?_eq_getElem (show 12 < xs.length by omega)] at g12
  obtain ⟨x12, e12⟩ := read_int g12
  have g13 : DataW.trod enc Try.prog W base spare held n 3 ((cs.drop 13).take (Try.prog.cellsOf 3)) = xs[13]? := hf 13 _ rfl
  rw [ci, List.getElem?_eq_getElem (show 13 < xs.length by omega)] at g13
  obtain ⟨x13, e13⟩ := read_int g13
  obtain ⟨c0, c1, c2, c3, c4, c5, c6, c7, c8, c9, c10, c11, c12, c13, rfl⟩ := list14 hl
  simp at e0 e1 e2 e3 e4 e5 e6 e7 e8 e9 e10 e11 e12 e13
  subst e0 e1 e2 e3 e4 e5 e6 e7 e8 e9 e10 e11 e12 e13
  exact ⟨⟨x0, x1, x2, x3, x4, x5, x6, x7, x8, x9, x10, x11, x12, x13⟩, rfl⟩

set_option maxRecDepth 100000 in
theorem open_task {H : Type} {enc : TypeId × Value → H} {W : World} {r : Reach} {b0 : Nat} {v : Value} {d : DataW H} {p : List MemPlace}
    (hv : Value.okWide Try.prog W r b0 43 v) (h : DataW.Trod enc Try.prog W 0 (fun _ => true) true 43 v d p) : ∃ t : Tsk, v = tk t := by
  obtain ⟨cs, rfl, _⟩ := okWide_struct Try.underlying43 hv
  obtain ⟨fuel, hf⟩ := h
  obtain ⟨t, ht⟩ := read_task hf
  refine ⟨t, ?_⟩
  simp only [Value.cells] at ht
  exact congrArg Value.agg (Array.ext' ht)

theorem addr_add (b off n : Nat) : (⟨b, off, none⟩ : Addr).add n = ⟨b, off + n, none⟩ := by
  unfold Addr.add
  by_cases h : n = 0 <;> simp [h]

set_option maxRecDepth 100000 in
theorem open_tasks {H : Type} {enc : TypeId × Value → H} {W : World} {a : Option Addr} {len cap : Nat} {d : DataW H} {p : List MemPlace}
    (h : DataW.Trod enc Try.prog W 0 (fun _ => true) true 48 (.slice a len cap) d p) : ∃ ts : List Tsk, ts.length = len ∧ ts.length ≤ maxLen ∧ Lies 14 tc W a ts := by
  have ct : Try.prog.cellsOf 43 = 14 := by kernel_rfl
  obtain ⟨fuel, hf⟩ := h
  rcases Go.Deep.open_slice Try.underlying48 hf with ⟨hcs, _⟩ | ⟨x, l, c, m, n, D, Pl, hcs, _, hl, hm, hmm, _, hc⟩
  · simp [Value.cells] at hcs
    obtain ⟨rfl, rfl, rfl⟩ := hcs
    exact ⟨[], rfl, by simp, .inl rfl⟩
  · simp [Value.cells] at hcs
    obtain ⟨rfl, rfl, rfl⟩ := hcs
    have hml : len ≤ m := by rw [hmm]; simp; omega
    rw [ct] at hc
    have each : ∀ i, i < len → ∃ t : Tsk, ∀ k, k < 14 → W.cell? ((x.add (i * 14)).add k) = (tc t)[k]? := by
      intro i hi
      obtain ⟨cs', h1, h2⟩ := hc i (by omega)
      obtain ⟨_, _, hcell⟩ := World.cells?_some h1
      obtain ⟨t, rfl⟩ := read_task h2
      exact ⟨t, fun k hk => by rw [hcell k hk]; simp⟩
    haveI : Inhabited Tsk := ⟨Tsk.zero⟩
    obtain ⟨T, hT⟩ := Go.Deep.choose_lt each
    refine ⟨(List.range len).map T, by simp, by simp; omega, ?_⟩
    obtain ⟨b, off, spot⟩ := x
    by_cases h0 : len = 0
    · subst h0; exact .inl rfl
    · have hs : spot = none := by
        have h1 := hT 0 (by omega) 0 (by omega)
        have h2 := World.cell?_spot (h1.trans (by rfl : (tc (T 0))[0]? = some (.int .i64 (T 0).no)))
        simpa [Addr.add] using h2
      subst hs
      have hb : b < W.heap.size := by
        have h1 := (hT 0 (by omega) 0 (by omega)).trans (by rfl : (tc (T 0))[0]? = some (.int .i64 (T 0).no))
        have := World.block_lt_of_cell? W _ h1
        simpa [Addr.add] using this
      refine .inr ⟨b, off, rfl, hb, fun i t hi k hk => ?_⟩
      have hi' : i < len := by
        rcases Nat.lt_or_ge i len with h | h
        · exact h
        · rw [List.getElem?_eq_none (by simpa using h)] at hi; cases hi
      have e : T i = t := by simpa [hi'] using hi
      have := hT i hi' k hk
      rwa [addr_add, addr_add, e] at this
end Go.Proofs.Ytdndgacaohmdnaa
