/-
  Nothing old has turned, and a block holds its cells.
  What a heap's walk needs of every kind: loops of two rounds, appends in a drawn region, swaps of two elements of nine cells.
-/
import Derived.Test.YtpikopdfkhagmaaDoorPutC
import Derived.Test.YtpikopdfkhagmaaDoorGrow
import Derived.Deep.RegionLaw
import Derived.BigRegion
namespace Go.Proofs.YtpikopdfkhagmaaDoor
open Go.RowKit

/-- Nothing old has turned, and block b holds C. -/
structure Has (w : World) (b : Nat) (C : Array Value) (w' : World) : Prop where
  keeps : Keeps w w'
  box : Blk w' b C
theorem Has.go {w : World} {b : Nat} {C : Array Value} {w1 w2 : World} (h : Has w b C w1) (k : Keeps w1 w2) : Has w b C w2 := ⟨h.keeps.trans k, h.box.keeps k⟩
theorem Has.set {w : World} {b : Nat} {C : Array Value} {w1 : World} (h : Has w b C w1) {r : Nat} (hr : w.heap.size ≤ r) (hb : r ≠ b) (k : Nat) (v : Value) : Has w b C (w1.setCell ⟨r, k, none⟩ v) := ⟨h.keeps.setCell hr v, h.box.far hb v⟩
theorem Has.put {w : World} {b : Nat} {C : Array Value} {w1 : World} (h : Has w b C w1) {r : Nat} (hr : w.heap.size ≤ r) (hb : r ≠ b) (k : Nat) (L : List Value) : Has w b C (putC w1 r k L) := ⟨Keeps.putC hr L k h.keeps, Blk.farC hb L k h.box⟩
end Go.Proofs.YtpikopdfkhagmaaDoor
namespace Go.Proofs.YtpikopdfkhagmaaDoor
open Go.RowKit
theorem Own.free {α : Type} {e : TypeId} {sz : Nat} {c : α → Array Value} {w : World} {base b cap n : Nat} {xs : List α} (h : Own e sz c w base (.slice (Option.some ⟨b, 0, none⟩) n cap) xs) : base ≤ b ∧ b < w.heap.size ∧ ∀ k, w.frozen? ⟨b, k, none⟩ = false := by
  obtain ⟨_, ⟨e, _⟩ | ⟨b', cp, cur, e, hb, hh, _⟩⟩ := h
  · simp at e
  · simp only [Value.slice.injEq, Option.some.injEq, Addr.mk.injEq] at e
    obtain ⟨⟨rfl, -⟩, -, -⟩ := e
    have hlt : b < w.heap.size := by
      rcases Nat.lt_or_ge b w.heap.size with hlt | hge
      · exact hlt
      · rw [Array.getElem?_eq_none hge] at hh; cases hh
    exact ⟨hb, hlt, fun k => by simp [World.frozen?, hh]⟩
theorem Blk.grown {w w' : World} {b : Nat} {C : Array Value} {row : Option Nat} (h : Blk w b C) (hg : w.grownBy w' row) (hr : ∀ k, row = some k → k ≠ b) : Blk w' b C := by
  have e := hg.block b h.lt (fun e => hr b e.symm rfl)
  exact ⟨Nat.lt_of_lt_of_le h.lt hg.size, fun k => (World.cell?_of_block (w := w) e).trans (h.cells k), fun k => (World.frozen?_of_block (w := w) e).trans (h.frozens k)⟩

end Go.Proofs.YtpikopdfkhagmaaDoor
