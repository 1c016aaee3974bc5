/-
  What a heap's walk needs of every kind: loops of two rounds, appends in a drawn region, swaps of two elements of nine cells.
-/
import Derived.Test.YtpikopdfkhagmaaDoorHas
import Derived.Test.YtpikopdfkhagmaaDoorGrow
import Derived.Deep.RegionLaw
import Derived.BigRegion
namespace Go.Proofs.YtpikopdfkhagmaaDoor
open Go.RowKit
theorem Own.free {α : Type} {e : TypeId} {sz : Nat} {c : α → Array Value} {w : World} {base b cap n : Nat} {xs : List α} (h : Own e sz c w base (.slice (Option.some ⟨b, 0, none⟩) n cap) xs) : base ≤ b ∧ b < w.heap.size ∧ ∀ k, w.frozen? ⟨b, k, none⟩ = false := by
  obtain ⟨_, ⟨e, _⟩ | ⟨b', cp, cur, e, hb, hh, _⟩⟩ := h
  · simp at e
  · simp only [Value.slice.injEq, Option.some.injEq, Addr.mk.injEq] at e
    obtain ⟨⟨rfl, -⟩, -, -⟩ := e
    have hlt : b < w.heap.size := by
      rcases Nat.lt_or_ge b w.heap.size with hlt | hge
      · exact hlt
      · rw [Array.getElem?_eq_none hge] at hh; cases hh
    exact ⟨hb, hlt, fun k => by simp [World.frozen?, hh]⟩
theorem Blk.grown {w w' : World} {b : Nat} {C : Array Value} {row : Option Nat} (h : Blk w b C) (hg : w.grownBy w' row) (hr : ∀ k, row = some k → k ≠ b) : Blk w' b C := by
  have e := hg.block b h.lt (fun e => hr b e.symm rfl)
  exact ⟨Nat.lt_of_lt_of_le h.lt hg.size, fun k => (World.cell?_of_block (w := w) e).trans (h.cells k), fun k => (World.frozen?_of_block (w := w) e).trans (h.frozens k)⟩

end Go.Proofs.YtpikopdfkhagmaaDoor
