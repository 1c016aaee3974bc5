/-
  A block that holds these cells.
-/
import Derived.Test.YtpikopdfkhagmaaDoorBase
namespace Go.Proofs.YtpikopdfkhagmaaDoor
open Go.RowKit

theorem setCell_same {w : World} {b o : Nat} {u : Value} (h : w.cell? ⟨b, o, none⟩ = some u) (v : Value) : (w.setCell ⟨b, o, none⟩ v).cell? ⟨b, o, none⟩ = some v := World.cell?_setCell_same (h := h) ..
theorem setCell_other {w : World} {b o b' o' : Nat} (h : b ≠ b' ∨ o ≠ o') (v : Value) : (w.setCell ⟨b, o, none⟩ v).cell? ⟨b', o', none⟩ = w.cell? ⟨b', o', none⟩ := by
  refine World.cell?_setCell_other (h := ?_) ..
  simp only [ne_eq, Addr.mk.injEq, not_and]
  intro e f; omega
/-- The block b holds the cells C, and may be written. -/
structure Blk (w : World) (b : Nat) (C : Array Value) : Prop where
  lt : b < w.heap.size
  cells : ∀ k, w.cell? ⟨b, k, none⟩ = C[k]?
  frozens : ∀ k, w.frozen? ⟨b, k, none⟩ = false
theorem Blk.keeps {w w' : World} {b : Nat} {C : Array Value} (h : Blk w b C) (k : Keeps w w') : Blk w' b C :=
  ⟨Nat.lt_of_lt_of_le h.lt k.size, fun i => (k.cells b i h.lt).trans (h.cells i), fun i => (k.frozens b i h.lt).trans (h.frozens i)⟩
theorem Blk.new (w : World) (C : Array Value) (t : TypeId) : Blk (w.alloc (.cells C t)) w.heap.size C :=
  ⟨by simp [go_sem], fun k => by simp [go_sem], fun k => by simp [go_sem]⟩
/-- The rules of a new block; what was there stays. -/
theorem blkR (w : World) (C : Array Value) (t : TypeId) : ∀ w', Keeps (w.alloc (.cells C t)) w' → ∀ j, w'.cell? ⟨w.heap.size, j, none⟩ = C[j]? := fun _ k => ((Blk.new w C t).keeps k).cells
theorem blkK (w : World) (o : Obj) : Keeps w (w.alloc o) := (Keeps.refl w).alloc o
theorem Blk.alloc {w : World} {b : Nat} {C : Array Value} (h : Blk w b C) (o : Obj) : Blk (w.alloc o) b C := h.keeps ((Keeps.refl w).alloc o)
theorem Blk.far {w : World} {b c o : Nat} {C : Array Value} (h : Blk w b C) (hc : c ≠ b) (x : Value) : Blk (w.setCell ⟨c, o, none⟩ x) b C :=
  ⟨by simpa using h.lt, fun k => by rw [setCell_other (.inl hc)]; exact h.cells k, fun k => by simpa using h.frozens k⟩
theorem Blk.set {w : World} {b : Nat} {C : Array Value} (h : Blk w b C) (k : Nat) (hk : k < C.size) (x : Value) : Blk (w.setCell ⟨b, k, none⟩ x) b (C.setIfInBounds k x) :=
  ⟨by simpa using h.lt, fun i => by
    by_cases e : k = i
    · subst e
      rw [Array.getElem?_setIfInBounds_self_of_lt hk]
      exact setCell_same (u := C[k]) (by rw [h.cells]; simp [hk]) _
    · rw [setCell_other (.inr e), h.cells, Array.getElem?_setIfInBounds_ne e], fun i => by simpa using h.frozens i⟩
end Go.Proofs.YtpikopdfkhagmaaDoor
