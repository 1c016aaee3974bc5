/-
  Sums of parts without loss: the plain arithmetic. No Go in sight.
  Sums of parts of time: contracts of the functions that add parts up, of the program and of the model.
-/
import Derived.Test.YtpikopdfkhagmaaDoorRows
import Derived.Test.YtpikopdfkhagmaaDoorBlk
import Derived.Test.YtpikopdfkhagmaaDoorShare
import Derived.Deep.OwnRows
namespace Go.Proofs.YtpikopdfkhagmaaDoor.Plain

end Go.Proofs.YtpikopdfkhagmaaDoor.Plain
namespace Go.Proofs.YtpikopdfkhagmaaDoor
open Go.RowKit
attribute [local go_sem] Keeps.refl Keeps.alloc Keeps.drew Keeps.drewN

/-- The parts xs lie in the world, one behind the other, from the address on. -/
def Sh (w : World) (a : Option Addr) (xs : List (Int × Int)) : Prop :=
  xs = [] ∨ ∃ b off, a = some ⟨b, off, none⟩ ∧ ∀ i, i < xs.length → w.cell? ⟨b, off + i * 2, none⟩ = some (.int .i64 (xs.getD i (0, 0)).1) ∧ w.cell? ⟨b, off + i * 2 + 1, none⟩ = some (.int .i64 (xs.getD i (0, 0)).2)
theorem Sh.keeps {w w' : World} {a : Option Addr} {xs : List (Int × Int)} (h : Sh w a xs) (k : Keeps w w') : Sh w' a xs := by
  rcases h with h | ⟨b, off, rfl, h⟩
  · exact .inl h
  · exact .inr ⟨b, off, rfl, fun i hi => ⟨Keeps.has (h i hi).1 _ k, Keeps.has (h i hi).2 _ k⟩⟩
theorem Sh.at {w : World} {a : Option Addr} {xs : List (Int × Int)} (h : Sh w a xs) {i : Nat} (hi : i < xs.length) :
    ∃ b off q p, a = some ⟨b, off, none⟩ ∧ xs.getD i (0, 0) = (q, p) ∧ w.cell? ⟨b, off + i * 2, none⟩ = some (.int .i64 q) ∧ w.cell? ⟨b, off + i * 2 + 1, none⟩ = some (.int .i64 p) := by
  rcases h with rfl | ⟨b, off, rfl, h⟩
  · simp at hi
  · exact ⟨b, off, _, _, rfl, rfl, (h i hi).1, (h i hi).2⟩

open Plain

/-- A block of two cells that may be written. -/
def SumTwo (w : World) (b : Nat) (v0 v1 : Value) : Prop := w.cell? ⟨b, 0, none⟩ = some v0 ∧ w.cell? ⟨b, 1, none⟩ = some v1 ∧ w.frozen? ⟨b, 0, none⟩ = false ∧ w.frozen? ⟨b, 1, none⟩ = false

theorem SumTwo.rules {w : World} {b : Nat} {v0 v1 : Value} (h : SumTwo w b v0 v1) : (∀ w', Keeps w w' → w'.cell? ⟨b, 0, none⟩ = some v0) ∧ (∀ w', Keeps w w' → w'.cell? ⟨b, 1, none⟩ = some v1) ∧ (∀ w', Keeps w w' → w'.frozen? ⟨b, 0, none⟩ = false) ∧ ∀ w', Keeps w w' → w'.frozen? ⟨b, 1, none⟩ = false := by
  obtain ⟨h1, h2, h3, h4⟩ := h
  have hb : b < w.heap.size := World.block_lt_of_cell? w _ h1
  exact ⟨Keeps.has h1, Keeps.has h2, fun w' k => (k.frozens b 0 hb).trans h3, fun w' k => (k.frozens b 1 hb).trans h4⟩
theorem SumTwo.keeps {w w' : World} {b : Nat} {v0 v1 : Value} (h : SumTwo w b v0 v1) (k : Keeps w w') : SumTwo w' b v0 v1 :=
  ⟨h.rules.1 _ k, h.rules.2.1 _ k, h.rules.2.2.1 _ k, h.rules.2.2.2 _ k⟩
theorem SumTwo.set {w : World} {b : Nat} {v0 v1 : Value} (h : SumTwo w b v0 v1) (x y : Value) : SumTwo ((w.setCell ⟨b, 0, none⟩ x).setCell ⟨b, 1, none⟩ y) b x y := by
  obtain ⟨h1, h2, h3, h4⟩ := h
  have e2 : (w.setCell ⟨b, 0, none⟩ x).cell? ⟨b, 1, none⟩ = some v1 := by rw [setCell_other (by omega), h2]
  exact ⟨by rw [setCell_other (by omega), setCell_same h1], setCell_same e2 _, by simp [h3], by simp [h4]⟩
theorem SumTwo.other {w : World} {b c : Nat} {v0 v1 : Value} (h : SumTwo w b v0 v1) (hc : c ≠ b) (x y : Value) : SumTwo ((w.setCell ⟨c, 0, none⟩ x).setCell ⟨c, 1, none⟩ y) b v0 v1 := by
  obtain ⟨h1, h2, h3, h4⟩ := h
  exact ⟨by rw [setCell_other (by omega), setCell_other (by omega), h1], by rw [setCell_other (by omega), setCell_other (by omega), h2], by simp [h3], by simp [h4]⟩
theorem SumTwo.lt {w : World} {b : Nat} {v0 v1 : Value} (h : SumTwo w b v0 v1) : b < w.heap.size := World.block_lt_of_cell? w _ h.1

end Go.Proofs.YtpikopdfkhagmaaDoor
