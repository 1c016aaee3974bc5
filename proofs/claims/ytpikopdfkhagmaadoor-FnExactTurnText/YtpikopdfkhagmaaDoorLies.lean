/-
  Rows of elements of one size that lie one behind the other; a row of one's own that grows.
-/
import Derived.Test.YtpikopdfkhagmaaDoorBlk
import Derived.Deep.OwnRows
namespace Go.Proofs.YtpikopdfkhagmaaDoor
open Go.RowKit

/-- The elements xs lie in the world, one behind the other, from the address on; c tells an element's cells. -/
def Lies {α : Type} (sz : Nat) (c : α → Array Value) (w : World) (a : Option Addr) (xs : List α) : Prop :=
  xs = [] ∨ ∃ b off, a = some ⟨b, off, none⟩ ∧ b < w.heap.size ∧ ∀ i x, xs[i]? = some x → ∀ k, k < sz → w.cell? ⟨b, off + i * sz + k, none⟩ = (c x)[k]?
theorem Lies.keeps {α : Type} {sz : Nat} {c : α → Array Value} {w w' : World} {a : Option Addr} {xs : List α} (h : Lies sz c w a xs) (k : Keeps w w') : Lies sz c w' a xs := by
  rcases h with h | ⟨b, off, rfl, hb, h⟩
  · exact .inl h
  · exact .inr ⟨b, off, rfl, Nat.lt_of_lt_of_le hb k.size, fun i x hx j hj => (k.cells _ _ hb).trans (h i x hx j hj)⟩
theorem Lies.at {α : Type} {sz : Nat} {c : α → Array Value} {w : World} {a : Option Addr} {xs : List α} (h : Lies sz c w a xs) {i : Nat} {x : α} (hx : xs[i]? = some x) (h0 : 0 < sz) :
    ∃ b off, a = some ⟨b, off, none⟩ ∧ (∀ w', Keeps w w' → w'.cell? ⟨b, off + i * sz, none⟩ = (c x)[0]?) ∧ ∀ w', Keeps w w' → ∀ k, k < sz → w'.cell? ⟨b, off + i * sz + k, none⟩ = (c x)[k]? := by
  rcases h with rfl | ⟨b, off, rfl, hb, h⟩
  · simp at hx
  · exact ⟨b, off, rfl, fun w' k => (k.cells _ _ hb).trans (h i x hx 0 h0), fun w' k j hj => (k.cells _ _ hb).trans (h i x hx j hj)⟩
theorem Lies.nil {α : Type} (sz : Nat) (c : α → Array Value) (w : World) (a : Option Addr) : Lies sz c w a [] := .inl rfl
end Go.Proofs.YtpikopdfkhagmaaDoor
