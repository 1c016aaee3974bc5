/-
  Rows of elements of one size that lie one behind the other; a row of one's own that grows.
-/
import Derived.Test.YtglemedcnapneaaBlk
import Derived.Deep.OwnRows
namespace Go.Proofs.Ytglemedcnapneaa
open Go.RowKit

/-- The elements xs lie in the world, one behind the other, from the address on; c tells an element's cells. -/
def Lies {α : Type} (sz : Nat) (c : α → Array Value) (w : World) (a : Option Addr) (xs : List α) : Prop :=
  xs = [] ∨ ∃ b off, a = some ⟨b, off, none⟩ ∧ b < w.heap.size ∧ ∀ i x, xs[i]? = some x → ∀ k, k < sz → w.cell? ⟨b, off + i * sz + k, none⟩ = (c x)[k]?
theorem Lies.keeps {α : Type} {sz : Nat} {c : α → Array Value} {w w' : World} {a : Option Addr} {xs : List α} (h : Lies sz c w a xs) (k : Keeps w w') : Lies sz c w' a xs := by
  rcases h with h | ⟨b, off, rfl, hb, h⟩
  · exact .inl h
  · exact .inr ⟨b, off, rfl, Nat.lt_of_lt_of_le hb k.size, fun i x hx j hj => (k.cells _ _ hb).trans (h i x hx j hj)⟩
theorem Lies.at {α : Type} {sz : Nat} {c : α → Array Value} {w : World} {a : Option Addr} {xs : List α} (h : Lies sz c w a xs) {i : Nat} {x : α} (hx : xs[i]? = some x) (h0 : 0 < sz) :
    ∃ b off, a = some ⟨b, off, none⟩ ∧ (∀ w', Keeps w w' → w'.cell? ⟨b, off + i * sz, none⟩ = (c x)[0]?) ∧ ∀ w', Keeps w w' → ∀ k, k < sz → w'.cell? ⟨b, off + i * sz + k, none⟩ = (c x)[k]? := by
  rcases h with rfl | ⟨b, off, rfl, hb, h⟩
  · simp at hx
  · exact ⟨b, off, rfl, fun w' k => (k.cells _ _ hb).trans (h i x hx 0 h0), fun w' k j hj => (k.cells _ _ hb).trans (h i x hx j hj)⟩
theorem Lies.nil {α : Type} (sz : Nat) (c : α → Array Value) (w : World) (a : Option Addr) : Lies sz c w a [] := .inl rfl
/-- A row as a whole, read off its cells. -/
theorem Lies.of_row {α : Type} {sz : Nat} {c : α → Array Value} {w : World} {b : Nat} {t : TypeId} {n : Nat} {f : Nat → Value} {xs : List α} (h : w.rowIs b t n f) (hn : n = xs.length * sz)
    (hf : ∀ i x, xs[i]? = some x → ∀ k, k < sz → (c x)[k]? = some (f (i * sz + k))) : Lies sz c w (some ⟨b, 0, none⟩) xs := by
  refine .inr ⟨b, 0, rfl, h.lt, fun i x hx k hk => ?_⟩
  have hi : i < xs.length := by
    rcases Nat.lt_or_ge i xs.length with h | h
    · exact h
    · simp [List.getElem?_eq_none h] at hx
  have : i * sz + k < n := by
    have h1 : (i + 1) * sz ≤ xs.length * sz := Nat.mul_le_mul_right sz hi
    rw [Nat.add_mul, Nat.one_mul] at h1
    omega
  rw [Nat.zero_add, h.cell this, hf i x hx k hk]

/-- What make lays, of elements of whatever size: a new row. -/
theorem run_make_any {P : Program} (t e : TypeId) (z : Value) (size bytes : Nat) (ht : P.underlying t = some (.slice e)) (hinfo : (P.info? e).map (fun i => (i.zero, i.size, i.bytes)) = some (some z, size, bytes))
    (n : Nat) (hbytes : bytes * n ≤ 281474976710656) (h63 : n ≤ 9223372036854775807) :
    ∃ C : Array Value, C.size = n * size ∧ ∀ w : World, (Instr.makeSlice t (.int .i64 (n : Int)) (.int .i64 (n : Int))).run P w = .ok (.slice (some ⟨w.heap.size, 0, none⟩) n n) (w.alloc (.cells C e)) := by
  obtain ⟨i, hi, hzz⟩ := Option.map_eq_some_iff.1 hinfo
  simp only [Prod.mk.injEq] at hzz
  obtain ⟨hz, hs, hb⟩ := hzz
  refine ⟨madeCells z.cells (n * size), size_madeCells _ _, fun w => ?_⟩
  have hb' : (i.bytes : Int) * (n : Int) ≤ 281474976710656 := by
    have h : ((i.bytes * n : Nat) : Int) ≤ 281474976710656 := by rw [hb]; omega
    rwa [Int.natCast_mul] at h
  have hr := run_make (P := P) w t e i z ht hi hz .i64 .i64 n n (by omega) (Int.le_refl _) hb' (by omega)
  simp only [Int.toNat_natCast, hs] at hr
  exact hr
theorem rowIs_new (w : World) (C : Array Value) (t : TypeId) : ∃ f, (w.alloc (.cells C t)).rowIs w.heap.size t C.size f := by
  refine ⟨fun i => C.getD i undef, World.rowIs_alloc w C t _ fun i hi => ?_⟩
  simp [hi]
theorem rowIs_keeps {w w' : World} {b : Nat} {t : TypeId} {n : Nat} {f : Nat → Value} (h : w.rowIs b t n f) (k : Keeps w w') : w'.rowIs b t n f := h.of_block (Below.block k b h.lt)
end Go.Proofs.Ytglemedcnapneaa
