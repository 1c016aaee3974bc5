/-
  A row of one's own that grows beside a cursor that turns.
-/
import Derived.Test.YtpikopdfkhagmaaDoorOwn
import Derived.Test.YtpikopdfkhagmaaDoorCur
namespace Go.Proofs.YtpikopdfkhagmaaDoor
open Go.RowKit

/-- A row that is not empty has an address. -/
theorem Own.some {α : Type} {e : TypeId} {sz : Nat} {c : α → Array Value} {w : World} {base : Nat} {v : Value} {xs : List α} (h : Own e sz c w base v xs) (hc : ∀ x, (c x).size = sz) (hx : 0 < xs.length) :
    ∃ b cap, v = .slice (Option.some ⟨b, 0, none⟩) xs.length cap ∧ Lies sz c w (Option.some ⟨b, 0, none⟩) xs ∧ xs.length ≤ cap ∧ cap ≤ maxLen := by
  obtain ⟨a, cap, rfl, l, h1, h2⟩ := h.slice hc
  obtain ⟨_, ⟨e, _⟩ | ⟨b, cp, cur, e, _⟩⟩ := h
  · simp only [Value.slice.injEq] at e; omega
  · simp only [Value.slice.injEq] at e
    obtain ⟨rfl, -, -⟩ := e
    exact ⟨b, cap, rfl, l, h1, h2⟩
theorem KeepsBut.grown {g : Nat} {w a b : World} {row : Option Nat} (h : KeepsBut g w a) (hg : a.grownBy b row) (hr : ∀ k, row = some k → w.heap.size ≤ k) : KeepsBut g w b :=
  ⟨hg.os.trans h.os, hg.tape.trans h.tape, hg.output.trans h.output, Nat.le_trans h.size hg.size, fun k hk hkg => (hg.block k (Nat.lt_of_lt_of_le hk h.size) (fun e => by have := hr k e.symm; omega)).trans (h.block k hk hkg)⟩
theorem Bytes.same {g : Nat} {w w' : World} {a : Option Addr} {n : Nat} (h : Bytes g w a n) (k : ∀ i, i ≤ g → w'.heap[i]? = w.heap[i]?) : Bytes g w' a n := by
  rcases h with h | ⟨b, off, rfl, hg, h⟩
  · exact .inl h
  · exact .inr ⟨b, off, rfl, hg, fun j hj => by obtain ⟨z, h0, h1, hc⟩ := h j hj; exact ⟨z, h0, h1, (World.cell?_of_block (w := w) (k b (by omega))).trans hc⟩⟩
/-- The cursor looks at no block above its own. -/
theorem Cur.same {w w' : World} {g : Nat} (h : Cur w g) (k : ∀ i, i ≤ g → w'.heap[i]? = w.heap[i]?) : Cur w' g := by
  obtain ⟨a, n, cap, i, h, c0, c1, c2, f1, f2, hi, hn, hb⟩ := h
  have e := k g (Nat.le_refl _)
  exact ⟨a, n, cap, i, h, (World.cell?_of_block (w := w) e).trans c0, (World.cell?_of_block (w := w) e).trans c1, (World.cell?_of_block (w := w) e).trans c2, (World.frozen?_of_block (w := w) e).trans f1, (World.frozen?_of_block (w := w) e).trans f2, hi, hn, hb.same k⟩
theorem Cur.grown {w w' : World} {g : Nat} {row : Option Nat} (h : Cur w g) (hg : w.grownBy w' row) (hr : ∀ k, row = some k → g < k) : Cur w' g := by
  have hl := h.lt
  exact h.same fun i hi => hg.block i (by omega) (fun e => by have := hr i e.symm; omega)

variable {P : Program}
end Go.Proofs.YtpikopdfkhagmaaDoor
