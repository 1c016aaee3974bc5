/-
  A row of one's own that grows by append: elements of one size, each told by its cells.
-/
import Derived.Test.YtpikopdfkhagmaaDoorLies
import Derived.Deep.AppendLies
import Derived.Laws.OwnMore
namespace Go.Proofs.YtpikopdfkhagmaaDoor
open Go.RowKit

/-- The cells of a list, one element behind the other. -/
def flatC {α : Type} (c : α → Array Value) (xs : List α) : List Value := xs.flatMap fun x => (c x).toList
theorem flatC_length {α : Type} {c : α → Array Value} {sz : Nat} (hc : ∀ x, (c x).size = sz) (xs : List α) : (flatC c xs).length = xs.length * sz := by
  induction xs with
  | nil => simp [flatC]
  | cons x r ih =>
    have e : flatC c (x :: r) = (c x).toList ++ flatC c r := rfl
    rw [e, List.length_append, ih, List.length_cons, Nat.add_mul, Nat.one_mul, Array.length_toList, hc, Nat.add_comm]
theorem flatC_at {α : Type} {c : α → Array Value} {sz : Nat} (hc : ∀ x, (c x).size = sz) : ∀ (xs : List α) (i : Nat) (x : α), xs[i]? = some x → ∀ k, k < sz → (flatC c xs)[i * sz + k]? = (c x)[k]?
  | [], i, x, h, _, _ => by simp at h
  | y :: r, 0, x, h, k, hk => by
    simp at h
    subst h
    have e : flatC c (y :: r) = (c y).toList ++ flatC c r := rfl
    rw [e, Nat.zero_mul, Nat.zero_add, List.getElem?_append_left (by simp [hc, hk])]
    simp
  | y :: r, i + 1, x, h, k, hk => by
    have ih := flatC_at hc r i x (by simpa using h) k hk
    have e : flatC c (y :: r) = (c y).toList ++ flatC c r := rfl
    rw [e, List.getElem?_append_right (by simp only [Array.length_toList, hc, Nat.add_mul, Nat.one_mul]; omega), ← ih]
    congr 1
    simp only [Array.length_toList, hc, Nat.add_mul, Nat.one_mul]
    omega
/-- The row v of xs is the call's own: it lies at or above base. -/
def Own {α : Type} (e : TypeId) (sz : Nat) (c : α → Array Value) (w : World) (base : Nat) (v : Value) (xs : List α) : Prop := w.ownsRow base e sz v xs.length (flatC c xs)
theorem Own.new {α : Type} (e : TypeId) (sz : Nat) (c : α → Array Value) (w : World) {base : Nat} (hb : base ≤ w.heap.size) : Own e sz c (w.alloc (.cells #[] e)) base (.slice (some ⟨w.heap.size, 0, none⟩) 0 0) [] :=
  World.ownsRow_made w #[] 0 hb (by simp) (by simp)
theorem Own.keeps {α : Type} {e : TypeId} {sz : Nat} {c : α → Array Value} {w w' : World} {base : Nat} {v : Value} {xs : List α} (h : Own e sz c w base v xs) (k : Keeps w w') : Own e sz c w' base v xs := by
  obtain ⟨h1, h2⟩ := h
  refine ⟨h1, ?_⟩
  rcases h2 with h2 | ⟨b, cap, cur, hv, hb, hh, r⟩
  · exact .inl h2
  · refine .inr ⟨b, cap, cur, hv, hb, ?_, r⟩
    have hlt : b < w.heap.size := by
      rcases Nat.lt_or_ge b w.heap.size with hlt | hge
      · exact hlt
      · rw [Array.getElem?_eq_none hge] at hh; cases hh
    rw [Below.block k b hlt]; exact hh
theorem Own.alloc {α : Type} {e : TypeId} {sz : Nat} {c : α → Array Value} {w : World} {base : Nat} {v : Value} {xs : List α} (h : Own e sz c w base v xs) (o : Obj) : Own e sz c (w.alloc o) base v xs := h.keeps ((Keeps.refl w).alloc o)
theorem Own.base {α : Type} {e : TypeId} {sz : Nat} {c : α → Array Value} {w : World} {base base' : Nat} {v : Value} {xs : List α} (h : Own e sz c w base v xs) (hb : base' ≤ base) : Own e sz c w base' v xs := by
  obtain ⟨h1, h2⟩ := h
  refine ⟨h1, ?_⟩
  rcases h2 with h2 | ⟨b, cap, cur, hv, hg, r⟩
  · exact .inl h2
  · exact .inr ⟨b, cap, cur, hv, Nat.le_trans hb hg, r⟩
/-- What it is as a slice, and what lies there. -/
theorem Own.slice {α : Type} {e : TypeId} {sz : Nat} {c : α → Array Value} {w : World} {base : Nat} {v : Value} {xs : List α} (h : Own e sz c w base v xs) (hc : ∀ x, (c x).size = sz) :
    ∃ a cap, v = .slice a xs.length cap ∧ Lies sz c w a xs ∧ xs.length ≤ cap ∧ cap ≤ maxLen := by
  obtain ⟨_, ⟨rfl, hn⟩ | ⟨b, cap, cur, rfl, hb, hh, hl, hm, hs, hx⟩⟩ := h
  · have : xs = [] := List.length_eq_zero_iff.1 hn
    subst this
    exact ⟨none, 0, rfl, .inl rfl, by simp, by simp⟩
  · have hlt : b < w.heap.size := by
      rcases Nat.lt_or_ge b w.heap.size with hlt | hge
      · exact hlt
      · rw [Array.getElem?_eq_none hge] at hh; cases hh
    refine ⟨_, cap, rfl, .inr ⟨b, 0, rfl, hlt, fun i x hx' k hk => ?_⟩, hl, hm⟩
    have hi : i < xs.length := by
      rcases Nat.lt_or_ge i xs.length with h | h
      · exact h
      · simp [List.getElem?_eq_none h] at hx'
    have hj : i * sz + k < xs.length * sz := by
      have h1 : (i + 1) * sz ≤ xs.length * sz := Nat.mul_le_mul_right sz hi
      rw [Nat.add_mul, Nat.one_mul] at h1
      omega
    rw [Nat.zero_add, ← flatC_at hc xs i x hx' k hk, ← hx]
    simp [World.cell?, hh, hj]
/-- Nothing old has turned where such a row has grown. -/
theorem Keeps.grown {w a b : World} {row : Option Nat} (h : Keeps w a) (hg : a.grownBy b row) (hr : ∀ k, row = some k → w.heap.size ≤ k) : Keeps w b :=
  ⟨hg.os.trans h.os, hg.tape.trans h.tape, hg.output.trans h.output, Nat.le_trans h.size hg.size, fun k hk => (hg.block k (Nat.lt_of_lt_of_le hk h.size) (fun e => by have := hr k e.symm; omega)).trans (h.block k hk)⟩

variable {P : Program}
end Go.Proofs.YtpikopdfkhagmaaDoor
