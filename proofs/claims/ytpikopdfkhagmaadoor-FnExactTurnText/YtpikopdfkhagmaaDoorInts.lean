/-
  Rows of numbers: the laws' own helpers over them.
-/
import Derived.Test.YtpikopdfkhagmaaDoorGrow
import Derived.Test.YtpikopdfkhagmaaDoorLockPure
namespace Go.Proofs.YtpikopdfkhagmaaDoor
open Go.RowKit
attribute [local go_sem] Keeps.refl Keeps.alloc Keeps.drew Keeps.drewN

theorem some_in {α : Type} {xs : List α} {k : Nat} (h : k < xs.length) : ∃ x, xs[k]? = some x := ⟨xs[k], List.getElem?_eq_getElem h⟩
theorem lt_of_some {α : Type} {xs : List α} {k : Nat} {x : α} (h : xs[k]? = some x) : k < xs.length := by
  rcases Nat.lt_or_ge k xs.length with h' | h'
  · exact h'
  · rw [List.getElem?_eq_none h'] at h; cases h
/-- The cells of a number. -/
abbrev ic (x : Int) : Array Value := #[.int .i64 x]
theorem ic_size (x : Int) : (ic x).size = 1 := rfl
/-- The numbers xs lie there. -/
def Ns (w : World) (a : Option Addr) (xs : List Int) : Prop := xs = [] ∨ ∃ b off, a = some ⟨b, off, none⟩ ∧ b < w.heap.size ∧ ∀ i x, xs[i]? = some x → w.cell? ⟨b, off + i, none⟩ = some (.int .i64 x)
theorem Ns.keeps {w w' : World} {a : Option Addr} {xs : List Int} (h : Ns w a xs) (k : Keeps w w') : Ns w' a xs := by
  rcases h with h | ⟨b, off, rfl, hb, h⟩
  · exact .inl h
  · exact .inr ⟨b, off, rfl, Nat.lt_of_lt_of_le hb k.size, fun i x hx => (k.cells _ _ hb).trans (h i x hx)⟩
theorem Ns.at {w : World} {a : Option Addr} {xs : List Int} (h : Ns w a xs) {i : Nat} {x : Int} (hx : xs[i]? = some x) :
    ∃ b off, a = some ⟨b, off, none⟩ ∧ ∀ w', Keeps w w' → w'.cell? ⟨b, off + i, none⟩ = some (.int .i64 x) := by
  rcases h with rfl | ⟨b, off, rfl, hb, h⟩
  · simp at hx
  · exact ⟨b, off, rfl, fun w' k => (k.cells _ _ hb).trans (h i x hx)⟩
theorem Ns.of_lies {w : World} {a : Option Addr} {xs : List Int} (h : Lies 1 ic w a xs) : Ns w a xs := by
  rcases h with h | ⟨b, off, rfl, hb, h⟩
  · exact .inl h
  · exact .inr ⟨b, off, rfl, hb, fun i x hx => by simpa using h i x hx 0 (by omega)⟩
theorem Ns.lies {w : World} {a : Option Addr} {xs : List Int} (h : Ns w a xs) : Lies 1 ic w a xs := by
  rcases h with h | ⟨b, off, rfl, hb, h⟩
  · exact .inl h
  · refine .inr ⟨b, off, rfl, hb, fun i x hx k hk => ?_⟩
    obtain rfl : k = 0 := by omega
    simpa using h i x hx
/-- A row of numbers of one's own. -/
abbrev OwnN (w : World) (base : Nat) (v : Value) (xs : List Int) : Prop := Own 3 1 ic w base v xs
theorem flatC_ic (xs : List Int) : flatC ic xs = xs.map fun x => .int .i64 x := by
  induction xs with
  | nil => rfl
  | cons x r ih =>
    show (ic x).toList ++ flatC ic r = _
    rw [ih]; rfl
theorem OwnN.ns {w : World} {base : Nat} {v : Value} {xs : List Int} (h : OwnN w base v xs) : ∃ a cap, v = .slice a xs.length cap ∧ Ns w a xs ∧ xs.length ≤ cap ∧ cap ≤ maxLen := by
  obtain ⟨a, cap, e, l, h1, h2⟩ := h.slice ic_size
  exact ⟨a, cap, e, .of_lies l, h1, h2⟩
theorem OwnN.of {w : World} {base b cap : Nat} {xs : List Int} {ys : List Value} (h : w.ownsRow base 3 1 (.slice (some ⟨b, 0, none⟩) xs.length cap) xs.length ys) (hy : ∀ (j : Nat) (x : Int), xs[j]? = some x → ys[j]? = some (.int .i64 x)) : OwnN w base (.slice (some ⟨b, 0, none⟩) xs.length cap) xs := by
  have e : ys = flatC ic xs := by
    rw [flatC_ic]
    have hl : ys.length = xs.length := by have := h.1; omega
    apply List.ext_getElem?
    intro j
    rcases Nat.lt_or_ge j xs.length with hj | hj
    · rw [hy j xs[j] (List.getElem?_eq_getElem hj)]
      simp [hj]
    · rw [List.getElem?_eq_none (by omega), List.getElem?_eq_none (by simpa using hj)]
  unfold OwnN Own
  rw [← e]
  exact h

/-- What is left behind n more; -1 where that is too little. -/
def szOf (n : Nat) (left : Int) : Int := if (n : Int) ≤ left then left - n else -1
end Go.Proofs.YtpikopdfkhagmaaDoor
