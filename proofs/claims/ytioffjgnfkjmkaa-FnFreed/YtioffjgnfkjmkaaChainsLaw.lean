/-
  The walk of FnChains, over contracts of the program's functions.
-/
import Derived.Test.YtioffjgnfkjmkaaGLock5
import Derived.Test.YtioffjgnfkjmkaaGLock4
namespace Go.Proofs.Ytioffjgnfkjmkaa
open Go.RowKit
attribute [local go_sem] Keeps.refl Keeps.alloc Keeps.drew Keeps.drewN

theorem hasB_take {xs : List Int} {k : Nat} {x : Int} (hn : ∀ {p q : Nat} {y : Int}, xs[p]? = some y → xs[q]? = some y → p = q) (hx : xs[k]? = some x) : hasB (xs.take k) x = false := by
  rw [hasB_no]
  intro h
  obtain ⟨j, hj, e⟩ := List.mem_iff_getElem.1 h
  simp only [List.length_take] at hj
  have h1 : (xs.take k)[j]? = some x := by rw [List.getElem?_eq_getElem (by simp; omega), e]
  rw [List.getElem?_take] at h1
  split at h1
  · have := hn h1 hx; omega
  · cases h1

end Go.Proofs.Ytioffjgnfkjmkaa
