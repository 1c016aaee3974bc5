/-
  Fair shares over lists: contracts of the model's functions.
-/
import Derived.Test.YtioffjgnfkjmkaaGPure1
import Derived.Test.YtioffjgnfkjmkaaGBase1
import Derived.Test.YtioffjgnfkjmkaaGTask2
namespace Go.Proofs.Ytioffjgnfkjmkaa
open Go.RowKit
attribute [local go_sem] Keeps.refl Keeps.alloc Keeps.drew Keeps.drewN

theorem foldl_take {α β : Type} (f : β → α → β) (a : β) {ts : List α} {k : Nat} {t : α} (h : ts[k]? = some t) : (ts.take (k + 1)).foldl f a = f ((ts.take k).foldl f a) t := by
  have hk : k < ts.length := by
    rcases Nat.lt_or_ge k ts.length with h' | h'
    · exact h'
    · simp [List.getElem?_eq_none h'] at h
  rw [List.getElem?_eq_getElem hk] at h
  rw [List.take_succ_eq_append_getElem hk, List.foldl_append]
  simp only [Option.some.injEq] at h
  rw [h]
  rfl
theorem foldl_all {α β : Type} (f : β → α → β) (a : β) {ts : List α} {k : Nat} (h : ts.length ≤ k) : (ts.take k).foldl f a = ts.foldl f a := by rw [List.take_of_length_le h]

end Go.Proofs.Ytioffjgnfkjmkaa
