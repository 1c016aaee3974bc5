/-
  The walks of the exact laws of chapter 4, over contracts of the program's functions.
  Fair shares over lists: contracts of the model's functions.
-/
import Derived.Test.YtfbjnhifjingeaaGreatDoorGPure1
import Derived.Test.YtfbjnhifjingeaaGreatDoorGBase1
import Derived.Test.YtfbjnhifjingeaaGreatDoorGTask2
namespace Go.Proofs.YtfbjnhifjingeaaGreatDoor
open Go.RowKit
attribute [local go_sem] Keeps.refl Keeps.alloc Keeps.drew Keeps.drewN

theorem eqShare_same (q p : Int) (w : World) :
    Calls Tryz.prog 75 #[sh q p, sh q p] w fun e w' => e = .returned (.bool true) ∧ Keeps w w' := by
  have e1 : ∀ x : Int, (x != x) = false := by simp
  go_enter Tryz.func75, Tryz.ntmps75
  go_wp2
  go_ret
  exact ⟨rfl, ((Keeps.refl _).alloc _).alloc _⟩

end Go.Proofs.YtfbjnhifjingeaaGreatDoor
namespace Go.Proofs.YtfbjnhifjingeaaGreatDoor
open Go.RowKit
attribute [local go_sem] Keeps.refl Keeps.alloc Keeps.drew Keeps.drewN

theorem foldl_take {α β : Type} (f : β → α → β) (a : β) {ts : List α} {k : Nat} {t : α} (h : ts[k]? = some t) : (ts.take (k + 1)).foldl f a = f ((ts.take k).foldl f a) t := by
  have hk : k < ts.length := by
    rcases Nat.lt_or_ge k ts.length with h' | h'
    · exact h'
    · simp [List.getElem?_eq_none h'] at h
  rw [List.getElem?_eq_getElem hk] at h
  rw [List.take_succ_eq_append_getElem hk, List.foldl_append]
  simp only [Option.some.injEq] at h
  rw [h]
  rfl
theorem foldl_all {α β : Type} (f : β → α → β) (a : β) {ts : List α} {k : Nat} (h : ts.length ≤ k) : (ts.take k).foldl f a = ts.foldl f a := by rw [List.take_of_length_le h]

end Go.Proofs.YtfbjnhifjingeaaGreatDoor
