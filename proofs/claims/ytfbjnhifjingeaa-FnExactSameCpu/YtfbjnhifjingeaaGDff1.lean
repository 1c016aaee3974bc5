/-
  The walks of the exact laws of chapter 4, over contracts of the program's functions.
  Fair shares: contracts of the model's functions.
  Fair shares over lists: contracts of the model's functions.
-/
import Derived.Test.YtfbjnhifjingeaaGPure1
import Derived.Test.YtfbjnhifjingeaaGBase1
import Derived.Test.YtfbjnhifjingeaaGTask2
namespace Go.Proofs.Ytfbjnhifjingeaa
open Go.RowKit
attribute [local go_sem] Keeps.refl Keeps.alloc Keeps.drew Keeps.drewN

theorem eqShare_same (q p : Int) (w : World) :
    Calls Try.prog 55 #[sh q p, sh q p] w fun e w' => e = .returned (.bool true) ∧ Keeps w w' := by
  have e1 : ∀ x : Int, (x != x) = false := by simp
  go_enter Try.func55, Try.ntmps55
  go_wp2
  go_ret
  exact ⟨rfl, ((Keeps.refl _).alloc _).alloc _⟩

end Go.Proofs.Ytfbjnhifjingeaa
namespace Go.Proofs.Ytfbjnhifjingeaa
open Go.RowKit
attribute [local go_sem] Keeps.refl Keeps.alloc Keeps.drew Keeps.drewN

set_option maxRecDepth 100000 in
theorem l1Max_any (a b : Int) (w : World) :
    Calls Try.prog 59 #[.int .i64 a, .int .i64 b] w fun e w' => e = .returned (.int .i64 (max a b)) ∧ w' = w := by
  by_cases h : a > b
  · have Hr : Hid (max a b = a) := by show _ = _; omega
    go_enter Try.func59, Try.ntmps59
    go_wp2
    go_ret
    exact ⟨by rw [Hr.out]; rfl, rfl⟩
  · have Hr : Hid (max a b = b) := by show _ = _; omega
    have hd : decide (a > b) = false := by simpa using h
    go_enter Try.func59, Try.ntmps59
    go_wp2
    go_ret
    exact ⟨by rw [Hr.out]; rfl, rfl⟩

end Go.Proofs.Ytfbjnhifjingeaa
namespace Go.Proofs.Ytfbjnhifjingeaa
open Go.RowKit
attribute [local go_sem] Keeps.refl Keeps.alloc Keeps.drew Keeps.drewN

theorem foldl_take {α β : Type} (f : β → α → β) (a : β) {ts : List α} {k : Nat} {t : α} (h : ts[k]? = some t) : (ts.take (k + 1)).foldl f a = f ((ts.take k).foldl f a) t := by
  have hk : k < ts.length := by
    rcases Nat.lt_or_ge k ts.length with h' | h'
    · exact h'
    · simp [List.getElem?_eq_none h'] at h
  rw [List.getElem?_eq_getElem hk] at h
  rw [List.take_succ_eq_append_getElem hk, List.foldl_append]
  simp only [Option.some.injEq] at h
  rw [h]
  rfl
theorem foldl_all {α β : Type} (f : β → α → β) (a : β) {ts : List α} {k : Nat} (h : ts.length ≤ k) : (ts.take k).foldl f a = ts.foldl f a := by rw [List.take_of_length_le h]

end Go.Proofs.Ytfbjnhifjingeaa
