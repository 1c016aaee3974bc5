/-
  Ticks: the last turns.
-/
import Derived.Test.YtpikopdfkhagmaaDoorSysCopy
import Derived.Test.YtpikopdfkhagmaaDoorSysMark2
import Derived.Test.YtpikopdfkhagmaaDoorSysPure2
import Derived.Test.YtpikopdfkhagmaaDoorHas
namespace Go.Proofs.YtpikopdfkhagmaaDoor
open Go.RowKit
attribute [local go_sem] Keeps.refl Keeps.alloc Keeps.drew Keeps.drewN

theorem Lies.drop {α : Type} {sz : Nat} {c : α → Array Value} {w : World} {b off : Nat} {xs : List α} (h : Lies sz c w (some ⟨b, off, none⟩) xs) (f : Nat) : Lies sz c w (some ⟨b, off + f * sz, none⟩) (xs.drop f) := by
  rcases h with h | ⟨b', off', e, hb, h⟩
  · exact .inl (by rw [h]; simp)
  · simp only [Option.some.injEq, Addr.mk.injEq] at e
    obtain ⟨rfl, rfl, -⟩ := e
    refine .inr ⟨b, _, rfl, hb, fun i x hi k hk => ?_⟩
    rw [List.getElem?_drop] at hi
    have := h (f + i) x hi k hk
    rw [Nat.add_mul] at this
    rw [show off + f * sz + i * sz + k = off + (f * sz + i * sz) + k from by omega]
    exact this
end Go.Proofs.YtpikopdfkhagmaaDoor
