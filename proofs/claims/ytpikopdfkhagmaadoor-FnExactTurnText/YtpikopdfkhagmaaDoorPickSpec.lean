/-
  Picking: contracts of the model's functions.
-/
import Derived.Test.YtpikopdfkhagmaaDoorTasksOkS
import Derived.Test.YtpikopdfkhagmaaDoorLockOn
import Derived.Test.YtpikopdfkhagmaaDoorHas
import Derived.Deep.RegionHeld3
namespace Go.Proofs.YtpikopdfkhagmaaDoor
open Go.RowKit
attribute [local go_sem] Keeps.refl Keeps.alloc Keeps.drew Keeps.drewN

/-- Tasks that lie there, as they are handed on. -/
structure OnT (w : World) (a : Option Addr) (n cap : Nat) (ts : List Tsk) : Prop where
  len : ts.length = n
  small : ts.length ≤ maxLen
  lies : Ts w a ts
section calls
variable {w w' : World} {a : Option Addr} {n cap : Nat} {ts : List Tsk}
theorem OnT.keeps (h : OnT w a n cap ts) (k : Keeps w w') : OnT w' a n cap ts := ⟨h.len, h.small, h.lies.keeps k⟩
theorem OnT.all (h : OnT w a n cap ts) (hn : 0 < n) : ∃ b off, a = some ⟨b, off, none⟩ ∧ ∀ (i : Nat) (t : Tsk), ts[i]? = some t → (∀ w', Keeps w w' → w'.cell? ⟨b, off + i * 14, none⟩ = some (.int .i64 t.no)) ∧ ∀ w', Keeps w w' → ∀ k, k < 14 → w'.cell? ⟨b, off + i * 14 + k, none⟩ = (tc t)[k]? := by
  obtain ⟨t0, h0⟩ := some_at (xs := ts) (k := 0) (by rw [h.len]; exact hn)
  obtain ⟨b, off, rfl, -, -⟩ := h.lies.at h0 (by omega)
  refine ⟨b, off, rfl, fun i t ht => ?_⟩
  obtain ⟨b', off', e, r0, r1⟩ := h.lies.at ht (by omega)
  simp only [Option.some.injEq, Addr.mk.injEq] at e
  obtain ⟨rfl, rfl, -⟩ := e
  exact ⟨r0, r1⟩
end calls
end Go.Proofs.YtpikopdfkhagmaaDoor
