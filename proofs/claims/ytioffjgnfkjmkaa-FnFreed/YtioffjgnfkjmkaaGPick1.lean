/-
  Picking: contracts of the model's functions.
  Picking: contracts of the model's Executor, Able and CanTurn.
-/
import Derived.Test.YtioffjgnfkjmkaaGPure2
import Derived.Test.YtioffjgnfkjmkaaGLock4
import Derived.Test.YtioffjgnfkjmkaaGDff1
import Derived.Test.YtioffjgnfkjmkaaGDff2
import Derived.Deep.RegionHeld3
namespace Go.Proofs.Ytioffjgnfkjmkaa
open Go.RowKit
attribute [local go_sem] Keeps.refl Keeps.alloc Keeps.drew Keeps.drewN

/-- Tasks that lie there, as they are handed on. -/
structure OnT (w : World) (a : Option Addr) (n cap : Nat) (ts : List Tsk) : Prop where
  len : ts.length = n
  small : ts.length ≤ maxLen
  lies : Ts w a ts
section calls
variable {w w' : World} {a : Option Addr} {n cap : Nat} {ts : List Tsk}
theorem OnT.keeps (h : OnT w a n cap ts) (k : Keeps w w') : OnT w' a n cap ts := ⟨h.len, h.small, h.lies.keeps k⟩
set_option maxRecDepth 100000 in
theorem OnT.sTasksOk (h : OnT w a n cap ts) {z : Bool} (hz : tasksB ts = z) (k : Keeps w w') : Calls Try.prog 22 #[.slice a n cap] w' fun e w'' => e = .returned (.bool z) ∧ Keeps w' w'' := by
  have := specTasksOk_any a cap ts w' h.small (h.keeps k).lies
  rw [h.len, hz] at this
  exact this
theorem OnT.all (h : OnT w a n cap ts) (hn : 0 < n) : ∃ b off, a = some ⟨b, off, none⟩ ∧ ∀ (i : Nat) (t : Tsk), ts[i]? = some t → (∀ w', Keeps w w' → w'.cell? ⟨b, off + i * 14, none⟩ = some (.int .i64 t.no)) ∧ ∀ w', Keeps w w' → ∀ k, k < 14 → w'.cell? ⟨b, off + i * 14 + k, none⟩ = (tc t)[k]? := by
  obtain ⟨t0, h0⟩ := some_at (xs := ts) (k := 0) (by rw [h.len]; exact hn)
  obtain ⟨b, off, rfl, -, -⟩ := h.lies.at h0 (by omega)
  refine ⟨b, off, rfl, fun i t ht => ?_⟩
  obtain ⟨b', off', e, r0, r1⟩ := h.lies.at ht (by omega)
  simp only [Option.some.injEq, Addr.mk.injEq] at e
  obtain ⟨rfl, rfl, -⟩ := e
  exact ⟨r0, r1⟩
end calls
end Go.Proofs.Ytioffjgnfkjmkaa
namespace Go.Proofs.Ytioffjgnfkjmkaa
open Go.RowKit
attribute [local go_sem] Keeps.refl Keeps.alloc Keeps.drew Keeps.drewN

/-- Tasks and locks that lie there. -/
structure Two (w : World) (a : Option Addr) (n cap : Nat) (ts : List Tsk) (b : Option Addr) (m cap2 : Nat) (ls : List Lk) : Prop where
  t : OnT w a n cap ts
  l : On w b m cap2 ls
theorem Two.keeps {w w' : World} {a : Option Addr} {n cap : Nat} {ts : List Tsk} {b : Option Addr} {m cap2 : Nat} {ls : List Lk} (h : Two w a n cap ts b m cap2 ls) (k : Keeps w w') : Two w' a n cap ts b m cap2 ls := ⟨h.t.keeps k, h.l.keeps k⟩
/-- What is read of one that is there. -/
theorem OnT.there {w : World} {a : Option Addr} {n cap : Nat} {ts : List Tsk} (h : OnT w a n cap ts) {x : Int} (hx : thereB ts x = true) : ∃ (k : Nat) (b off : Nat), k < n ∧ a = some ⟨b, off, none⟩ ∧ atFrom ts x = (k : Int) ∧ ts[k]? = some (tAt ts x) ∧ (tAt ts x).no = x ∧ (∀ w', Keeps w w' → w'.cell? ⟨b, off + k * 14, none⟩ = some (.int .i64 (tAt ts x).no)) ∧ ∀ w', Keeps w w' → ∀ j, j < 14 → w'.cell? ⟨b, off + k * 14 + j, none⟩ = (tc (tAt ts x))[j]? := by
  obtain ⟨k, t, e, ht, hno⟩ := thereB_iff.1 hx
  have e2 := tAt_of e ht
  obtain ⟨b, off, rfl, r0, r1⟩ := h.lies.at ht (by omega)
  rw [e2]
  exact ⟨k, b, off, by rw [← h.len]; exact lt_of_some ht, rfl, e, ht, hno, r0, r1⟩

theorem able_there {ts : List Tsk} {ls : List Lk} {no : Int} (h : ableB ts ls no = true) : thereB ts no = true ∧ thereB ts (execI ts ls no) = true := by
  unfold ableB at h
  rw [Bool.and_eq_true] at h
  have := exec_there h.1
  exact ⟨this.2.2.1, this.2.2.2⟩

end Go.Proofs.Ytioffjgnfkjmkaa
