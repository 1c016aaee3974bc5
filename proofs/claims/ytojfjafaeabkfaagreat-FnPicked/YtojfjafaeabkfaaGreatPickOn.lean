/-
  What the laws call of tasks and locks that lie there.
-/
import Derived.Test.YtojfjafaeabkfaaGreatGPick2
import Derived.Test.YtojfjafaeabkfaaGreatGTask3
import Derived.Test.YtojfjafaeabkfaaGreatGLock4
namespace Go.Proofs.YtojfjafaeabkfaaGreat
open Go.RowKit

theorem noAt_of {ts : List Tsk} {j : Nat} {t : Tsk} (h : ts[j]? = some t) : noAt ts (j : Int) = t.no := by
  unfold noAt
  rw [if_neg (by omega), Int.toNat_natCast, getD_of h]
theorem OnT.all0 {w : World} {b n cap : Nat} {ts : List Tsk} (h : OnT w (some ⟨b, 0, none⟩) n cap ts) (i : Nat) (t : Tsk) (ht : ts[i]? = some t) : (∀ w', Keeps w w' → w'.cell? ⟨b, i * 14, none⟩ = some (.int .i64 t.no)) ∧ ∀ w', Keeps w w' → ∀ k, k < 14 → w'.cell? ⟨b, i * 14 + k, none⟩ = (tc t)[k]? := by
  obtain ⟨b', off', e, r0, r1⟩ := h.lies.at ht (by omega)
  simp only [Option.some.injEq, Addr.mk.injEq] at e
  obtain ⟨rfl, rfl, -⟩ := e
  simp only [Nat.zero_add] at r0 r1
  exact ⟨r0, r1⟩
set_option maxRecDepth 100000 in
theorem OnT.iTaskAt {w w' : World} {a : Option Addr} {n cap : Nat} {ts : List Tsk} (H : SaysTaskAt) (h : OnT w a n cap ts) (x : Int) {z : Int} (hz : atFrom ts x = z) (k : Keeps w w') : Calls Tryz.prog 15 #[.slice a n cap, .int .i64 x] w' fun e w'' => e = .returned (.int .i64 z) ∧ Keeps w' w'' := by
  have := H a cap ts x w' h.small (h.keeps k).lies
  rw [h.len, hz] at this
  exact this
set_option maxRecDepth 100000 in
theorem Two.iExec {w w' : World} {a : Option Addr} {n cap : Nat} {ts : List Tsk} {b : Option Addr} {m cap2 : Nat} {ls : List Lk} (H : SaysExecutor) (h : Two w a n cap ts b m cap2 ls) (hn : n ≤ cap) (no : Int) {z : Int} (hz : execP ts ls no = z) (k : Keeps w w') : Calls Tryz.prog 19 #[.slice a n cap, .slice b m cap2, .int .i64 no] w' fun e w'' => e = .returned (.int .i64 z) ∧ Keeps w' w'' := by
  have := H w' a n cap ts b m cap2 ls no hn (h.keeps k)
  rw [hz] at this
  exact this
set_option maxRecDepth 100000 in
theorem Two.iAble {w w' : World} {a : Option Addr} {n cap : Nat} {ts : List Tsk} {b : Option Addr} {m cap2 : Nat} {ls : List Lk} (H : SaysAble) (h : Two w a n cap ts b m cap2 ls) (hn : n ≤ cap) (no : Int) {z : Bool} (hz : ableP ts ls no = z) (k : Keeps w w') : Calls Tryz.prog 33 #[.slice a n cap, .slice b m cap2, .int .i64 no] w' fun e w'' => e = .returned (.bool z) ∧ Keeps w' w'' := by
  have := H w' a n cap ts b m cap2 ls no hn (h.keeps k)
  rw [hz] at this
  exact this
set_option maxRecDepth 100000 in
theorem Two.iCan {w w' : World} {a : Option Addr} {n cap : Nat} {ts : List Tsk} {b : Option Addr} {m cap2 : Nat} {ls : List Lk} (H : SaysCanTurn) (h : Two w a n cap ts b m cap2 ls) (hn : n ≤ cap) (no : Int) {z : Bool} (hz : canP ts ls no = z) (k : Keeps w w') : Calls Tryz.prog 17 #[.slice a n cap, .slice b m cap2, .int .i64 no] w' fun e w'' => e = .returned (.bool z) ∧ Keeps w' w'' := by
  have := H w' a n cap ts b m cap2 ls no hn (h.keeps k)
  rw [hz] at this
  exact this
set_option maxRecDepth 100000 in
theorem Two.iPick {w w' : World} {a : Option Addr} {n cap : Nat} {ts : List Tsk} {b : Option Addr} {m cap2 : Nat} {ls : List Lk} (H : SaysPick) (h : Two w a n cap ts b m cap2 ls) (hn : n ≤ cap) (cpu : Int) {y z : Int} (hy : pickNo ts ls cpu = y) (hz : pickX ts ls cpu = z) (k : Keeps w w') : Calls Tryz.prog 10 #[.slice a n cap, .slice b m cap2, .int .i64 cpu] w' fun e w'' => e = .returned (.tuple #[.int .i64 y, .int .i64 z]) ∧ Keeps w' w'' := by
  have := H w' a n cap ts b m cap2 ls cpu hn (h.keeps k)
  rw [hy, hz] at this
  exact this
set_option maxRecDepth 100000 in
theorem Two.sPick {w w' : World} {a : Option Addr} {n cap : Nat} {ts : List Tsk} {b : Option Addr} {m cap2 : Nat} {ls : List Lk} (h : Two w a n cap ts b m cap2 ls) (cpu : Int) {y z : Int} (hy : pickNo ts ls cpu = y) (hz : pickX ts ls cpu = z) (k : Keeps w w') : Calls Tryz.prog 7 #[.slice a n cap, .slice b m cap2, .int .i64 cpu] w' fun e w'' => e = .returned (.tuple #[.int .i64 y, .int .i64 z]) ∧ Keeps w' w'' := by
  have := specPick_any (h.keeps k) cpu
  rw [hy, hz] at this
  exact this
end Go.Proofs.YtojfjafaeabkfaaGreat
