/-
  What the laws call of locks that lie there: the program's functions.
-/
import Derived.Test.YtglemedcnapneaaLockOn
import Derived.Test.YtglemedcnapneaaLockLaws
namespace Go.Proofs.Ytglemedcnapneaa
open Go.RowKit

section calls
variable {w w' : World} {a : Option Addr} {m cap : Nat} {ls : List Lk}
set_option maxRecDepth 100000 in
theorem On.iWaitAt (H : SaysWaitAt) (h : On w a m cap ls) (x : Int) {z : Int} (hz : waitAt ls x = z) (k : Keeps w w') : Calls Try.prog 19 #[.slice a m cap, .int .i64 x] w' fun e w'' => e = .returned (.int .i64 z) ∧ Keeps w' w'' := by
  have h' := h.keeps k
  have := H a cap ls x w' h'.size (by rw [h'.len]; exact h'.pl) h'.lks
  rw [h'.len, hz] at this
  exact this
set_option maxRecDepth 100000 in
theorem On.iLocksOk (H : SaysLocksOk) (h : On w a m cap ls) {z : Bool} (hz : locksB ls = z) (k : Keeps w w') : Calls Try.prog 16 #[.slice a m cap] w' fun e w'' => e = .returned (.bool z) ∧ Keeps w' w'' := by
  have h' := h.keeps k
  have := H a cap ls w' h'.size (by rw [h'.len]; exact h'.pl) h'.lks
  rw [h'.len, hz] at this
  exact this
set_option maxRecDepth 100000 in
theorem On.iOwnsAny (H : SaysOwnsAny) (h : On w a m cap ls) (x : Int) {z : Bool} (hz : ownsB ls x = z) (k : Keeps w w') : Calls Try.prog 27 #[.slice a m cap, .int .i64 x] w' fun e w'' => e = .returned (.bool z) ∧ Keeps w' w'' := by
  have h' := h.keeps k
  have := H a cap ls x w' h'.size (by rw [h'.len]; exact h'.pl) h'.lks
  rw [h'.len, hz] at this
  exact this
set_option maxRecDepth 100000 in
theorem On.iChainOf (H : SaysChainOf) (h : On w a m cap ls) (x : Int) {C : List Int} (hz : chainL ls x = C) (k : Keeps w w') : Calls Try.prog 21 #[.slice a m cap, .int .i64 x] w' fun e w'' => ∃ v, e = .returned v ∧ OwnN w'' w'.heap.size v C ∧ Keeps w' w'' := by
  have h' := h.keeps k
  have := H a cap ls x w' h'.size (by rw [h'.len]; exact h'.pl) h'.lks
  rw [h'.len, hz] at this
  exact this
end calls
end Go.Proofs.Ytglemedcnapneaa
