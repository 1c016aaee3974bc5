/-
  Drawn tasks with deadlines: the contracts of the model's draws.
-/
import Derived.Test.YtndjifbjlhmmiaaDrawTask2
import Derived.Test.YtndjifbjlhmmiaaPutC
namespace Go.Proofs.Ytndjifbjlhmmiaa
open Go.RowKit

/-- Nothing but block g has turned, and block b holds C. -/
structure HasB (g : Nat) (w : World) (b : Nat) (C : Array Value) (w' : World) : Prop where
  kb : KeepsBut g w w'
  box : Blk w' b C
theorem HasB.but {g : Nat} {w : World} {b : Nat} {C : Array Value} {w1 w2 : World} (h : HasB g w b C w1) (k : KeepsBut g w1 w2) (hb : b ≠ g) : HasB g w b C w2 := ⟨h.kb.trans k, h.box.but k hb⟩
theorem KeepsBut.putC {g : Nat} {a : World} {b : Nat} (hp : a.heap.size ≤ b) : ∀ (L : List Value) {w : World} (k : Nat), KeepsBut g a w → KeepsBut g a (Go.Proofs.Ytndjifbjlhmmiaa.putC w b k L)
  | [], _, _, h => h
  | v :: r, _, k, h => KeepsBut.putC hp r (k + 1) (h.setNew (p := ⟨b, k, none⟩) hp v)
theorem HasB.put {g : Nat} {w : World} {b : Nat} {C : Array Value} {w1 : World} (h : HasB g w b C w1) {r : Nat} (hr : w.heap.size ≤ r) (hb : r ≠ b) (k : Nat) (L : List Value) : HasB g w b C (putC w1 r k L) := ⟨KeepsBut.putC hr L k h.kb, Blk.farC hb L k h.box⟩

end Go.Proofs.Ytndjifbjlhmmiaa
