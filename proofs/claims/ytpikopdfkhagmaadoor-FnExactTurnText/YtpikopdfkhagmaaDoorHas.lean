/-
  Nothing old has turned, and a block holds its cells.
  Fair shares, as plain functions, and what holds of them.
  Fair shares: contracts of the model's functions.
-/
import Derived.Test.YtpikopdfkhagmaaDoorPutC
import Derived.Test.YtpikopdfkhagmaaDoorTaskSpec
import Derived.Test.YtpikopdfkhagmaaDoorIn
namespace Go.Proofs.YtpikopdfkhagmaaDoor
open Go.RowKit

/-- Nothing old has turned, and block b holds C. -/
structure Has (w : World) (b : Nat) (C : Array Value) (w' : World) : Prop where
  keeps : Keeps w w'
  box : Blk w' b C
theorem Has.go {w : World} {b : Nat} {C : Array Value} {w1 w2 : World} (h : Has w b C w1) (k : Keeps w1 w2) : Has w b C w2 := ⟨h.keeps.trans k, h.box.keeps k⟩
theorem Has.set {w : World} {b : Nat} {C : Array Value} {w1 : World} (h : Has w b C w1) {r : Nat} (hr : w.heap.size ≤ r) (hb : r ≠ b) (k : Nat) (v : Value) : Has w b C (w1.setCell ⟨r, k, none⟩ v) := ⟨h.keeps.setCell hr v, h.box.far hb v⟩
theorem Has.put {w : World} {b : Nat} {C : Array Value} {w1 : World} (h : Has w b C w1) {r : Nat} (hr : w.heap.size ≤ r) (hb : r ≠ b) (k : Nat) (L : List Value) : Has w b C (putC w1 r k L) := ⟨Keeps.putC hr L k h.keeps, Blk.farC hb L k h.box⟩
end Go.Proofs.YtpikopdfkhagmaaDoor
namespace Go.Proofs.YtpikopdfkhagmaaDoor
open Go.RowKit

end Go.Proofs.YtpikopdfkhagmaaDoor
namespace Go.Proofs.YtpikopdfkhagmaaDoor
open Go.RowKit
attribute [local go_sem] Keeps.refl Keeps.alloc Keeps.drew Keeps.drewN

end Go.Proofs.YtpikopdfkhagmaaDoor
