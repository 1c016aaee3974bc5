/-
  All but one block is as it was.
-/
import Derived.Test.YtpikopdfkhagmaaDoorLies
namespace Go.Proofs.YtpikopdfkhagmaaDoor
open Go.RowKit

/-- Nothing that was there has turned, but for block g. -/
structure KeepsBut (g : Nat) (w w' : World) : Prop where
  os : w'.os = w.os
  tape : w'.tape = w.tape
  output : w'.output = w.output
  size : w.heap.size ≤ w'.heap.size
  block : ∀ k, k < w.heap.size → k ≠ g → w'.heap[k]? = w.heap[k]?
theorem KeepsBut.of {g : Nat} {w w' : World} (h : Keeps w w') : KeepsBut g w w' := ⟨Below.os h, Below.tape h, Below.output h, Below.size h, fun k hk _ => Below.block h k hk⟩
theorem KeepsBut.refl (g : Nat) (w : World) : KeepsBut g w w := .of (Keeps.refl w)
theorem KeepsBut.trans {g : Nat} {a b c : World} (h : KeepsBut g a b) (k : KeepsBut g b c) : KeepsBut g a c :=
  ⟨k.os.trans h.os, k.tape.trans h.tape, k.output.trans h.output, Nat.le_trans h.size k.size, fun i hi hg => (k.block i (Nat.lt_of_lt_of_le hi h.size) hg).trans (h.block i hi hg)⟩
theorem KeepsBut.alloc {g : Nat} {a b : World} (h : KeepsBut g a b) (o : Obj) : KeepsBut g a (b.alloc o) := h.trans (.of ((Keeps.refl b).alloc o))
theorem KeepsBut.drew {g : Nat} {a b : World} (h : KeepsBut g a b) : KeepsBut g a b.drew := h.trans (.of (Keeps.refl b).drew)
theorem KeepsBut.drewN {g : Nat} {a b : World} (h : KeepsBut g a b) (n : Nat) : KeepsBut g a (b.drewN n) := h.trans (.of ((Keeps.refl b).drewN n))
theorem KeepsBut.setCell {g : Nat} {a b : World} (h : KeepsBut g a b) (o : Nat) (v : Value) : KeepsBut g a (b.setCell ⟨g, o, none⟩ v) :=
  h.trans ⟨rfl, rfl, rfl, by simp [World.setCell], fun k _ hg => Below.heap_setCell _ _ _ _ hg⟩
theorem KeepsBut.cells {g : Nat} {w w' : World} (h : KeepsBut g w w') : ∀ b o, b < w.heap.size → b ≠ g → w'.cell? ⟨b, o, none⟩ = w.cell? ⟨b, o, none⟩ :=
  fun b _ hb hg => World.cell?_of_block (w := w) (h.block b hb hg)
theorem KeepsBut.has {g : Nat} {W : World} {b o : Nat} {v : Value} (hg : b ≠ g) (h : W.cell? ⟨b, o, none⟩ = some v) : ∀ w', KeepsBut g W w' → w'.cell? ⟨b, o, none⟩ = some v :=
  fun _ k => (k.cells b o (World.block_lt_of_cell? W _ h) hg).trans h
theorem KeepsBut.keeps {g : Nat} {w0 w w' : World} (h : KeepsBut g w w') (k : Keeps w0 w) (hg : w0.heap.size ≤ g) : Keeps w0 w' :=
  Below.trans k ⟨h.os, h.tape, h.output, h.size, fun i hi => h.block i (Nat.lt_of_lt_of_le hi k.size) (by omega)⟩
end Go.Proofs.YtpikopdfkhagmaaDoor
