/-
  The system is marked, and looked at again.
-/
import Derived.Test.YtpikopdfkhagmaaDoorTaskMark
namespace Go.Proofs.YtpikopdfkhagmaaDoor
open Go.RowKit
attribute [local go_sem] Keeps.refl Keeps.alloc Keeps.drew Keeps.drewN

/-- Only blocks of this kind have turned. -/
structure TurnsB (P : Nat → Prop) (w w' : World) : Prop where
  os : w'.os = w.os
  tape : w'.tape = w.tape
  output : w'.output = w.output
  size : w.heap.size ≤ w'.heap.size
  block : ∀ b, b < w.heap.size → ¬ P b → w'.heap[b]? = w.heap[b]?
theorem TurnsB.refl (P : Nat → Prop) (w : World) : TurnsB P w w := ⟨rfl, rfl, rfl, Nat.le_refl _, fun _ _ _ => rfl⟩
theorem TurnsB.trans {P : Nat → Prop} {a b c : World} (h : TurnsB P a b) (k : TurnsB P b c) : TurnsB P a c :=
  ⟨k.os.trans h.os, k.tape.trans h.tape, k.output.trans h.output, Nat.le_trans h.size k.size, fun q hq hn => (k.block q (Nat.lt_of_lt_of_le hq h.size) hn).trans (h.block q hq hn)⟩
theorem TurnsB.mono {P Q : Nat → Prop} {a b : World} (h : TurnsB P a b) (k : ∀ q, P q → Q q) : TurnsB Q a b := ⟨h.os, h.tape, h.output, h.size, fun q hq hn => h.block q hq fun hp => hn (k q hp)⟩
theorem TurnsB.grown {a b : World} {row : Option Nat} (h : a.grownBy b row) : TurnsB (fun q => row = some q) a b := ⟨h.os, h.tape, h.output, h.size, fun q hq hn => h.block q hq fun e => hn e.symm⟩
theorem TurnsB.keeps {P : Nat → Prop} {w a b : World} (h : TurnsB P a b) (k : Keeps w a) (hp : ∀ q, P q → w.heap.size ≤ q) : Keeps w b :=
  Below.trans k ⟨h.os, h.tape, h.output, h.size, fun i hi => h.block i (Nat.lt_of_lt_of_le hi k.size) fun hq => by have := hp i hq; omega⟩
end Go.Proofs.YtpikopdfkhagmaaDoor
