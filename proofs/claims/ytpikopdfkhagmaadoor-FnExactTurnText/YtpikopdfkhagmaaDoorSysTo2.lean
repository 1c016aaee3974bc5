/-
  How much is left of what may be asked, once some locks are counted.
  The system: the laws' own helpers.
  The system: the laws' own copy of it.
-/
import Derived.Test.YtpikopdfkhagmaaDoorLockSpec
import Derived.Test.YtpikopdfkhagmaaDoorSysCopy
namespace Go.Proofs.YtpikopdfkhagmaaDoor
open Go.RowKit
variable {p p' : Bool}
attribute [local go_sem] Keeps.refl Keeps.alloc Keeps.drew Keeps.drewN

end Go.Proofs.YtpikopdfkhagmaaDoor
namespace Go.Proofs.YtpikopdfkhagmaaDoor
open Go.RowKit
attribute [local go_sem] Keeps.refl Keeps.alloc Keeps.drew Keeps.drewN

end Go.Proofs.YtpikopdfkhagmaaDoor
namespace Go.Proofs.YtpikopdfkhagmaaDoor
open Go.RowKit
attribute [local go_sem] Keeps.refl Keeps.alloc Keeps.drew Keeps.drewN

/-- Behind a call a value is stored over the cell k of the block b. -/
theorem stored {X w' : World} {b k : Nat} {C : Array Value} (h : Keeps X w') (B : Blk X b C) (hk : k < C.size) (u : Value) : Blk w' b C ∧ KeepsBut b X (w'.setCell ⟨b, k, none⟩ u) ∧ Blk (w'.setCell ⟨b, k, none⟩ u) b (C.setIfInBounds k u) :=
  ⟨B.keeps h, (KeepsBut.of h).setCell k u, (B.keeps h).set k hk u⟩
set_option maxRecDepth 100000 in
theorem toTurnS_n (a : Option Addr) (n cap : Nat) (xs : List Tn) (w : World) (hn : xs.length = n) (hl : xs.length ≤ 1048576) (hs : Rs w a xs) :
    Calls Tryd.prog 14 #[.slice a n cap] w fun e w' => ∃ b, e = .returned (.slice (some ⟨b, 0, none⟩) n n) ∧ Own 57 3 tnc w' w.heap.size (.slice (some ⟨b, 0, none⟩) n n) xs ∧ Keeps w w' := by
  subst hn
  exact toTurnS_any a cap xs w hl hs
end Go.Proofs.YtpikopdfkhagmaaDoor
