/-
  What is a nice: the contract of the model's NiceOk.
-/
import Derived.Test.YtdndgacaohmdnaaIn
namespace Go.Proofs.Ytdndgacaohmdnaa
open Go.RowKit

theorem specNiceOk_any (x : Int) (w : World) :
    Calls Try.prog 78 #[.int .i64 x] w fun e w' => e = .returned (.bool (inB x (-4) 4)) ∧ w' = w := by
  go_enter Try.func78, Try.ntmps78
  go_wp2_with (go_at_call 74; refine (l1In_any _ _ _ _).mono ?_; rintro e w' ⟨rfl, rfl⟩)
  go_ret
  exact ⟨rfl, rfl⟩

end Go.Proofs.Ytdndgacaohmdnaa
