/-
  What is a nice: the contract of the program's NiceOk.
-/
import Derived.Test.YtdndgacaohmdnaaNiceS
namespace Go.Proofs.Ytdndgacaohmdnaa
open Go.RowKit

theorem implNiceOk_any (x : Int) (w : World) :
    Calls Try.prog 79 #[.int .i64 x] w fun e w' => e = .returned (.bool (inB x (-4) 4)) ∧ w' = w := by
  by_cases h1 : -4 ≤ x
  · by_cases h2 : x ≤ 4
    · have Hr : Hid (inB x (-4) 4 = true) := inB_yes h1 h2
      go_enter Try.func79, Try.ntmps79
      go_wp2
      go_ret
      exact ⟨by rw [Hr.out]; rfl, rfl⟩
    · have Hr : Hid (inB x (-4) 4 = false) := inB_no (.inr (by omega))
      have hd : decide (x ≤ 4) = false := by simpa using h2
      go_enter Try.func79, Try.ntmps79
      go_wp2
      go_ret
      exact ⟨by rw [Hr.out]; rfl, rfl⟩
  · have Hr : Hid (inB x (-4) 4 = false) := inB_no (.inl (by omega))
    have hd : decide (-4 ≤ x) = false := by simpa using h1
    go_enter Try.func79, Try.ntmps79
    go_wp2
    go_ret
    exact ⟨by rw [Hr.out]; rfl, rfl⟩

end Go.Proofs.Ytdndgacaohmdnaa
