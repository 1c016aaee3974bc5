/-
  The program's own test whether a number lies between two.
-/
import Derived.Test.YtpikopdfkhagmaaDoorIn
namespace Go.Proofs.YtpikopdfkhagmaaDoor
open Go.RowKit

set_option maxRecDepth 100000 in
theorem isWithin_any (x lo hi : Int) (w : World) :
    Calls Tryd.prog 40 #[.int .i64 x, .int .i64 lo, .int .i64 hi] w fun e w' => e = .returned (.bool (inB x lo hi)) ∧ w' = w := by
  by_cases h1 : lo ≤ x
  · by_cases h2 : x ≤ hi
    · have Hr : Hid (inB x lo hi = true) := inB_yes h1 h2
      go_enter Tryd.func40, Tryd.ntmps40
      go_wp2
      go_ret
      exact ⟨by rw [Hr.out]; rfl, rfl⟩
    · have Hr : Hid (inB x lo hi = false) := inB_no (.inr (by omega))
      have hd : decide (x ≤ hi) = false := by simpa using h2
      go_enter Tryd.func40, Tryd.ntmps40
      go_wp2
      go_ret
      exact ⟨by rw [Hr.out]; rfl, rfl⟩
  · have Hr : Hid (inB x lo hi = false) := inB_no (.inl (by omega))
    have hd : decide (lo ≤ x) = false := by simpa using h1
    go_enter Tryd.func40, Tryd.ntmps40
    go_wp2
    go_ret
    exact ⟨by rw [Hr.out]; rfl, rfl⟩
end Go.Proofs.YtpikopdfkhagmaaDoor
