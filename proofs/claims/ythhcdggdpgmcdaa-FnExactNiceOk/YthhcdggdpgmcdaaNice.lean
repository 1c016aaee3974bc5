/-
  What is a nice: contracts of the program's and of the model's NiceOk, and the law's walk.
-/
import Derived.Test.YthhcdggdpgmcdaaIn
namespace Go.Proofs.Ythhcdggdpgmcdaa
open Go.RowKit

theorem implNiceOk_any (x : Int) (w : World) :
    Calls Try.prog 5 #[.int .i64 x] w fun e w' => e = .returned (.bool (inB x (-4) 4)) ∧ w' = w := by
  by_cases h1 : -4 ≤ x
  · by_cases h2 : x ≤ 4
    · have Hr : Hid (inB x (-4) 4 = true) := inB_yes h1 h2
      go_enter Try.func5, Try.ntmps5
      go_wp2
      go_ret
      exact ⟨by rw [Hr.out]; rfl, rfl⟩
    · have Hr : Hid (inB x (-4) 4 = false) := inB_no (.inr (by omega))
      have hd : decide (x ≤ 4) = false := by simpa using h2
      go_enter Try.func5, Try.ntmps5
      go_wp2
      go_ret
      exact ⟨by rw [Hr.out]; rfl, rfl⟩
  · have Hr : Hid (inB x (-4) 4 = false) := inB_no (.inl (by omega))
    have hd : decide (-4 ≤ x) = false := by simpa using h1
    go_enter Try.func5, Try.ntmps5
    go_wp2
    go_ret
    exact ⟨by rw [Hr.out]; rfl, rfl⟩

theorem specNiceOk_any (x : Int) (w : World) :
    Calls Try.prog 4 #[.int .i64 x] w fun e w' => e = .returned (.bool (inB x (-4) 4)) ∧ w' = w := by
  go_enter Try.func4, Try.ntmps4
  go_wp2_with (go_at_call 6; refine (l1In_any _ _ _ _).mono ?_; rintro e w' ⟨rfl, rfl⟩)
  go_ret
  exact ⟨rfl, rfl⟩

/-- The law's walk. -/
theorem exactNiceOk_walk (x : Int) (w : World) :
    Calls Try.prog 3 #[.int .i64 x] w fun e w' => e = .returned (.bool true) ∧ Keeps w w' := by
  generalize hg : inB x (-4) 4 = g
  have Hg : Hid (inB x (-4) 4 = g) := hg
  clear hg
  have hne : (g != g) = false := by simp
  go_enter Try.func3, Try.ntmps3
  go_wp2_with (first
    | (go_at_call 4; refine (specNiceOk_any _ _).mono ?_; rintro e w' ⟨rfl, rfl⟩; rw [Hg.out])
    | (go_at_call 5; refine (implNiceOk_any _ _).mono ?_; rintro e w' ⟨rfl, rfl⟩; rw [Hg.out]))
  go_ret
  exact ⟨rfl, Keeps.refl _⟩

end Go.Proofs.Ythhcdggdpgmcdaa
