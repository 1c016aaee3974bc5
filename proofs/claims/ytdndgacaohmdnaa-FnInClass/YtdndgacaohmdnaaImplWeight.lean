/-
  Weights and steps: the program's.
-/
import Derived.Test.YtdndgacaohmdnaaWeight
import Derived.Test.YtdndgacaohmdnaaNiceI
namespace Go.Proofs.Ytdndgacaohmdnaa
open Go.RowKit

theorem nine0 {x : Int} (h1 : 0 ≤ x) (h2 : x ≤ 8) : x = 0 ∨ x = 1 ∨ x = 2 ∨ x = 3 ∨ x = 4 ∨ x = 5 ∨ x = 6 ∨ x = 7 ∨ x = 8 := by omega

set_option maxRecDepth 100000 in
set_option maxHeartbeats 1000000 in
theorem weightFor_any (p : Int) (w : World) (h1 : 0 ≤ p) (h2 : p ≤ 8) :
    Calls Try.prog 96 #[.int .i64 p] w fun e w' => e = .returned (.int .i64 (weightI (p - 4))) ∧ w' = w := by
  rcases nine0 h1 h2 with rfl | rfl | rfl | rfl | rfl | rfl | rfl | rfl | rfl <;>
  · clear h1 h2
    go_enter Try.func96, Try.ntmps96
    go_wp2
    go_ret
    exact ⟨rfl, rfl⟩

set_option maxRecDepth 100000 in
theorem implWeightOf_says : SaysWeightOf := by
  intro x w
  cases h : inB x (-4) 4
  · have Hr : Hid (weightI x = 0) := weightI_no h
    go_enter Try.func80, Try.ntmps80
    go_wp2_with (go_at_call 79; refine (implNiceOk_any _ _).mono ?_; rintro e w' ⟨rfl, rfl⟩)
    go_ret
    exact ⟨by rw [Hr.out]; rfl, Keeps.refl _⟩
  · obtain ⟨h1, h2⟩ := inB_iff.1 h
    go_enter Try.func80, Try.ntmps80
    go_wp2_with (first
      | (go_at_call 79; refine (implNiceOk_any _ _).mono ?_; rintro e w' ⟨rfl, rfl⟩)
      | (go_at_call 96; refine (weightFor_any (x + 4) _ (by omega) (by omega)).mono ?_; rintro e w' ⟨rfl, rfl⟩))
    go_ret
    exact ⟨rfl, Keeps.refl _⟩

set_option maxRecDepth 100000 in
set_option maxHeartbeats 1000000 in
theorem implStepOf_says : SaysStepOf := by
  intro x w
  cases h : inB x (-4) 4
  · have Hr : Hid (stepI x = 0) := stepI_no h
    go_enter Try.func30, Try.ntmps30
    go_wp2_with (go_at_call 79; refine (implNiceOk_any _ _).mono ?_; rintro e w' ⟨rfl, rfl⟩)
    go_ret
    exact ⟨by rw [Hr.out]; rfl, Keeps.refl _⟩
  · obtain ⟨h1, h2⟩ := inB_iff.1 h
    rcases nine h1 h2 with rfl | rfl | rfl | rfl | rfl | rfl | rfl | rfl | rfl <;>
    · clear h h1 h2
      go_enter Try.func30, Try.ntmps30
      go_wp2_with (first
        | (go_at_call 79; refine (implNiceOk_any _ _).mono ?_; rintro e w' ⟨rfl, rfl⟩)
        | (go_at_call 80; refine (implWeightOf_says _ _).mono ?_; rintro e w' ⟨rfl, k⟩))
      go_ret
      exact ⟨congrArg (fun z => Ending.returned (Value.int .i64 z)) (show wrap64 (Int.tdiv 48 (weightI _)) = stepI _ by kernel_rfl), k⟩
end Go.Proofs.Ytdndgacaohmdnaa
