/-
  Weights and steps: the model's, and the laws' walks over contracts of the program's functions.
-/
import Derived.Test.YtdndgacaohmdnaaNiceS
namespace Go.Proofs.Ytdndgacaohmdnaa
open Go.RowKit
attribute [local go_sem] Keeps.refl Keeps.alloc Keeps.drew Keeps.drewN

/-- The weight of a nice; 0 of others. -/
def weightI (x : Int) : Int :=
  if x = -4 then 24 else if x = -3 then 16 else if x = -2 then 12 else if x = -1 then 8 else if x = 0 then 6 else if x = 1 then 4 else if x = 2 then 3 else if x = 3 then 2 else if x = 4 then 1 else 0
/-- Its step; 0 of others. -/
def stepI (x : Int) : Int :=
  if x = -4 then 2 else if x = -3 then 3 else if x = -2 then 4 else if x = -1 then 6 else if x = 0 then 8 else if x = 1 then 12 else if x = 2 then 16 else if x = 3 then 24 else if x = 4 then 48 else 0
theorem nine {x : Int} (h1 : -4 ≤ x) (h2 : x ≤ 4) : x = -4 ∨ x = -3 ∨ x = -2 ∨ x = -1 ∨ x = 0 ∨ x = 1 ∨ x = 2 ∨ x = 3 ∨ x = 4 := by omega
theorem weightI_no {x : Int} (h : inB x (-4) 4 = false) : weightI x = 0 := by
  have hh : ¬ (-4 ≤ x ∧ x ≤ 4) := fun h' => by rw [inB_iff.2 h'] at h; cases h
  unfold weightI
  repeat rw [if_neg (by omega)]
theorem stepI_no {x : Int} (h : inB x (-4) 4 = false) : stepI x = 0 := by
  have hh : ¬ (-4 ≤ x ∧ x ≤ 4) := fun h' => by rw [inB_iff.2 h'] at h; cases h
  unfold stepI
  repeat rw [if_neg (by omega)]

set_option maxRecDepth 100000 in
set_option maxHeartbeats 1000000 in
theorem specWeightOf_any (x : Int) (w : World) :
    Calls Try.prog 95 #[.int .i64 x] w fun e w' => e = .returned (.int .i64 (weightI x)) ∧ Keeps w w' := by
  cases h : inB x (-4) 4
  · have Hr : Hid (weightI x = 0) := weightI_no h
    go_enter Try.func95, Try.ntmps95
    go_wp2_with (go_at_call 78; refine (specNiceOk_any _ _).mono ?_; rintro e w' ⟨rfl, rfl⟩)
    go_ret
    exact ⟨by rw [Hr.out]; rfl, Keeps.refl _⟩
  · obtain ⟨h1, h2⟩ := inB_iff.1 h
    rcases nine h1 h2 with rfl | rfl | rfl | rfl | rfl | rfl | rfl | rfl | rfl <;>
    · clear h h1 h2
      go_enter Try.func95, Try.ntmps95
      go_wp2_with (go_at_call 78; refine (specNiceOk_any _ _).mono ?_; rintro e w' ⟨rfl, rfl⟩)
      go_ret
      exact ⟨rfl, (Keeps.refl _).alloc _⟩

set_option maxRecDepth 100000 in
set_option maxHeartbeats 1000000 in
theorem specStepOf_any (x : Int) (w : World) :
    Calls Try.prog 72 #[.int .i64 x] w fun e w' => e = .returned (.int .i64 (stepI x)) ∧ Keeps w w' := by
  cases h : inB x (-4) 4
  · have Hr : Hid (stepI x = 0) := stepI_no h
    go_enter Try.func72, Try.ntmps72
    go_wp2_with (go_at_call 78; refine (specNiceOk_any _ _).mono ?_; rintro e w' ⟨rfl, rfl⟩)
    go_ret
    exact ⟨by rw [Hr.out]; rfl, Keeps.refl _⟩
  · obtain ⟨h1, h2⟩ := inB_iff.1 h
    rcases nine h1 h2 with rfl | rfl | rfl | rfl | rfl | rfl | rfl | rfl | rfl <;>
    · clear h h1 h2
      go_enter Try.func72, Try.ntmps72
      go_wp2_with (first
        | (go_at_call 78; refine (specNiceOk_any _ _).mono ?_; rintro e w' ⟨rfl, rfl⟩)
        | (go_at_call 95; refine (specWeightOf_any _ _).mono ?_; rintro e w' ⟨rfl, k⟩))
      go_ret
      exact ⟨congrArg (fun z => Ending.returned (Value.int .i64 z)) (show wrap64 (Int.tdiv 48 (weightI _)) = stepI _ by kernel_rfl), k⟩

/-- What the program's functions are held to. -/
def SaysWeightOf : Prop := ∀ (x : Int) (w : World), Calls Try.prog 80 #[.int .i64 x] w fun e w' => e = .returned (.int .i64 (weightI x)) ∧ Keeps w w'
def SaysStepOf : Prop := ∀ (x : Int) (w : World), Calls Try.prog 30 #[.int .i64 x] w fun e w' => e = .returned (.int .i64 (stepI x)) ∧ Keeps w w'
end Go.Proofs.Ytdndgacaohmdnaa
