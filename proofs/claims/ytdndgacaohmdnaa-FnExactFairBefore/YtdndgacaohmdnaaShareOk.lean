/-
  A part of time is right: contracts of the program's and of the model's ShareOk.
-/
import Derived.Test.YtdndgacaohmdnaaIn
import Derived.Laws.ResultCell
namespace Go.Proofs.Ytdndgacaohmdnaa
open Go.RowKit

/-- A part of time as a value. -/
abbrev sh (q p : Int) : Value := .agg #[.int .i64 q, .int .i64 p]

/-- It is right. -/
def okB (q p : Int) : Bool := inB p 1 40 && inB q 1 p
theorem okB_iff {q p : Int} : okB q p = true ↔ (1 ≤ p ∧ p ≤ 40) ∧ 1 ≤ q ∧ q ≤ p := by simp [okB, inB_iff]

theorem isRight_any (q p : Int) (w : World) :
    Calls Try.prog 90 #[sh q p] w fun e w' => e = .returned (.bool (okB q p)) ∧ w' = w.alloc (.cells #[.int .i64 q, .int .i64 p] 65) := by
  by_cases h1 : 1 ≤ p
  · by_cases h2 : p ≤ 40
    · by_cases h3 : 1 ≤ q
      · by_cases h4 : q ≤ p
        · have Hr : Hid (okB q p = true) := okB_iff.2 ⟨⟨h1, h2⟩, h3, h4⟩
          go_enter Try.func90, Try.ntmps90
          go_wp2
          go_ret
          exact ⟨by rw [Hr.out]; rfl, rfl⟩
        · have Hr : Hid (okB q p = false) := by
            show _ = _; rw [Bool.eq_false_iff]; intro h; have := okB_iff.1 h; omega
          have hd : decide (q ≤ p) = false := by simpa using h4
          go_enter Try.func90, Try.ntmps90
          go_wp2
          go_ret
          exact ⟨by rw [Hr.out]; rfl, rfl⟩
      · have Hr : Hid (okB q p = false) := by
          show _ = _; rw [Bool.eq_false_iff]; intro h; have := okB_iff.1 h; omega
        have hd : decide (1 ≤ q) = false := by simpa using h3
        go_enter Try.func90, Try.ntmps90
        go_wp2
        go_ret
        exact ⟨by rw [Hr.out]; rfl, rfl⟩
    · have Hr : Hid (okB q p = false) := by
        show _ = _; rw [Bool.eq_false_iff]; intro h; have := okB_iff.1 h; omega
      have hd : decide (p ≤ 40) = false := by simpa using h2
      go_enter Try.func90, Try.ntmps90
      go_wp2
      go_ret
      exact ⟨by rw [Hr.out]; rfl, rfl⟩
  · have Hr : Hid (okB q p = false) := by
      show _ = _; rw [Bool.eq_false_iff]; intro h; have := okB_iff.1 h; omega
    have hd : decide (1 ≤ p) = false := by simpa using h1
    go_enter Try.func90, Try.ntmps90
    go_wp2
    go_ret
    exact ⟨by rw [Hr.out]; rfl, rfl⟩

theorem specShareOk_any (q p : Int) (w : World) :
    Calls Try.prog 76 #[sh q p] w fun e w' => e = .returned (.bool (okB q p)) ∧ w' = w.alloc (.cells #[.int .i64 q, .int .i64 p] 65) := by
  cases h1 : inB p 1 40
  · have Hr : Hid (okB q p = false) := by show _ = _; simp [okB, h1]
    go_enter Try.func76, Try.ntmps76
    go_wp2_with (go_at_call 74; refine (l1In_any _ _ _ _).mono ?_; rintro e w' ⟨rfl, rfl⟩)
    go_ret
    exact ⟨by rw [Hr.out]; rfl, rfl⟩
  · have Hr : Hid (okB q p = inB q 1 p) := by show _ = _; simp [okB, h1]
    go_enter Try.func76, Try.ntmps76
    go_wp2_with (go_at_call 74; refine (l1In_any _ _ _ _).mono ?_; rintro e w' ⟨rfl, rfl⟩)
    go_ret
    exact ⟨by rw [Hr.out]; rfl, rfl⟩

theorem specShareOk_k (q p : Int) (w : World) :
    Calls Try.prog 76 #[sh q p] w fun e w' => e = .returned (.bool (okB q p)) ∧ Keeps w w' :=
  (specShareOk_any q p w).mono (by rintro e w' ⟨rfl, rfl⟩; exact ⟨rfl, (Keeps.refl _).alloc _⟩)

end Go.Proofs.Ytdndgacaohmdnaa
