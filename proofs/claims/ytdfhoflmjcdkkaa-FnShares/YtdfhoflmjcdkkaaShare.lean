/-
  Parts of time: contracts of the functions that say which part is right and which of two is less.
-/
import Derived.Test.YtdfhoflmjcdkkaaGcd
import Derived.Laws.ResultCell
import Derived.Deep.RegionHeld3
namespace Go.Proofs.Ytdfhoflmjcdkkaa
open Go.RowKit

/-- A part of time as a value. -/
abbrev sh (q p : Int) : Value := .agg #[.int .i64 q, .int .i64 p]

/-- It is right. -/
def okB (q p : Int) : Bool := inB p 1 40 && inB q 1 p
theorem okB_iff {q p : Int} : okB q p = true ↔ (1 ≤ p ∧ p ≤ 40) ∧ 1 ≤ q ∧ q ≤ p := by simp [okB, inB_iff]

theorem isRight_any (q p : Int) (w : World) :
    Calls Try.prog 40 #[sh q p] w fun e w' => e = .returned (.bool (okB q p)) ∧ w' = w.alloc (.cells #[.int .i64 q, .int .i64 p] 31) := by
  by_cases h1 : 1 ≤ p
  · by_cases h2 : p ≤ 40
    · by_cases h3 : 1 ≤ q
      · by_cases h4 : q ≤ p
        · have Hr : Hid (okB q p = true) := okB_iff.2 ⟨⟨h1, h2⟩, h3, h4⟩
          go_enter Try.func40, Try.ntmps40
          go_wp2
          go_ret
          exact ⟨by rw [Hr.out]; rfl, rfl⟩
        · have Hr : Hid (okB q p = false) := by
            show _ = _; rw [Bool.eq_false_iff]; intro h; have := okB_iff.1 h; omega
          have hd : decide (q ≤ p) = false := by simpa using h4
          go_enter Try.func40, Try.ntmps40
          go_wp2
          go_ret
          exact ⟨by rw [Hr.out]; rfl, rfl⟩
      · have Hr : Hid (okB q p = false) := by
          show _ = _; rw [Bool.eq_false_iff]; intro h; have := okB_iff.1 h; omega
        have hd : decide (1 ≤ q) = false := by simpa using h3
        go_enter Try.func40, Try.ntmps40
        go_wp2
        go_ret
        exact ⟨by rw [Hr.out]; rfl, rfl⟩
    · have Hr : Hid (okB q p = false) := by
        show _ = _; rw [Bool.eq_false_iff]; intro h; have := okB_iff.1 h; omega
      have hd : decide (p ≤ 40) = false := by simpa using h2
      go_enter Try.func40, Try.ntmps40
      go_wp2
      go_ret
      exact ⟨by rw [Hr.out]; rfl, rfl⟩
  · have Hr : Hid (okB q p = false) := by
      show _ = _; rw [Bool.eq_false_iff]; intro h; have := okB_iff.1 h; omega
    have hd : decide (1 ≤ p) = false := by simpa using h1
    go_enter Try.func40, Try.ntmps40
    go_wp2
    go_ret
    exact ⟨by rw [Hr.out]; rfl, rfl⟩

theorem implShareOk_any (q p : Int) (w : World) :
    Calls Try.prog 21 #[sh q p] w fun e w' => e = .returned (.bool (okB q p)) ∧ Keeps w w' := by
  go_enter Try.func21, Try.ntmps21
  go_wp2_with (go_at_call 40; refine (isRight_any _ _ _).mono ?_; rintro e w' ⟨rfl, rfl⟩)
  go_ret
  exact ⟨rfl, by repeat (first | exact Keeps.refl _ | refine Keeps.alloc ?_ _ | refine Keeps.drewN ?_ _ | refine Keeps.trans ?_ (by assumption))⟩

theorem specShareOk_any (q p : Int) (w : World) :
    Calls Try.prog 22 #[sh q p] w fun e w' => e = .returned (.bool (okB q p)) ∧ w' = w.alloc (.cells #[.int .i64 q, .int .i64 p] 31) := by
  cases h1 : inB p 1 40
  · have Hr : Hid (okB q p = false) := by show _ = _; simp [okB, h1]
    go_enter Try.func22, Try.ntmps22
    go_wp2_with (go_at_call 42; refine (l1In_any _ _ _ _).mono ?_; rintro e w' ⟨rfl, rfl⟩)
    go_ret
    exact ⟨by rw [Hr.out]; rfl, rfl⟩
  · have Hr : Hid (okB q p = inB q 1 p) := by show _ = _; simp [okB, h1]
    go_enter Try.func22, Try.ntmps22
    go_wp2_with (go_at_call 42; refine (l1In_any _ _ _ _).mono ?_; rintro e w' ⟨rfl, rfl⟩)
    go_ret
    exact ⟨by rw [Hr.out]; rfl, rfl⟩

theorem specShareOk_k (q p : Int) (w : World) :
    Calls Try.prog 22 #[sh q p] w fun e w' => e = .returned (.bool (okB q p)) ∧ Keeps w w' :=
  (specShareOk_any q p w).mono (by rintro e w' ⟨rfl, rfl⟩; exact ⟨rfl, (Keeps.refl _).alloc _⟩)

theorem toShare_any (q p : Int) (w : World) :
    Calls Try.prog 26 #[sh q p] w fun e w' => e = .returned (sh q p) ∧ Keeps w w' := by
  go_enter Try.func26, Try.ntmps26
  go_wp2
  exact bodyPost_ret (v := sh q p) (by simp [results, Try.results26, go_sem]) rfl ⟨rfl, by repeat (first | exact Keeps.refl _ | refine Keeps.alloc ?_ _ | refine Keeps.drewN ?_ _ | refine Keeps.trans ?_ (by assumption))⟩

/-- One part is less than another one. -/
def lessB (q p q' p' : Int) : Bool := okB q p && okB q' p' && decide (q * p' < q' * p)

theorem mul_bd {a b : Int} (ha : 1 ≤ a) (ha' : a ≤ 40) (hb : 1 ≤ b) (hb' : b ≤ 40) : 1 ≤ a * b ∧ a * b ≤ 1600 := by
  obtain ⟨x, rfl⟩ := Int.eq_ofNat_of_zero_le (show 0 ≤ a by omega)
  obtain ⟨y, rfl⟩ := Int.eq_ofNat_of_zero_le (show 0 ≤ b by omega)
  have h1 : 1 * 1 ≤ x * y := Nat.mul_le_mul (by omega) (by omega)
  have h2 : x * y ≤ 40 * 40 := Nat.mul_le_mul (by omega) (by omega)
  have h3 : ((x * y : Nat) : Int) = (x : Int) * (y : Int) := Int.natCast_mul x y
  omega

theorem isBelow_any (q p q' p' : Int) (w : World) (h : okB q p = true) (h' : okB q' p' = true) :
    Calls Try.prog 41 #[sh q p, sh q' p'] w fun e w' => e = .returned (.bool (decide (q * p' < q' * p))) ∧ Keeps w w' := by
  have k := okB_iff.1 h
  have k' := okB_iff.1 h'
  have m1 := mul_bd (a := q) (b := p') (by omega) (by omega) (by omega) (by omega)
  have m2 := mul_bd (a := q') (b := p) (by omega) (by omega) (by omega) (by omega)
  clear k k' h h'
  obtain ⟨m1a, m1b⟩ := m1
  obtain ⟨m2a, m2b⟩ := m2
  go_enter Try.func41, Try.ntmps41
  go_wp2
  go_ret
  exact ⟨rfl, by repeat (first | exact Keeps.refl _ | refine Keeps.alloc ?_ _ | refine Keeps.drewN ?_ _ | refine Keeps.trans ?_ (by assumption))⟩

set_option maxHeartbeats 400000 in
theorem implShareLess_any (q p q' p' : Int) (w : World) :
    Calls Try.prog 19 #[sh q p, sh q' p'] w fun e w' => e = .returned (.bool (lessB q p q' p')) ∧ Keeps w w' := by
  cases h1 : okB q p
  · have Hr : Hid (lessB q p q' p' = false) := by show _ = _; simp [lessB, h1]
    go_enter Try.func19, Try.ntmps19
    go_wp2_with (go_at_call 40; refine (isRight_any _ _ _).mono ?_; rintro e w' ⟨rfl, rfl⟩)
    go_ret
    exact ⟨by rw [Hr.out]; rfl, by repeat (first | exact Keeps.refl _ | refine Keeps.alloc ?_ _ | refine Keeps.drewN ?_ _ | refine Keeps.trans ?_ (by assumption))⟩
  · cases h2 : okB q' p'
    · have Hr : Hid (lessB q p q' p' = false) := by show _ = _; simp [lessB, h2]
      go_enter Try.func19, Try.ntmps19
      go_wp2_with (go_at_call 40; refine (isRight_any _ _ _).mono ?_; rintro e w' ⟨rfl, rfl⟩)
      go_ret
      exact ⟨by rw [Hr.out]; rfl, by repeat (first | exact Keeps.refl _ | refine Keeps.alloc ?_ _ | refine Keeps.drewN ?_ _ | refine Keeps.trans ?_ (by assumption))⟩
    · have Hr : Hid (lessB q p q' p' = decide (q * p' < q' * p)) := by show _ = _; simp [lessB, h1, h2]
      go_enter Try.func19, Try.ntmps19
      go_wp2_with (first
        | (go_at_call 40; refine (isRight_any _ _ _).mono ?_; rintro e w' ⟨rfl, rfl⟩)
        | (go_at_call 41; refine (isBelow_any q p q' p' _ h1 h2).mono ?_; rintro e w' ⟨rfl, hb⟩))
      go_ret
      refine ⟨by rw [Hr.out]; rfl, ?_⟩
      repeat (first | exact Keeps.refl _ | refine Keeps.alloc ?_ _ | refine Keeps.drewN ?_ _ | refine Keeps.trans ?_ (by assumption))

set_option maxHeartbeats 400000 in
theorem specShareLess_any (q p q' p' : Int) (w : World) :
    Calls Try.prog 20 #[sh q p, sh q' p'] w fun e w' => e = .returned (.bool (lessB q p q' p')) ∧ Keeps w w' := by
  cases h1 : okB q p
  · have Hr : Hid (lessB q p q' p' = false) := by show _ = _; simp [lessB, h1]
    go_enter Try.func20, Try.ntmps20
    go_wp2_with (go_at_call 22; refine (specShareOk_any _ _ _).mono ?_; rintro e w' ⟨rfl, rfl⟩)
    go_ret
    exact ⟨by rw [Hr.out]; rfl, by repeat (first | exact Keeps.refl _ | refine Keeps.alloc ?_ _ | refine Keeps.drewN ?_ _ | refine Keeps.trans ?_ (by assumption))⟩
  · cases h2 : okB q' p'
    · have Hr : Hid (lessB q p q' p' = false) := by show _ = _; simp [lessB, h2]
      go_enter Try.func20, Try.ntmps20
      go_wp2_with (go_at_call 22; refine (specShareOk_any _ _ _).mono ?_; rintro e w' ⟨rfl, rfl⟩)
      go_ret
      exact ⟨by rw [Hr.out]; rfl, by repeat (first | exact Keeps.refl _ | refine Keeps.alloc ?_ _ | refine Keeps.drewN ?_ _ | refine Keeps.trans ?_ (by assumption))⟩
    · have Hr : Hid (lessB q p q' p' = decide (q * p' < q' * p)) := by show _ = _; simp [lessB, h1, h2]
      have k := okB_iff.1 h1
      have k' := okB_iff.1 h2
      have m1 := mul_bd (a := q) (b := p') (by omega) (by omega) (by omega) (by omega)
      have m2 := mul_bd (a := q') (b := p) (by omega) (by omega) (by omega) (by omega)
      clear k k'
      obtain ⟨m1a, m1b⟩ := m1
      obtain ⟨m2a, m2b⟩ := m2
      go_enter Try.func20, Try.ntmps20
      go_wp2_with (go_at_call 22; refine (specShareOk_any _ _ _).mono ?_; rintro e w' ⟨rfl, rfl⟩)
      go_ret
      exact ⟨by rw [Hr.out]; rfl, by repeat (first | exact Keeps.refl _ | refine Keeps.alloc ?_ _ | refine Keeps.drewN ?_ _ | refine Keeps.trans ?_ (by assumption))⟩

/-- The law's walk. -/
theorem exactShareOk_walk (q p : Int) (w : World) :
    Calls Try.prog 6 #[sh q p] w fun e w' => e = .returned (.bool true) ∧ Keeps w w' := by
  generalize hg : okB q p = g
  have Hg : Hid (okB q p = g) := hg
  clear hg
  have hne : (g != g) = false := by simp
  go_enter Try.func6, Try.ntmps6
  go_wp2_with fail
  have kW : Keeps w (w.alloc (.cells #[.int .i64 q, .int .i64 p] 39)) := (Keeps.refl _).alloc _
  have r1 := Keeps.has (W := w.alloc (.cells #[.int .i64 q, .int .i64 p] 39)) (b := w.heap.size) (o := 0) (v := .int .i64 q) (by simp [go_sem])
  have r2 := Keeps.has (W := w.alloc (.cells #[.int .i64 q, .int .i64 p] 39)) (b := w.heap.size) (o := 1) (v := .int .i64 p) (by simp [go_sem])
  generalize w.alloc (.cells #[.int .i64 q, .int .i64 p] 39) = W at *
  refine (toShare_any _ _ _).mono ?_
  rintro e w1 ⟨rfl, b1⟩
  have k1 : Keeps W w1 := b1
  go_wp2_with fail
  refine (specShareOk_k _ _ _).mono ?_
  rintro e w2 ⟨rfl, b2⟩
  have k2 : Keeps W w2 := k1.trans b2
  rw [Hg.out]
  go_wp2_with fail
  refine (toShare_any _ _ _).mono ?_
  rintro e w3 ⟨rfl, b3⟩
  have k3 : Keeps W w3 := k2.trans b3
  go_wp2_with fail
  refine (implShareOk_any _ _ _).mono ?_
  rintro e w4 ⟨rfl, b4⟩
  have k4 : Keeps W w4 := k3.trans b4
  rw [Hg.out]
  go_wp2
  go_ret
  exact ⟨rfl, kW.trans k4⟩

/-- The law's walk. -/
theorem exactShareLess_walk (q p q' p' : Int) (w : World) :
    Calls Try.prog 7 #[sh q p, sh q' p'] w fun e w' => e = .returned (.bool true) ∧ Keeps w w' := by
  generalize hg : lessB q p q' p' = g
  have Hg : Hid (lessB q p q' p' = g) := hg
  clear hg
  have hne : (g != g) = false := by simp
  go_enter Try.func7, Try.ntmps7
  go_wp2
  have kW : Keeps w ((w.alloc (.cells #[.int .i64 q, .int .i64 p] 39)).alloc (.cells #[.int .i64 q', .int .i64 p'] 39)) := ((Keeps.refl _).alloc _).alloc _
  have r1 := Keeps.has (W := (w.alloc (.cells #[.int .i64 q, .int .i64 p] 39)).alloc (.cells #[.int .i64 q', .int .i64 p'] 39)) (b := w.heap.size) (o := 0) (v := .int .i64 q) (by simp [go_sem])
  have r2 := Keeps.has (W := (w.alloc (.cells #[.int .i64 q, .int .i64 p] 39)).alloc (.cells #[.int .i64 q', .int .i64 p'] 39)) (b := w.heap.size) (o := 1) (v := .int .i64 p) (by simp [go_sem])
  have r3 := Keeps.has (W := (w.alloc (.cells #[.int .i64 q, .int .i64 p] 39)).alloc (.cells #[.int .i64 q', .int .i64 p'] 39)) (b := w.heap.size + 1) (o := 0) (v := .int .i64 q') (by simp [go_sem])
  have r4 := Keeps.has (W := (w.alloc (.cells #[.int .i64 q, .int .i64 p] 39)).alloc (.cells #[.int .i64 q', .int .i64 p'] 39)) (b := w.heap.size + 1) (o := 1) (v := .int .i64 p') (by simp [go_sem])
  generalize (w.alloc (.cells #[.int .i64 q, .int .i64 p] 39)).alloc (.cells #[.int .i64 q', .int .i64 p'] 39) = W at *
  go_region_held3 (fun w' => Keeps W w') (first | exact (Keeps.refl _).drew | exact Keeps.trans (by assumption) (by assumption))
    (first
    | (go_at_call 26; refine (toShare_any _ _ _).mono ?_; rintro e w' ⟨rfl, hb⟩)
    | (go_at_call 20; refine (specShareLess_any _ _ _ _ _).mono ?_; rintro e w' ⟨rfl, hb⟩; rw [Hg.out]))
  go_wp2
  go_region_held3 (fun w' => Keeps W w') (first | exact Keeps.drew (by assumption) | exact Keeps.trans (by assumption) (by assumption))
    (first
    | (go_at_call 26; refine (toShare_any _ _ _).mono ?_; rintro e w' ⟨rfl, hb⟩)
    | (go_at_call 19; refine (implShareLess_any _ _ _ _ _).mono ?_; rintro e w' ⟨rfl, hb⟩; rw [Hg.out]))
  go_wp2
  go_ret
  exact ⟨rfl, kW.trans (by assumption)⟩
end Go.Proofs.Ytdfhoflmjcdkkaa
