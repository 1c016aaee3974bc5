/-
  The law FnGcd's walk: for every text.
-/
import Derived.Test.YtdfhoflmjcdkkaaDraw
namespace Go.Proofs.Ytdfhoflmjcdkkaa
open Go.RowKit
attribute [local go_sem] Keeps.refl Keeps.alloc Keeps.drew Keeps.drewN

theorem gcdI_comm (a b : Int) : gcdI a b = gcdI b a := by
  simp only [gcdI, Bool.and_comm (inB a _ _), Nat.gcd_comm a.natAbs]

/-- Both divided by their greatest common divisor. -/
theorem gcd_parts {x y : Int} (hx : inB x (-1000000) 1000000 = true) (hy : inB y (-1000000) 1000000 = true) (h0 : ¬ (x = 0 ∧ y = 0)) :
    ∃ g x' y' : Int, gcdI x y = g ∧ 1 ≤ g ∧ g ≤ 1000000 ∧ x.tmod g = 0 ∧ y.tmod g = 0 ∧ x.tdiv g = x' ∧ y.tdiv g = y' ∧ -1000000 ≤ x' ∧ x' ≤ 1000000 ∧ -1000000 ≤ y' ∧ y' ≤ 1000000 ∧ gcdI x' y' = 1 := by
  rw [gcdI_in hx hy]
  obtain ⟨hx1, hx2⟩ := inB_iff.1 hx
  obtain ⟨hy1, hy2⟩ := inB_iff.1 hy
  have hpos : 0 < Nat.gcd x.natAbs y.natAbs := Nat.gcd_pos_iff.2 (by omega)
  have hle : Nat.gcd x.natAbs y.natAbs ≤ 1000000 := by
    by_cases h : x = 0
    · have : Nat.gcd x.natAbs y.natAbs ≤ y.natAbs := Nat.le_of_dvd (by omega) (Nat.gcd_dvd_right _ _)
      omega
    · have : Nat.gcd x.natAbs y.natAbs ≤ x.natAbs := Nat.le_of_dvd (by omega) (Nat.gcd_dvd_left _ _)
      omega
  have dx : ((Nat.gcd x.natAbs y.natAbs : Nat) : Int) ∣ x := Int.ofNat_dvd_left.2 (Nat.gcd_dvd_left _ _)
  have dy : ((Nat.gcd x.natAbs y.natAbs : Nat) : Int) ∣ y := Int.ofNat_dvd_left.2 (Nat.gcd_dvd_right _ _)
  have cop : Nat.gcd (x.natAbs / Nat.gcd x.natAbs y.natAbs) (y.natAbs / Nat.gcd x.natAbs y.natAbs) = 1 := Nat.coprime_div_gcd_div_gcd hpos
  generalize hg : Nat.gcd x.natAbs y.natAbs = g at *
  have ex : (x.tdiv g).natAbs = x.natAbs / g := by rw [Int.natAbs_tdiv]; rfl
  have ey : (y.tdiv g).natAbs = y.natAbs / g := by rw [Int.natAbs_tdiv]; rfl
  have lx : x.natAbs / g ≤ x.natAbs := Nat.div_le_self _ _
  have ly : y.natAbs / g ≤ y.natAbs := Nat.div_le_self _ _
  refine ⟨g, x.tdiv g, y.tdiv g, rfl, by omega, by omega, Int.tmod_eq_zero_of_dvd dx, Int.tmod_eq_zero_of_dvd dy, rfl, rfl, by omega, by omega, by omega, by omega, ?_⟩
  rw [gcdI_in (inB_yes (by omega) (by omega)) (inB_yes (by omega) (by omega)), ex, ey, cop]
  rfl

set_option maxHeartbeats 1600000 in
theorem gcdLaw_walk (a : Option Addr) (n cap : Nat) (w : World) (hm : n ≤ maxLen) (hb : ∀ g, w.heap.size ≤ g → Bytes g w a n) :
    Calls Try.prog 5 #[.slice a n cap] w fun e w' => e = .returned (.bool true) ∧ Keeps w w' := by
  by_cases hn : n ≤ 1048576
  · have hd : decide (1048576 < (n : Int)) = false := by simp; omega
    go_enter Try.func5, Try.ntmps5
    go_wp2_with fail
    refine (big_any _ _ _ _ hm).mono ?_
    rintro e w1 ⟨rfl, rfl⟩
    go_wp2_with fail
    refine (drawGcd_any _ _ _ _ hn hb).mono ?_
    rintro e w1 ⟨x, y, rfl, hx0, hx1, hy0, hy1, k1⟩
    clear hb
    cases hix : inB x (-1000000) 1000000
    · have hg1 : Hid (gcdI x y = 0) := gcdI_out1 hix
      have hg2 : Hid (gcdI y x = 0) := gcdI_out2 hix
      have hxo : ¬ (-1000000 ≤ x ∧ x ≤ 1000000) := fun h => by rw [inB_iff.2 h] at hix; cases hix
      have ex : (x == 0) = false := by rw [beq_eq_false_iff_ne]; omega
      by_cases hp : 1000000 < x
      · go_wp2_with (first
          | (go_at_call 17; refine (implGcd_any _ _ _).mono ?_; rintro e w2 ⟨rfl, m, rfl⟩; first | rw [hg1.out] | rw [hg2.out])
          | (go_at_call 25; refine (specGcd_any _ _ _).mono ?_; rintro e w2 ⟨rfl, m, rfl⟩; rw [hg1.out]))
        go_ret
        exact ⟨rfl, k1.drewN _⟩
      · have hp' : decide (1000000 < x) = false := by simpa using hp
        have hq : x < -1000000 := by omega
        go_wp2_with (first
          | (go_at_call 17; refine (implGcd_any _ _ _).mono ?_; rintro e w2 ⟨rfl, m, rfl⟩; first | rw [hg1.out] | rw [hg2.out])
          | (go_at_call 25; refine (specGcd_any _ _ _).mono ?_; rintro e w2 ⟨rfl, m, rfl⟩; rw [hg1.out]))
        go_ret
        exact ⟨rfl, k1.drewN _⟩
    · obtain ⟨hx2, hx3⟩ := inB_iff.1 hix
      cases hiy : inB y (-1000000) 1000000
      · have hg1 : Hid (gcdI x y = 0) := gcdI_out2 hiy
        have hg2 : Hid (gcdI y x = 0) := gcdI_out1 hiy
        have hyo : ¬ (-1000000 ≤ y ∧ y ≤ 1000000) := fun h => by rw [inB_iff.2 h] at hiy; cases hiy
        have ey : (y == 0) = false := by rw [beq_eq_false_iff_ne]; omega
        have px : decide (1000000 < x) = false := by simp; omega
        have qx : decide (x < -1000000) = false := by simp; omega
        cases ex : (x == 0)
        · by_cases hp : 1000000 < y
          · go_wp2_with (first
              | (go_at_call 17; refine (implGcd_any _ _ _).mono ?_; rintro e w2 ⟨rfl, m, rfl⟩; first | rw [hg1.out] | rw [hg2.out])
              | (go_at_call 25; refine (specGcd_any _ _ _).mono ?_; rintro e w2 ⟨rfl, m, rfl⟩; rw [hg1.out]))
            go_ret
            exact ⟨rfl, k1.drewN _⟩
          · have hp' : decide (1000000 < y) = false := by simpa using hp
            have hq : y < -1000000 := by omega
            go_wp2_with (first
              | (go_at_call 17; refine (implGcd_any _ _ _).mono ?_; rintro e w2 ⟨rfl, m, rfl⟩; first | rw [hg1.out] | rw [hg2.out])
              | (go_at_call 25; refine (specGcd_any _ _ _).mono ?_; rintro e w2 ⟨rfl, m, rfl⟩; rw [hg1.out]))
            go_ret
            exact ⟨rfl, k1.drewN _⟩
        · by_cases hp : 1000000 < y
          · go_wp2_with (first
              | (go_at_call 17; refine (implGcd_any _ _ _).mono ?_; rintro e w2 ⟨rfl, m, rfl⟩; first | rw [hg1.out] | rw [hg2.out])
              | (go_at_call 25; refine (specGcd_any _ _ _).mono ?_; rintro e w2 ⟨rfl, m, rfl⟩; rw [hg1.out]))
            go_ret
            exact ⟨rfl, k1.drewN _⟩
          · have hp' : decide (1000000 < y) = false := by simpa using hp
            have hq : y < -1000000 := by omega
            go_wp2_with (first
              | (go_at_call 17; refine (implGcd_any _ _ _).mono ?_; rintro e w2 ⟨rfl, m, rfl⟩; first | rw [hg1.out] | rw [hg2.out])
              | (go_at_call 25; refine (specGcd_any _ _ _).mono ?_; rintro e w2 ⟨rfl, m, rfl⟩; rw [hg1.out]))
            go_ret
            exact ⟨rfl, k1.drewN _⟩
      · by_cases h00 : x = 0 ∧ y = 0
        · obtain ⟨rfl, rfl⟩ := h00
          have hg1 : Hid (gcdI 0 0 = 0) := by show _ = _; decide
          have hg2 := hg1
          go_wp2_with (first
            | (go_at_call 17; refine (implGcd_any _ _ _).mono ?_; rintro e w2 ⟨rfl, m, rfl⟩; first | rw [hg1.out] | rw [hg2.out])
            | (go_at_call 25; refine (specGcd_any _ _ _).mono ?_; rintro e w2 ⟨rfl, m, rfl⟩; rw [hg1.out]))
          go_ret
          exact ⟨rfl, k1.drewN _⟩
        · obtain ⟨g, x', y', hg, g1, g2, m1, m2, d1, d2, bx0, bx1, by0, by1, hg'⟩ := gcd_parts hix hiy h00
          have hg1 : Hid (gcdI x y = g) := hg
          have hg2 : Hid (gcdI y x = g) := (gcdI_comm y x).trans hg
          have hg3 : Hid (gcdI x' y' = 1) := hg'
          clear hg hg'
          have gne : (g == 0) = false := by rw [beq_eq_false_iff_ne]; omega
          have gnn : (g != g) = false := by simp
          go_wp2_with (first
            | (go_at_call 17; refine (implGcd_any _ _ _).mono ?_; rintro e w2 ⟨rfl, m, rfl⟩; first | rw [hg1.out] | rw [hg2.out])
            | (go_at_call 25; refine (specGcd_any _ _ _).mono ?_; rintro e w2 ⟨rfl, m, rfl⟩; rw [hg1.out]))
          go_quiet ((go_at_call 17; refine (implGcd_any _ _ _).mono ?_; rintro e w2 ⟨rfl, m, rfl⟩; rw [hg3.out]; refine ⟨rfl, ?_⟩; exact ⟨_ + _, by simp [Nat.add_assoc]; rfl⟩))
          go_wp2
          go_ret
          exact ⟨rfl, (k1.drewN _).drewN _⟩
  · have hd : decide (1048576 < (n : Int)) = true := by simp; omega
    go_enter Try.func5, Try.ntmps5
    go_wp2_with (go_at_call 11; refine (big_any _ _ _ _ hm).mono ?_; rintro e w1 ⟨rfl, rfl⟩)
    go_ret
    exact ⟨rfl, Keeps.refl _⟩
end Go.Proofs.Ytdfhoflmjcdkkaa
