/-
  Sums of parts without loss: the plain arithmetic. No Go in sight.
-/
import Derived.Test.YthffapllcbjmlaaRows
namespace Go.Proofs.Ythffapllcbjmlaa.Plain

/-- One part more: the sum in lowest terms. -/
def stepI (s x : Int × Int) : Int × Int :=
  ((s.1 * x.2 + x.1 * s.2) / (Int.gcd (s.1 * x.2 + x.1 * s.2) (s.2 * x.2) : Int), (s.2 * x.2) / (Int.gcd (s.1 * x.2 + x.1 * s.2) (s.2 * x.2) : Int))
def sumI (xs : List (Int × Int)) : Int × Int := xs.foldl stepI (0, 1)
theorem sumI_snoc (xs : List (Int × Int)) (x : Int × Int) : sumI (xs ++ [x]) = stepI (sumI xs) x := by simp [sumI]
theorem sumI_take (xs : List (Int × Int)) (k : Nat) (h : k < xs.length) : sumI (xs.take (k + 1)) = stepI (sumI (xs.take k)) (xs.getD k (0, 0)) := by
  rw [List.take_succ_eq_append_getElem h, sumI_snoc]; simp [h]

/-- What a sum of k parts keeps to. -/
def Inv (k : Nat) (s : Int × Int) : Prop := 0 ≤ s.1 ∧ 1 ≤ s.2 ∧ s.2 ≤ ((40 ^ k : Nat) : Int) ∧ s.1 ≤ (k : Int) * s.2

theorem inv_zero : Inv 0 (0, 1) := by simp [Inv]

theorem div_parts (n d g : Int) (_hg : 1 ≤ g) (hn : g ∣ n) (hd : g ∣ d) : n = g * (n / g) ∧ d = g * (d / g) := ⟨(Int.mul_ediv_cancel' hn).symm, (Int.mul_ediv_cancel' hd).symm⟩

theorem mul_le_mono {a b c : Int} (h : a ≤ b) (hc : 0 ≤ c) : a * c ≤ b * c := Int.mul_le_mul_of_nonneg_right h hc
theorem mul_le_mono' {a b c : Int} (h : a ≤ b) (hc : 0 ≤ c) : c * a ≤ c * b := Int.mul_le_mul_of_nonneg_left h hc

theorem step_inv {k : Nat} {n d q p : Int} (h : Inv k (n, d)) (hp1 : 1 ≤ p) (hp2 : p ≤ 40) (hq1 : 1 ≤ q) (hq2 : q ≤ p) :
    1 ≤ (Int.gcd (n * p + q * d) (d * p) : Int) ∧ (Int.gcd (n * p + q * d) (d * p) : Int) ≤ d * p ∧ 0 ≤ n * p ∧ 0 ≤ q * d ∧ 1 ≤ d * p ∧ n * p + q * d ≤ (k + 1 : Int) * (d * p) ∧ n * p ≤ (k : Int) * (d * p) ∧ q * d ≤ d * p ∧ d * p ≤ ((40 ^ (k + 1) : Nat) : Int) ∧ Inv (k + 1) (stepI (n, d) (q, p)) := by
  obtain ⟨h1, h2, h3, h4⟩ := h
  simp only at h1 h2 h3 h4
  have a1 : 0 ≤ n * p := Int.mul_nonneg h1 (by omega)
  have a2 : 0 ≤ q * d := Int.mul_nonneg (by omega) (by omega)
  have a3 : 1 * 1 ≤ d * p := Int.mul_le_mul h2 hp1 (by omega) (by omega)
  have a4 : n * p ≤ ((k : Int) * d) * p := mul_le_mono h4 (by omega)
  have a5 : q * d ≤ p * d := mul_le_mono hq2 (by omega)
  have a6 : ((k : Int) * d) * p = (k : Int) * (d * p) := Int.mul_assoc _ _ _
  have a7 : p * d = d * p := Int.mul_comm _ _
  have a8 : (k + 1 : Int) * (d * p) = (k : Int) * (d * p) + d * p := by rw [Int.add_mul, Int.one_mul]
  have a9 : d * p ≤ ((40 ^ k : Nat) : Int) * p := mul_le_mono h3 (by omega)
  have a10 : ((40 ^ k : Nat) : Int) * p ≤ ((40 ^ k : Nat) : Int) * 40 := mul_le_mono' hp2 (by omega)
  have a11 : ((40 ^ (k + 1) : Nat) : Int) = ((40 ^ k : Nat) : Int) * 40 := by rw [Nat.pow_succ]; exact Int.natCast_mul _ _
  have g0 : 0 < Int.gcd (n * p + q * d) (d * p) := Int.gcd_pos_of_ne_zero_right _ (by omega)
  have gd := Int.gcd_dvd_right (n * p + q * d) (d * p)
  have gn := Int.gcd_dvd_left (n * p + q * d) (d * p)
  have gle := Int.le_of_dvd (by omega) gd
  unfold Inv stepI
  simp only
  generalize (Int.gcd (n * p + q * d) (d * p) : Nat) = g at *
  obtain ⟨e1, e2⟩ := div_parts _ _ (g : Int) (by omega) gn gd
  have f1 : 0 ≤ (n * p + q * d) / (g : Int) := Int.ediv_nonneg (by omega) (by omega)
  have f2 : 0 < (d * p) / (g : Int) := Int.ediv_pos_of_pos_of_dvd (by omega) (by omega) gd
  have f3 : (d * p) / (g : Int) ≤ d * p := Int.ediv_le_self _ (by omega)
  generalize (n * p + q * d) / (g : Int) = n' at *
  generalize (d * p) / (g : Int) = d' at *
  refine ⟨by omega, by omega, a1, a2, by omega, by omega, by omega, by omega, by omega, f1, by omega, by omega, ?_⟩
  have c1 : n * p + q * d ≤ (k + 1 : Int) * (d * p) := by omega
  rw [e1, e2] at c1
  have c2 : (k + 1 : Int) * ((g : Int) * d') = (g : Int) * ((k + 1 : Int) * d') := Int.mul_left_comm _ _ _
  rw [c2] at c1
  have := Int.le_of_mul_le_mul_left c1 (by omega)
  simpa using this

theorem pow40 {k : Nat} (h : k ≤ 7) : ((40 ^ k : Nat) : Int) ≤ 163840000000 := by
  have : 40 ^ k ≤ 40 ^ 7 := Nat.pow_le_pow_right (by omega) h
  omega

/-- A sum of at most seven parts fits. -/
theorem inv_bd {k : Nat} {n d : Int} (h : Inv k (n, d)) (hk : k ≤ 7) : 0 ≤ n ∧ n ≤ 1146880000000 ∧ 1 ≤ d ∧ d ≤ 163840000000 := by
  obtain ⟨h1, h2, h3, h4⟩ := h
  have := pow40 hk
  simp only at h1 h2 h3 h4
  have : (k : Int) * d ≤ 7 * d := mul_le_mono (by omega) (by omega)
  omega

theorem step_bd {k : Nat} {n d q p : Int} (h : Inv k (n, d)) (hk : k < 7) (hp1 : 1 ≤ p) (hp2 : p ≤ 40) (hq1 : 1 ≤ q) (hq2 : q ≤ p) :
    0 ≤ n * p ∧ n * p ≤ 1146880000000 ∧ 0 ≤ q * d ∧ q * d ≤ 163840000000 ∧ 1 ≤ d * p ∧ d * p ≤ 163840000000 ∧ 1 ≤ (Int.gcd (n * p + q * d) (d * p) : Int) ∧ (Int.gcd (n * p + q * d) (d * p) : Int) ≤ 163840000000 := by
  obtain ⟨a1, a2, a3, a4, a5, a6, a7, a8, a9, _⟩ := step_inv h hp1 hp2 hq1 hq2
  have := pow40 (k := k + 1) (by omega)
  have : (k : Int) * (d * p) ≤ 7 * (d * p) := mul_le_mono (by omega) (by omega)
  omega
theorem step_next {k : Nat} {n d q p : Int} (h : Inv k (n, d)) (hp1 : 1 ≤ p) (hp2 : p ≤ 40) (hq1 : 1 ≤ q) (hq2 : q ≤ p) : Inv (k + 1) (stepI (n, d) (q, p)) := (step_inv h hp1 hp2 hq1 hq2).2.2.2.2.2.2.2.2.2
end Go.Proofs.Ythffapllcbjmlaa.Plain
