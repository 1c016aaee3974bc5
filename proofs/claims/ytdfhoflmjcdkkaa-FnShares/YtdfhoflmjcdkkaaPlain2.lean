/-
  What fits: the plain arithmetic. A sum in lowest terms is at most one just if the sum over the whole denominator is. No Go in sight.
-/
import Derived.Test.YtdfhoflmjcdkkaaSum
namespace Go.Proofs.Ytdfhoflmjcdkkaa.Plain

/-- The sum over the product of all periods, not in lowest terms. -/
def rawD : List (Int × Int) → Int
  | [] => 1
  | x :: r => x.2 * rawD r
def rawN : List (Int × Int) → Int
  | [] => 0
  | x :: r => x.1 * rawD r + x.2 * rawN r

def Good (x : Int × Int) : Prop := (1 ≤ x.2 ∧ x.2 ≤ 40) ∧ 1 ≤ x.1 ∧ x.1 ≤ x.2

theorem raw_pos : ∀ {xs : List (Int × Int)}, (∀ x ∈ xs, Good x) → 1 ≤ rawD xs ∧ 0 ≤ rawN xs
  | [], _ => by simp [rawD, rawN]
  | x :: r, h => by
    obtain ⟨h1, h2⟩ := raw_pos (xs := r) (fun y hy => h y (by simp [hy]))
    obtain ⟨⟨a, _⟩, c, _⟩ := h x (by simp)
    have e1 : 1 * 1 ≤ x.2 * rawD r := Int.mul_le_mul a h1 (by omega) (by omega)
    have e2 : 0 ≤ x.1 * rawD r := Int.mul_nonneg (by omega) (by omega)
    have e3 : 0 ≤ x.2 * rawN r := Int.mul_nonneg (by omega) h2
    simp only [rawD, rawN]
    omega

theorem step_prop {n d q p : Int} (h : 1 ≤ (Int.gcd (n * p + q * d) (d * p) : Int)) : (stepI (n, d) (q, p)).1 * (d * p) = (stepI (n, d) (q, p)).2 * (n * p + q * d) := by
  obtain ⟨e1, e2⟩ := div_parts (n * p + q * d) (d * p) _ h (Int.gcd_dvd_left _ _) (Int.gcd_dvd_right _ _)
  show (n * p + q * d) / _ * (d * p) = (d * p) / _ * (n * p + q * d)
  generalize (Int.gcd (n * p + q * d) (d * p) : Int) = g at *
  generalize (n * p + q * d) / g = n' at *
  generalize (d * p) / g = d' at *
  rw [e1, e2, ← Int.mul_assoc, ← Int.mul_assoc, Int.mul_comm n' g, Int.mul_comm d' g, Int.mul_right_comm]

theorem fold_prop : ∀ (xs : List (Int × Int)) (k : Nat) (n d : Int), (∀ x ∈ xs, Good x) → Inv k (n, d) →
    Inv (k + xs.length) (xs.foldl stepI (n, d)) ∧ (xs.foldl stepI (n, d)).1 * (d * rawD xs) = (xs.foldl stepI (n, d)).2 * (n * rawD xs + d * rawN xs)
  | [], k, n, d, _, hI => by
    refine ⟨by simpa using hI, ?_⟩
    simp [rawD, rawN, Int.mul_comm]
  | (q, p) :: r, k, n, d, h, hI => by
    obtain ⟨⟨a, b⟩, c, e⟩ := h (q, p) (by simp)
    simp only at a b c e
    have hs := step_inv hI a b c e
    have hI' := step_next hI a b c e
    have hI'' := step_next hI a b c e
    have hp := step_prop hs.1
    obtain ⟨hd1, _⟩ := raw_pos (xs := r) (fun y hy => h y (by simp [hy]))
    obtain ⟨_, h2, _⟩ := hI
    obtain ⟨_, h2', _⟩ := hI'
    simp only [List.foldl_cons, List.length_cons]
    generalize stepI (n, d) (q, p) = s at *
    obtain ⟨n', d'⟩ := s
    obtain ⟨ih1, ih2⟩ := fold_prop r (k + 1) n' d' (fun y hy => h y (by simp [hy])) hI''
    refine ⟨by rw [show k + (r.length + 1) = k + 1 + r.length from by omega]; exact ih1, ?_⟩
    generalize List.foldl stepI (n', d') r = t at *
    obtain ⟨N, D⟩ := t
    simp only [rawD, rawN] at *
    -- N d' Dr = D (n' Dr + d' Nr), n' (d p) = d' (n p + q d); wanted: N (d (p Dr)) = D (n (p Dr) + d (q Dr + p Nr))
    have hd' : d' ≠ 0 := by omega
    refine Int.eq_of_mul_eq_mul_left hd' ?_
    have e1 : d' * (N * (d * (p * rawD r))) = (d * p) * (N * (d' * rawD r)) := by
      simp only [Int.mul_assoc, Int.mul_comm, Int.mul_left_comm]
    rw [e1, ih2]
    have e2 : d * p * (D * (n' * rawD r + d' * rawN r)) = D * (rawD r * (n' * (d * p)) + d' * (d * p) * rawN r) := by
      simp only [Int.mul_add, Int.mul_assoc, Int.mul_comm, Int.mul_left_comm]
    rw [e2, hp]
    simp only [Int.mul_add, Int.add_mul, Int.mul_assoc, Int.mul_comm, Int.mul_left_comm, Int.add_assoc]

/-- A sum is at most one just if it is over the whole denominator. -/
theorem fits_iff {xs : List (Int × Int)} (h : ∀ x ∈ xs, Good x) : (sumI xs).1 ≤ (sumI xs).2 ↔ rawN xs ≤ rawD xs := by
  obtain ⟨hI, hp⟩ := fold_prop xs 0 0 1 h inv_zero
  obtain ⟨_, h2, _⟩ := hI
  obtain ⟨hd, _⟩ := raw_pos h
  have e : (sumI xs).1 * rawD xs = (sumI xs).2 * rawN xs := by simpa [sumI] using hp
  have h2' : 1 ≤ (sumI xs).2 := h2
  generalize (sumI xs).1 = n at *
  generalize (sumI xs).2 = d at *
  generalize rawD xs = D at *
  generalize rawN xs = N at *
  constructor
  · intro hle
    have : n * D ≤ d * D := mul_le_mono hle (by omega)
    rw [e] at this
    exact Int.le_of_mul_le_mul_left this (by omega)
  · intro hle
    have : d * N ≤ d * D := mul_le_mono' hle (by omega)
    rw [← e] at this
    exact Int.le_of_mul_le_mul_right this (by omega)

theorem sum_pos {xs : List (Int × Int)} (h : ∀ x ∈ xs, Good x) : 0 ≤ (sumI xs).1 ∧ 1 ≤ (sumI xs).2 := by
  obtain ⟨hI, _⟩ := fold_prop xs 0 0 1 h inv_zero
  exact ⟨hI.1, hI.2.1⟩

/-- What fits fits without its first part. -/
theorem raw_tail {x : Int × Int} {xs : List (Int × Int)} (h : ∀ y ∈ x :: xs, Good y) (hf : rawN (x :: xs) ≤ rawD (x :: xs)) : rawN xs ≤ rawD xs := by
  obtain ⟨hd, _⟩ := raw_pos (xs := xs) (fun y hy => h y (by simp [hy]))
  obtain ⟨⟨a, _⟩, c, _⟩ := h x (by simp)
  simp only [rawN, rawD] at hf
  have : 0 ≤ x.1 * rawD xs := Int.mul_nonneg (by omega) (by omega)
  exact Int.le_of_mul_le_mul_left (show x.2 * rawN xs ≤ x.2 * rawD xs by omega) (by omega)

theorem raw_snoc : ∀ (xs : List (Int × Int)) (x : Int × Int), rawD (xs ++ [x]) = rawD xs * x.2 ∧ rawN (xs ++ [x]) = rawN xs * x.2 + x.1 * rawD xs
  | [], x => by simp [rawD, rawN]
  | y :: r, x => by
    obtain ⟨h1, h2⟩ := raw_snoc r x
    simp only [List.cons_append, rawD, rawN, h1, h2]
    refine ⟨by rw [Int.mul_assoc], ?_⟩
    simp only [Int.mul_add, Int.add_mul, Int.mul_assoc, Int.mul_left_comm, Int.add_assoc]

/-- .. and without its last one. -/
theorem raw_init {xs : List (Int × Int)} {x : Int × Int} (h : ∀ y ∈ xs ++ [x], Good y) (hf : rawN (xs ++ [x]) ≤ rawD (xs ++ [x])) : rawN xs ≤ rawD xs := by
  obtain ⟨hd, _⟩ := raw_pos (xs := xs) (fun y hy => h y (by simp [hy]))
  obtain ⟨⟨a, _⟩, c, _⟩ := h x (by simp)
  rw [(raw_snoc xs x).1, (raw_snoc xs x).2] at hf
  have : 0 ≤ x.1 * rawD xs := Int.mul_nonneg (by omega) (by omega)
  exact Int.le_of_mul_le_mul_right (show rawN xs * x.2 ≤ rawD xs * x.2 by omega) (by omega)

/-- The lesser one fits where the greater one does. -/
theorem raw_less {q p q' p' c : Int} (hg : Good (q, p)) (hg' : Good (q', p')) (hc : 1 ≤ c) (hl : q * p' < q' * p) (hf : rawN [(q', p'), (1, c)] ≤ rawD [(q', p'), (1, c)]) : rawN [(q, p), (1, c)] ≤ rawD [(q, p), (1, c)] := by
  obtain ⟨⟨a, _⟩, b, _⟩ := hg
  obtain ⟨⟨a', _⟩, b', _⟩ := hg'
  simp only at a b a' b'
  simp [rawN, rawD] at hf ⊢
  -- q' c + p' ≤ p' c, q p' < q' p; wanted: q c + p ≤ p c
  have h1 : (q * p') * c ≤ (q' * p) * c := mul_le_mono (by omega) (by omega)
  have h2 : p * (q' * c + p') ≤ p * (p' * c) := mul_le_mono' hf (by omega)
  have e1 : p * (q' * c + p') = (q' * p) * c + p' * p := by simp only [Int.mul_add, Int.mul_comm, Int.mul_left_comm]
  have e2 : p * (p' * c) = p' * (p * c) := Int.mul_left_comm _ _ _
  have e3 : (q * p') * c = p' * (q * c) := by simp only [Int.mul_comm, Int.mul_left_comm]
  have e4 : p' * (q * c + p) = p' * (q * c) + p' * p := Int.mul_add _ _ _
  exact Int.le_of_mul_le_mul_left (show p' * (q * c + p) ≤ p' * (p * c) by omega) (by omega)
end Go.Proofs.Ytdfhoflmjcdkkaa.Plain
