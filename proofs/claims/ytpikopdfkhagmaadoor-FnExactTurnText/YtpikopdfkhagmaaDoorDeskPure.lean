/-
  Numbers in digits, and texts: plain lists of bytes.
-/
import Derived.Test.YtpikopdfkhagmaaDoorBase
namespace Go.Proofs.YtpikopdfkhagmaaDoor
open Go.RowKit

/-- A text, as the list of its bytes. -/
abbrev strV (l : List UInt8) : Value := .string ⟨l.toArray⟩
/-- The byte of a digit. -/
def dig (d : Nat) : UInt8 := UInt8.ofNat (48 + d)
/-- The digits of a number above nought (of nought: none). -/
def digsF : Nat → Nat → List UInt8
  | 0, _ => []
  | f + 1, n => if n = 0 then [] else digsF f (n / 10) ++ [dig (n % 10)]
def digs (n : Nat) : List UInt8 := digsF n n
theorem digsF_more : ∀ (f g n : Nat), n ≤ f → n ≤ g → digsF f n = digsF g n
  | 0, 0, _, _, _ => rfl
  | 0, g + 1, n, hf, _ => by
    obtain rfl : n = 0 := by omega
    rfl
  | f + 1, 0, n, _, hg => by
    obtain rfl : n = 0 := by omega
    rfl
  | f + 1, g + 1, n, hf, hg => by
    unfold digsF
    by_cases h : n = 0
    · rw [if_pos h, if_pos h]
    · rw [if_neg h, if_neg h, digsF_more f g (n / 10) (by omega) (by omega)]
theorem digs_zero : digs 0 = [] := rfl
theorem digs_pos {n : Nat} (h : 0 < n) : digs n = digs (n / 10) ++ [dig (n % 10)] := by
  obtain ⟨f, rfl⟩ : ∃ f, n = f + 1 := ⟨n - 1, by omega⟩
  show digsF (f + 1) (f + 1) = digsF _ _ ++ _
  rw [digsF, if_neg (by omega), digsF_more f ((f + 1) / 10) ((f + 1) / 10) (by omega) (by omega)]
theorem digs_length : ∀ (k n : Nat), n < 10 ^ k → (digs n).length ≤ k
  | 0, n, h => by
    have : n = 0 := by simpa using h
    subst this
    rw [digs_zero]
    exact Nat.le_refl _
  | k + 1, n, h => by
    by_cases h0 : n = 0
    · subst h0; rw [digs_zero]; simp
    · rw [digs_pos (by omega), List.length_append]
      have := digs_length k (n / 10) (by rw [Nat.pow_succ] at h; omega)
      simp
      omega
/-- A number in digits, with its sign. -/
def numL (n : Int) : List UInt8 := if n < 0 then 45 :: digs n.natAbs else if n = 0 then [48] else digs n.natAbs
theorem numL_neg {n : Int} (h : n < 0) : numL n = 45 :: digs n.natAbs := if_pos h
theorem numL_pos {n : Nat} (h : 0 < n) : numL n = digs n := by
  unfold numL
  rw [if_neg (by omega), if_neg (by omega)]
  rfl
theorem numL_length {n : Int} (h0 : -99999999 ≤ n) (h1 : n ≤ 99999999) : (numL n).length ≤ 9 := by
  have := digs_length 8 n.natAbs (by omega)
  unfold numL
  split
  · simp; omega
  · split
    · simp
    · omega
end Go.Proofs.YtpikopdfkhagmaaDoor
