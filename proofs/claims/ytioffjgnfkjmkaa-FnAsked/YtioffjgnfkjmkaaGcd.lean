/-
  The greatest common divisor: contracts of the program's and of the model's functions over it, each for every argument that its callers hand it.
-/
import Derived.Test.YtioffjgnfkjmkaaGBase1
namespace Go.Proofs.Ytioffjgnfkjmkaa
open Go.RowKit

theorem tmod_nat (x y : Nat) : (x : Int).tmod (y : Int) = ((x % y : Nat) : Int) := by
  rw [Int.tmod_eq_emod_of_nonneg (by omega)]; rfl

theorem gcd_step (x y : Nat) : Nat.gcd y (x % y) = Nat.gcd x y := by
  rw [Nat.gcd_comm x y, Nat.gcd_rec y x, Nat.gcd_comm]

/-- What Gcd answers. -/
def gcdI (a b : Int) : Int := if inB a (-1000000) 1000000 && inB b (-1000000) 1000000 then (Nat.gcd a.natAbs b.natAbs : Int) else 0

theorem gcdI_in {a b : Int} (ha : inB a (-1000000) 1000000 = true) (hb : inB b (-1000000) 1000000 = true) : gcdI a b = (Nat.gcd a.natAbs b.natAbs : Int) := by simp [gcdI, ha, hb]
theorem gcdI_out1 {a b : Int} (ha : inB a (-1000000) 1000000 = false) : gcdI a b = 0 := by simp [gcdI, ha]
theorem gcdI_out2 {a b : Int} (hb : inB b (-1000000) 1000000 = false) : gcdI a b = 0 := by simp [gcdI, hb]

theorem max_neg' (a : Int) : max a (-a) = (a.natAbs : Int) := by omega

end Go.Proofs.Ytioffjgnfkjmkaa
