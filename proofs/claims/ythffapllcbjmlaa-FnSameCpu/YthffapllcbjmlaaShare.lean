/-
  Parts of time: contracts of the functions that say which part is right and which of two is less.
-/
import Derived.Test.YthffapllcbjmlaaGcd
import Derived.Test.YthffapllcbjmlaaGTask1
import Derived.Laws.ResultCell
import Derived.Deep.RegionHeld3
namespace Go.Proofs.Ythffapllcbjmlaa
open Go.RowKit

/-- One part is less than another one. -/
def lessB (q p q' p' : Int) : Bool := okB q p && okB q' p' && decide (q * p' < q' * p)

theorem mul_bdS {a b : Int} (ha : 1 ≤ a) (ha' : a ≤ 40) (hb : 1 ≤ b) (hb' : b ≤ 40) : 1 ≤ a * b ∧ a * b ≤ 1600 := by
  obtain ⟨x, rfl⟩ := Int.eq_ofNat_of_zero_le (show 0 ≤ a by omega)
  obtain ⟨y, rfl⟩ := Int.eq_ofNat_of_zero_le (show 0 ≤ b by omega)
  have h1 : 1 * 1 ≤ x * y := Nat.mul_le_mul (by omega) (by omega)
  have h2 : x * y ≤ 40 * 40 := Nat.mul_le_mul (by omega) (by omega)
  have h3 : ((x * y : Nat) : Int) = (x : Int) * (y : Int) := Int.natCast_mul x y
  omega

end Go.Proofs.Ythffapllcbjmlaa
