/-
  The greatest common divisor: contracts of the program's and of the model's functions over it, each for every argument that its callers hand it.
-/
import Derived.Test.YthffapllcbjmlaaGBase1
namespace Go.Proofs.Ythffapllcbjmlaa
open Go.RowKit

theorem tmod_nat (x y : Nat) : (x : Int).tmod (y : Int) = ((x % y : Nat) : Int) := by
  rw [Int.tmod_eq_emod_of_nonneg (by omega)]; rfl

theorem gcd_step (x y : Nat) : Nat.gcd y (x % y) = Nat.gcd x y := by
  rw [Nat.gcd_comm x y, Nat.gcd_rec y x, Nat.gcd_comm]

set_option maxRecDepth 100000 in
set_option maxHeartbeats 400000 in
theorem l1Gcd_any (a b : Nat) (w : World) (ha : a ≤ 9223372036854775807) (hb : b ≤ 9223372036854775807) :
    Calls Try.prog 78 #[.int .i64 a, .int .i64 b] w fun e w' => e = .returned (.int .i64 (Nat.gcd a b)) ∧ Quiet w w' := by
  go_enter Try.func78, Try.ntmps78
  go_wp2
  go_loopw [0, 1] (fun s t wr => ∃ x y : Nat, x ≤ 9223372036854775807 ∧ y ≤ 9223372036854775807 ∧ s = .int .i64 x ∧ t = .int .i64 y ∧ Hid (Nat.gcd x y = Nat.gcd a b) ∧ Quiet w wr) (fun _ t _ => (intOf t).toNat)
  case atStart => exact ⟨a, b, ha, hb, rfl, rfl, rfl, Quiet.refl _⟩
  case round =>
    obtain ⟨x, y, hx, hy, rfl, rfl, hg, hq⟩ := hrel
    by_cases h0 : 0 < y
    · have h1 : x % y < y := Nat.mod_lt _ h0
      have hn : ((y : Int) != 0) = true := by rw [bne_iff_ne]; omega
      go_wp2
      go_quiet (fail)
      go_wp2
      go_roundw
      case rel => exact ⟨y, x % y, hy, by omega, rfl, rfl, (gcd_step x y).trans hg.out, hq.drewN _⟩
      case measure => simp only [intOf]; omega
    · have h2 : y = 0 := by omega
      subst h2
      go_wp2
      go_ret
      exact ⟨by rw [← hg.out]; simp, hq⟩

set_option maxRecDepth 100000 in
theorem l1Max_anyG (a b : Int) (w : World) :
    Calls Try.prog 40 #[.int .i64 a, .int .i64 b] w fun e w' => e = .returned (.int .i64 (max a b)) ∧ w' = w := by
  by_cases h0 : b < a
  · have Hr : Hid (max a b = a) := by show _ = _; omega
    go_enter Try.func40, Try.ntmps40
    go_wp2
    go_ret
    exact ⟨by rw [Hr.out]; rfl, rfl⟩
  · have Hr : Hid (max a b = b) := by show _ = _; omega
    go_enter Try.func40, Try.ntmps40
    go_wp2
    go_ret
    exact ⟨by rw [Hr.out]; rfl, rfl⟩

/-- What Gcd answers. -/
def gcdI (a b : Int) : Int := if inB a (-1000000) 1000000 && inB b (-1000000) 1000000 then (Nat.gcd a.natAbs b.natAbs : Int) else 0

theorem gcdI_in {a b : Int} (ha : inB a (-1000000) 1000000 = true) (hb : inB b (-1000000) 1000000 = true) : gcdI a b = (Nat.gcd a.natAbs b.natAbs : Int) := by simp [gcdI, ha, hb]
theorem gcdI_out1 {a b : Int} (ha : inB a (-1000000) 1000000 = false) : gcdI a b = 0 := by simp [gcdI, ha]
theorem gcdI_out2 {a b : Int} (hb : inB b (-1000000) 1000000 = false) : gcdI a b = 0 := by simp [gcdI, hb]

theorem max_neg' (a : Int) : max a (-a) = (a.natAbs : Int) := by omega

end Go.Proofs.Ythffapllcbjmlaa
