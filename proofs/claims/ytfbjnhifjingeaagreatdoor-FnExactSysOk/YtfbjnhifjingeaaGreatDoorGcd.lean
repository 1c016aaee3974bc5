/-
  The greatest common divisor: contracts of the program's and of the model's functions over it, each for every argument that its callers hand it.
-/
import Derived.Test.YtfbjnhifjingeaaGreatDoorGBase1
namespace Go.Proofs.YtfbjnhifjingeaaGreatDoor
open Go.RowKit

theorem tmod_nat (x y : Nat) : (x : Int).tmod (y : Int) = ((x % y : Nat) : Int) := by
  rw [Int.tmod_eq_emod_of_nonneg (by omega)]; rfl

theorem gcd_step (x y : Nat) : Nat.gcd y (x % y) = Nat.gcd x y := by
  rw [Nat.gcd_comm x y, Nat.gcd_rec y x, Nat.gcd_comm]

set_option maxRecDepth 100000 in
set_option maxHeartbeats 400000 in
theorem l1Gcd_any (a b : Nat) (w : World) (ha : a ≤ 9223372036854775807) (hb : b ≤ 9223372036854775807) :
    Calls Tryz.prog 62 #[.int .i64 a, .int .i64 b] w fun e w' => e = .returned (.int .i64 (Nat.gcd a b)) ∧ Quiet w w' := by
  go_enter Tryz.func62, Tryz.ntmps62
  go_wp2
  go_loopw [0, 1] (fun s t wr => ∃ x y : Nat, x ≤ 9223372036854775807 ∧ y ≤ 9223372036854775807 ∧ s = .int .i64 x ∧ t = .int .i64 y ∧ Hid (Nat.gcd x y = Nat.gcd a b) ∧ Quiet w wr) (fun _ t _ => (intOf t).toNat)
  case atStart => exact ⟨a, b, ha, hb, rfl, rfl, rfl, Quiet.refl _⟩
  case round =>
    obtain ⟨x, y, hx, hy, rfl, rfl, hg, hq⟩ := hrel
    by_cases h0 : 0 < y
    · have h1 : x % y < y := Nat.mod_lt _ h0
      have hn : ((y : Int) != 0) = true := by rw [bne_iff_ne]; omega
      go_wp2
      go_quiet (fail)
      go_wp2
      go_roundw
      case rel => exact ⟨y, x % y, hy, by omega, rfl, rfl, (gcd_step x y).trans hg.out, hq.drewN _⟩
      case measure => simp only [intOf]; omega
    · have h2 : y = 0 := by omega
      subst h2
      go_wp2
      go_ret
      exact ⟨by rw [← hg.out]; simp, hq⟩

set_option maxRecDepth 100000 in
set_option maxHeartbeats 400000 in
theorem commonDivisor_any (a b : Nat) (w : World) (ha : a ≤ 9223372036854775807) (hb : b ≤ 9223372036854775807) :
    Calls Tryz.prog 108 #[.int .i64 a, .int .i64 b] w fun e w' => e = .returned (.int .i64 (Nat.gcd a b)) ∧ Quiet w w' := by
  go_enter Tryz.func108, Tryz.ntmps108
  go_wp2
  go_loopw [0, 1] (fun s t wr => ∃ x y : Nat, x ≤ 9223372036854775807 ∧ y ≤ 9223372036854775807 ∧ s = .int .i64 x ∧ t = .int .i64 y ∧ Hid (Nat.gcd x y = Nat.gcd a b) ∧ Quiet w wr) (fun _ t _ => (intOf t).toNat)
  case atStart => exact ⟨a, b, ha, hb, rfl, rfl, rfl, Quiet.refl _⟩
  case round =>
    obtain ⟨x, y, hx, hy, rfl, rfl, hg, hq⟩ := hrel
    by_cases h0 : 0 < y
    · have h1 : x % y < y := Nat.mod_lt _ h0
      have hn : ((y : Int) != 0) = true := by rw [bne_iff_ne]; omega
      go_wp2
      go_quiet (fail)
      go_wp2
      go_roundw
      case rel => exact ⟨y, x % y, hy, by omega, rfl, rfl, (gcd_step x y).trans hg.out, hq.drewN _⟩
      case measure => simp only [intOf]; omega
    · have h2 : y = 0 := by omega
      subst h2
      go_wp2
      go_ret
      exact ⟨by rw [← hg.out]; simp, hq⟩

/-- What Gcd answers. -/
def gcdI (a b : Int) : Int := if inB a (-1000000) 1000000 && inB b (-1000000) 1000000 then (Nat.gcd a.natAbs b.natAbs : Int) else 0

theorem gcdI_in {a b : Int} (ha : inB a (-1000000) 1000000 = true) (hb : inB b (-1000000) 1000000 = true) : gcdI a b = (Nat.gcd a.natAbs b.natAbs : Int) := by simp [gcdI, ha, hb]
theorem gcdI_out1 {a b : Int} (ha : inB a (-1000000) 1000000 = false) : gcdI a b = 0 := by simp [gcdI, ha]
theorem gcdI_out2 {a b : Int} (hb : inB b (-1000000) 1000000 = false) : gcdI a b = 0 := by simp [gcdI, hb]

theorem max_neg' (a : Int) : max a (-a) = (a.natAbs : Int) := by omega

end Go.Proofs.YtfbjnhifjingeaaGreatDoor
