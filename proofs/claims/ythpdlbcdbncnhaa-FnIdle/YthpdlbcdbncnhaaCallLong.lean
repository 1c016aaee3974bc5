/-
  How long a drawn row is.
-/
import Derived.Test.YthpdlbcdbncnhaaGBase1
namespace Go.Proofs.Ythpdlbcdbncnhaa
open Go.RowKit

set_option maxRecDepth 100000 in
set_option maxHeartbeats 1000000 in
theorem l1Long_any (a : Option Addr) (n cap : Nat) (few most : Int) (w : World) (hn : n ≤ 1048576) (h0 : 0 ≤ few) (h1 : few ≤ most) (h2 : most ≤ 255) :
    Calls Try.prog 27 #[.slice a n cap, .int .i64 few, .int .i64 most] w fun e w' => ∃ z : Int, e = .returned (.int .i64 z) ∧ 0 ≤ z ∧ z ≤ most ∧ w' = w := by
  have hq : (n : Int).tdiv 4 = (n : Int) / 4 := Int.tdiv_eq_ediv_of_nonneg (by omega)
  obtain ⟨d, Hd⟩ : ∃ d, Hid ((n : Int).tdiv 4 = d) := ⟨_, rfl⟩
  have hd0 : 0 ≤ d := by rw [← Hd.out, hq]; omega
  have hd1 : d ≤ 1048576 := by rw [← Hd.out, hq]; omega
  have hd : (n : Int).tdiv 4 = d := Hd.out
  have hw : IntKind.i64.wrap (few + d) = few + d := Go.IntWalk.i64_in _ (by omega)
  clear hq Hd
  by_cases hm : most < few + d
  · go_enter Try.func27, Try.ntmps27
    go_wp2
    go_ret
    exact ⟨most, rfl, by omega, by omega, rfl⟩
  · go_enter Try.func27, Try.ntmps27
    go_wp2
    go_ret
    exact ⟨few + d, rfl, by omega, by omega, rfl⟩
end Go.Proofs.Ythpdlbcdbncnhaa
