/-
  The walks of the laws over SumOf and Fits: for every list of parts.
-/
import Derived.Test.YtdfhoflmjcdkkaaSumSpec
import Derived.Test.YtdfhoflmjcdkkaaShSlice
namespace Go.Proofs.Ytdfhoflmjcdkkaa
open Go.RowKit Plain
attribute [local go_sem] Keeps.refl Keeps.alloc Keeps.drew Keeps.drewN

set_option maxHeartbeats 1000000 in
theorem exactSumOf_walk (a : Option Addr) (cap : Nat) (xs : List (Int × Int)) (w : World) (hl : xs.length ≤ maxLen) (hs : Sh w a xs) :
    Calls Try.prog 9 #[.slice a xs.length cap] w fun e w' => e = .returned (.bool true) ∧ Keeps w w' := by
  by_cases hn : xs.length ≤ 1048576
  · have hl' : xs.length ≤ maxLen := hl
    unfold maxLen at hl
    have hni : (xs.length : Int) ≤ 1048576 := by omega
    have hsz : Hid ((if (xs.length : Int) ≤ 1048576 then (1048576 : Int) - xs.length else -1) = 1048576 - xs.length) := if_pos hni
    have hnn : ((1048576 : Int) - (xs.length : Int) < 0) = False := by simp; omega
    generalize hg : sumOfV xs = g
    obtain ⟨g0, g1, g2⟩ := g
    have Hg : Hid (sumOfV xs = (g0, g1, g2)) := hg
    clear hg
    have n0 : (g0 != g0) = false := by simp
    have n1 : (g1 != g1) = false := by simp
    have n2 : (g2 != g2) = false := by simp
    go_enter Try.func9, Try.ntmps9
    go_wp2_with fail
    refine (szShareS_any _ _ _ _ _ hl (by decide) (by decide)).mono ?_
    rintro e w1 ⟨rfl, rfl⟩
    rw [hsz.out]
    go_wp2_with fail
    refine (toShareS_any _ _ xs _ hn hs).mono ?_
    rintro e w1 ⟨b1, rfl, hs1, _, k1⟩
    go_wp2_with fail
    refine (specSumOf_any _ _ xs _ hl' hs1).mono ?_
    rintro e w2 ⟨rfl, k2⟩
    rw [Hg.out]
    go_wp2_with fail
    refine (toShareS_any _ _ xs _ hn (hs.keeps (k1.trans k2))).mono ?_
    rintro e w3 ⟨b3, rfl, hs3, _, k3⟩
    go_wp2_with fail
    refine (implSumOf_any _ _ xs _ hl' hs3).mono ?_
    rintro e w4 ⟨rfl, k4⟩
    rw [Hg.out]
    go_wp2_with fail
    refine (toShareS_any _ _ xs _ hn (hs.keeps ((k1.trans k2).trans (k3.trans k4)))).mono ?_
    rintro e w5 ⟨b5, rfl, hs5, _, k5⟩
    go_wp2_with fail
    refine (eqShareS_same _ _ _ _ xs _ hl' (hs3.keeps (k4.trans k5)) hs5).mono ?_
    rintro e w6 ⟨rfl, k6⟩
    go_wp2
    go_ret
    exact ⟨rfl, (((((k1.trans k2).trans k3).trans k4).trans k5).trans k6)⟩
  · unfold maxLen at hl
    have hsz : Hid ((if (xs.length : Int) ≤ 1048576 then (1048576 : Int) - xs.length else -1) = -1) := if_neg (by omega)
    go_enter Try.func9, Try.ntmps9
    go_wp2_with (go_at_call 27; refine (szShareS_any _ _ _ _ _ hl (by decide) (by decide)).mono ?_; rintro e w1 ⟨rfl, rfl⟩; rw [hsz.out])
    go_ret
    exact ⟨rfl, Keeps.refl _⟩

set_option maxHeartbeats 1000000 in
theorem exactFits_walk (a : Option Addr) (cap : Nat) (xs : List (Int × Int)) (w : World) (hl : xs.length ≤ maxLen) (hs : Sh w a xs) :
    Calls Try.prog 10 #[.slice a xs.length cap] w fun e w' => e = .returned (.bool true) ∧ Keeps w w' := by
  by_cases hn : xs.length ≤ 1048576
  · have hl' : xs.length ≤ maxLen := hl
    unfold maxLen at hl
    have hni : (xs.length : Int) ≤ 1048576 := by omega
    have hsz : Hid ((if (xs.length : Int) ≤ 1048576 then (1048576 : Int) - xs.length else -1) = 1048576 - xs.length) := if_pos hni
    have hnn : ((1048576 : Int) - (xs.length : Int) < 0) = False := by simp; omega
    generalize hg : (canB xs && decide ((sumI xs).1 ≤ (sumI xs).2)) = g
    have Hg : Hid ((canB xs && decide ((sumI xs).1 ≤ (sumI xs).2)) = g) := hg
    clear hg
    have n0 : (g != g) = false := by simp
    go_enter Try.func10, Try.ntmps10
    go_wp2_with fail
    refine (szShareS_any _ _ _ _ _ hl (by decide) (by decide)).mono ?_
    rintro e w1 ⟨rfl, rfl⟩
    rw [hsz.out]
    go_wp2_with fail
    refine (toShareS_any _ _ xs _ hn hs).mono ?_
    rintro e w1 ⟨b1, rfl, hs1, _, k1⟩
    go_wp2_with fail
    refine (specFits_any _ _ xs _ hl' hs1).mono ?_
    rintro e w2 ⟨rfl, k2⟩
    rw [Hg.out]
    go_wp2_with fail
    refine (toShareS_any _ _ xs _ hn (hs.keeps (k1.trans k2))).mono ?_
    rintro e w3 ⟨b3, rfl, hs3, _, k3⟩
    go_wp2_with fail
    refine (implFits_any _ _ xs _ hl' hs3).mono ?_
    rintro e w4 ⟨rfl, k4⟩
    rw [Hg.out]
    go_wp2_with fail
    refine (toShareS_any _ _ xs _ hn (hs.keeps ((k1.trans k2).trans (k3.trans k4)))).mono ?_
    rintro e w5 ⟨b5, rfl, hs5, _, k5⟩
    go_wp2_with fail
    refine (eqShareS_same _ _ _ _ xs _ hl' (hs3.keeps (k4.trans k5)) hs5).mono ?_
    rintro e w6 ⟨rfl, k6⟩
    go_wp2
    go_ret
    exact ⟨rfl, (((((k1.trans k2).trans k3).trans k4).trans k5).trans k6)⟩
  · unfold maxLen at hl
    have hsz : Hid ((if (xs.length : Int) ≤ 1048576 then (1048576 : Int) - xs.length else -1) = -1) := if_neg (by omega)
    go_enter Try.func10, Try.ntmps10
    go_wp2_with (go_at_call 27; refine (szShareS_any _ _ _ _ _ hl (by decide) (by decide)).mono ?_; rintro e w1 ⟨rfl, rfl⟩; rw [hsz.out])
    go_ret
    exact ⟨rfl, Keeps.refl _⟩

end Go.Proofs.Ytdfhoflmjcdkkaa
