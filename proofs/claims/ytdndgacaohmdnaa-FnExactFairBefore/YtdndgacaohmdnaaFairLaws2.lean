/-
  The walks of the exact laws of chapter 6 over lists, over contracts of the program's functions at lists within the laws' own bound.
-/
import Derived.Test.YtdndgacaohmdnaaFairLaws
namespace Go.Proofs.Ytdndgacaohmdnaa
open Go.RowKit
attribute [local go_sem] Keeps.refl Keeps.alloc Keeps.drew Keeps.drewN

def SaysFloor : Prop := ∀ (a : Option Addr) (cap : Nat) (ts : List Tsk) (floor : Int) (w : World), ts.length ≤ 1048576 → Ts w a ts → Calls Try.prog 32 #[.slice a ts.length cap, .int .i64 floor] w fun e w' => e = .returned (.int .i64 (fairFloorI ts floor)) ∧ Keeps w w'
def SaysSpread : Prop := ∀ (a : Option Addr) (cap : Nat) (ts : List Tsk) (w : World), ts.length ≤ 1048576 → Ts w a ts → Calls Try.prog 33 #[.slice a ts.length cap] w fun e w' => e = .returned (.int .i64 (fairSpreadI ts)) ∧ Keeps w w'

set_option maxRecDepth 100000 in
set_option maxHeartbeats 1000000 in
theorem exactFloor_walk (H : SaysFloor) (a : Option Addr) (cap : Nat) (ts : List Tsk) (floor : Int) (w : World) (hl : ts.length ≤ maxLen) (hs : Ts w a ts) :
    Calls Try.prog 10 #[.slice a ts.length cap, .int .i64 floor] w fun e w' => e = .returned (.bool true) ∧ Keeps w w' := by
  have HH : Hid SaysFloor := H
  clear H
  by_cases hn : ts.length ≤ 1048576
  · have hl' : ts.length ≤ maxLen := hl
    unfold maxLen at hl
    have hni : (ts.length : Int) ≤ 1048576 := by omega
    have hsz : Hid ((if (ts.length : Int) ≤ 1048576 then (1048576 : Int) - ts.length else -1) = 1048576 - ts.length) := if_pos hni
    have hnn : ((1048576 : Int) - (ts.length : Int) < 0) = False := by simp; omega
    obtain ⟨g, Hg⟩ : ∃ g, Hid (fairFloorI ts floor = g) := ⟨_, rfl⟩
    have n0 : (g != g) = false := by simp
    go_enter Try.func10, Try.ntmps10
    go_wp2_with fail
    refine (szTaskS_any _ _ _ _ _ hl (by decide) (by decide)).mono ?_
    rintro e w1 ⟨rfl, rfl⟩
    rw [hsz.out]
    go_wp2_with fail
    refine (toTaskS_any _ _ ts _ hn hs).mono ?_
    rintro e w1 ⟨b1, rfl, hs1, _, _, k1⟩
    go_wp2_with fail
    refine (specFairFloor_any _ _ ts _ _ hl' hs1).mono ?_
    rintro e w2 ⟨rfl, k2⟩
    rw [Hg.out]
    go_wp2_with fail
    refine (toTaskS_any _ _ ts _ hn (hs.keeps (k1.trans k2))).mono ?_
    rintro e w3 ⟨b3, rfl, hs3, _, _, k3⟩
    go_wp2_with fail
    refine (HH.out _ _ ts _ _ hn hs3).mono ?_
    rintro e w4 ⟨rfl, k4⟩
    rw [Hg.out]
    go_wp2_with fail
    refine (toTaskS_any _ _ ts _ hn (hs.keeps ((k1.trans k2).trans (k3.trans k4)))).mono ?_
    rintro e w5 ⟨b5, rfl, hs5, _, _, k5⟩
    go_wp2_with fail
    refine (eqTaskS_same _ _ _ _ ts _ hl' (hs3.keeps (k4.trans k5)) hs5).mono ?_
    rintro e w6 ⟨rfl, k6⟩
    go_wp2
    go_ret
    exact ⟨rfl, (((((k1.trans k2).trans k3).trans k4).trans k5).trans k6)⟩
  · unfold maxLen at hl
    have hsz : Hid ((if (ts.length : Int) ≤ 1048576 then (1048576 : Int) - ts.length else -1) = -1) := if_neg (by omega)
    go_enter Try.func10, Try.ntmps10
    go_wp2_with (go_at_call 41; refine (szTaskS_any _ _ _ _ _ hl (by decide) (by decide)).mono ?_; rintro e w1 ⟨rfl, rfl⟩; rw [hsz.out])
    go_ret
    exact ⟨rfl, Keeps.refl _⟩


set_option maxRecDepth 100000 in
set_option maxHeartbeats 1000000 in
theorem exactSpread_walk (H : SaysSpread) (a : Option Addr) (cap : Nat) (ts : List Tsk) (w : World) (hl : ts.length ≤ maxLen) (hs : Ts w a ts) :
    Calls Try.prog 12 #[.slice a ts.length cap] w fun e w' => e = .returned (.bool true) ∧ Keeps w w' := by
  have HH : Hid SaysSpread := H
  clear H
  by_cases hn : ts.length ≤ 1048576
  · have hl' : ts.length ≤ maxLen := hl
    unfold maxLen at hl
    have hni : (ts.length : Int) ≤ 1048576 := by omega
    have hsz : Hid ((if (ts.length : Int) ≤ 1048576 then (1048576 : Int) - ts.length else -1) = 1048576 - ts.length) := if_pos hni
    have hnn : ((1048576 : Int) - (ts.length : Int) < 0) = False := by simp; omega
    obtain ⟨g, Hg⟩ : ∃ g, Hid (fairSpreadI ts = g) := ⟨_, rfl⟩
    have n0 : (g != g) = false := by simp
    go_enter Try.func12, Try.ntmps12
    go_wp2_with fail
    refine (szTaskS_any _ _ _ _ _ hl (by decide) (by decide)).mono ?_
    rintro e w1 ⟨rfl, rfl⟩
    rw [hsz.out]
    go_wp2_with fail
    refine (toTaskS_any _ _ ts _ hn hs).mono ?_
    rintro e w1 ⟨b1, rfl, hs1, _, _, k1⟩
    go_wp2_with fail
    refine (specFairSpread_any _ _ ts _ hl' hs1).mono ?_
    rintro e w2 ⟨rfl, k2⟩
    rw [Hg.out]
    go_wp2_with fail
    refine (toTaskS_any _ _ ts _ hn (hs.keeps (k1.trans k2))).mono ?_
    rintro e w3 ⟨b3, rfl, hs3, _, _, k3⟩
    go_wp2_with fail
    refine (HH.out _ _ ts _ hn hs3).mono ?_
    rintro e w4 ⟨rfl, k4⟩
    rw [Hg.out]
    go_wp2_with fail
    refine (toTaskS_any _ _ ts _ hn (hs.keeps ((k1.trans k2).trans (k3.trans k4)))).mono ?_
    rintro e w5 ⟨b5, rfl, hs5, _, _, k5⟩
    go_wp2_with fail
    refine (eqTaskS_same _ _ _ _ ts _ hl' (hs3.keeps (k4.trans k5)) hs5).mono ?_
    rintro e w6 ⟨rfl, k6⟩
    go_wp2
    go_ret
    exact ⟨rfl, (((((k1.trans k2).trans k3).trans k4).trans k5).trans k6)⟩
  · unfold maxLen at hl
    have hsz : Hid ((if (ts.length : Int) ≤ 1048576 then (1048576 : Int) - ts.length else -1) = -1) := if_neg (by omega)
    go_enter Try.func12, Try.ntmps12
    go_wp2_with (go_at_call 41; refine (szTaskS_any _ _ _ _ _ hl (by decide) (by decide)).mono ?_; rintro e w1 ⟨rfl, rfl⟩; rw [hsz.out])
    go_ret
    exact ⟨rfl, Keeps.refl _⟩
end Go.Proofs.Ytdndgacaohmdnaa
