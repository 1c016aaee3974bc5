/-
  The walks of the exact laws of chapter 7, over contracts of the program's functions.
-/
import Derived.Test.YtglemedcnapneaaLockFree
import Derived.Test.YtglemedcnapneaaLockMark
namespace Go.Proofs.Ytglemedcnapneaa
open Go.RowKit
variable {p : Bool}
attribute [local go_sem] Keeps.refl Keeps.alloc Keeps.drew Keeps.drewN

/-- What the program's functions are held to. -/
def SaysLocksOk : Prop := ∀ (a : Option Addr) (cap : Nat) (ls : List Lk) (w : World), sizeN ls ≤ 2097152 → Plain w a ls.length cap → Lks true w a ls → Calls Try.prog 16 #[.slice a ls.length cap] w fun e w' => e = .returned (.bool (locksB ls)) ∧ Keeps w w'
def SaysWaitAt : Prop := ∀ (a : Option Addr) (cap : Nat) (ls : List Lk) (no : Int) (w : World), sizeN ls ≤ 2097152 → Plain w a ls.length cap → Lks true w a ls → Calls Try.prog 19 #[.slice a ls.length cap, .int .i64 no] w fun e w' => e = .returned (.int .i64 (waitAt ls no)) ∧ Keeps w w'
def SaysOwnsAny : Prop := ∀ (a : Option Addr) (cap : Nat) (ls : List Lk) (no : Int) (w : World), sizeN ls ≤ 2097152 → Plain w a ls.length cap → Lks true w a ls → Calls Try.prog 27 #[.slice a ls.length cap, .int .i64 no] w fun e w' => e = .returned (.bool (ownsB ls no)) ∧ Keeps w w'
def SaysChainOf : Prop := ∀ (a : Option Addr) (cap : Nat) (ls : List Lk) (no : Int) (w : World), sizeN ls ≤ 2097152 → Plain w a ls.length cap → Lks true w a ls → Calls Try.prog 21 #[.slice a ls.length cap, .int .i64 no] w fun e w' => ∃ v, e = .returned v ∧ OwnN w' w.heap.size v (chainL ls no) ∧ Keeps w w'
def SaysLockAsk : Prop := ∀ (a : Option Addr) (cap : Nat) (ls : List Lk) (i no : Int) (w : World), sizeN ls ≤ 2097152 → Plain w a ls.length cap → Lks true w a ls → Calls Try.prog 29 #[.slice a ls.length cap, .int .i64 i, .int .i64 no] w fun e w' => ∃ v vs, e = .returned (.tuple #[v, .int .i64 (askN ls i no)]) ∧ Mine w' w.heap.size w'.heap.size v vs (askL ls i no) ∧ Keeps w w'
def SaysLockFree : Prop := ∀ (a : Option Addr) (cap : Nat) (ls : List Lk) (i no next : Int) (w : World), sizeN ls ≤ 2097152 → Plain w a ls.length cap → Lks true w a ls → Calls Try.prog 32 #[.slice a ls.length cap, .int .i64 i, .int .i64 no, .int .i64 next] w fun e w' => ∃ v vs, e = .returned (.tuple #[v, .bool (freeB ls i no next)]) ∧ Mine w' w.heap.size w'.heap.size v vs (freeL ls i no next) ∧ Keeps w w'

set_option maxRecDepth 100000 in
theorem toLockS_all (a : Option Addr) (cap : Nat) (ls : List Lk) (w : World) (hl : sizeN ls ≤ 1048576) (hs : Lks p w a ls) :
    Calls Try.prog 15 #[.slice a ls.length cap] w fun e w' => ∃ b vs, e = .returned (.slice (some ⟨b, 0, none⟩) ls.length ls.length) ∧ Mine w' w.heap.size w'.heap.size (.slice (some ⟨b, 0, none⟩) ls.length ls.length) vs ls ∧ Lks true w' (some ⟨b, 0, none⟩) ls ∧ Plain w' (some ⟨b, 0, none⟩) ls.length ls.length ∧ Keeps w w' := by
  refine (toLockS_any a cap ls w hl hs).mono ?_
  rintro e w' ⟨b, vs, rfl, M, k⟩
  obtain ⟨a1, c1, e1, L1, P1, -⟩ := M.args
  simp only [Value.slice.injEq] at e1
  obtain ⟨rfl, -, rfl⟩ := e1
  exact ⟨b, vs, rfl, M, L1, P1, k⟩
theorem szAll_ok {ls : List Lk} (h : sizeN ls ≤ 1048576) : ∃ q : Int, szAll ls = q ∧ 0 ≤ q := ⟨_, rfl, by unfold szAll; rw [if_pos h]; omega⟩
theorem szAll_bad {ls : List Lk} (h : ¬ sizeN ls ≤ 1048576) : szAll ls = -1 := by unfold szAll; rw [if_neg h]

set_option maxRecDepth 100000 in
set_option maxHeartbeats 1000000 in
theorem exactLocksOk_walk (H : SaysLocksOk) (a : Option Addr) (cap : Nat) (ls : List Lk) (w : World) (hl : ls.length ≤ maxLen) (hs : Lks p w a ls) :
    Calls Try.prog 3 #[.slice a ls.length cap] w fun e w' => e = .returned (.bool true) ∧ Keeps w w' := by
  have HH : Hid SaysLocksOk := H
  have HS : Hid (Lks p w a ls) := hs
  have Hl : Hid (ls.length ≤ maxLen) := hl
  clear H hs hl
  by_cases hn : sizeN ls ≤ 1048576
  · obtain ⟨q, Hq, hq⟩ := szAll_ok hn
    have Hq' : Hid (szAll ls = q) := Hq
    have hq2 : decide (q < 0) = false := by simp; omega
    have HN : Hid (sizeN ls ≤ 1048576) := hn
    have HN2 : Hid (sizeN ls ≤ 2097152) := Nat.le_trans hn (by decide)
    clear Hq hn
    obtain ⟨g, Hg⟩ : ∃ g, Hid (locksB ls = g) := ⟨_, rfl⟩
    have n0 : (g != g) = false := by simp
    go_enter Try.func3, Try.ntmps3
    go_wp2_with fail
    refine (szLockS_any _ _ ls _ Hl.out HS.out).mono ?_
    rintro e w0 ⟨rfl, k0⟩
    rw [Hq'.out]
    go_wp2_with fail
    refine (toLockS_all _ _ ls _ HN.out (HS.out.keeps k0)).mono ?_
    rintro e w1 ⟨b1, vs1, rfl, -, L1, -, k1⟩
    have K1 := k0.trans k1
    go_wp2_with fail
    refine (specLocksOk_any _ _ ls _ HN2.out L1).mono ?_
    rintro e w2 ⟨rfl, k2⟩
    rw [Hg.out]
    have K2 := K1.trans k2
    go_wp2_with fail
    refine (toLockS_all _ _ ls _ HN.out (HS.out.keeps K2)).mono ?_
    rintro e w3 ⟨b3, vs3, rfl, -, L3, P3, k3⟩
    go_wp2_with fail
    refine (HH.out _ _ ls _ HN2.out P3 L3).mono ?_
    rintro e w4 ⟨rfl, k4⟩
    rw [Hg.out]
    have K4 := K2.trans (k3.trans k4)
    go_wp2_with fail
    refine (toLockS_all _ _ ls _ HN.out (HS.out.keeps K4)).mono ?_
    rintro e w5 ⟨b5, vs5, rfl, -, L5, -, k5⟩
    go_wp2_with fail
    refine (eqLockS_same _ _ _ _ ls _ Hl.out (L3.keeps (k4.trans k5)) L5).mono ?_
    rintro e w6 ⟨rfl, k6⟩
    go_wp2
    go_ret
    exact ⟨rfl, K4.trans (k5.trans k6)⟩
  · have Hq : Hid (szAll ls = -1) := szAll_bad hn
    go_enter Try.func3, Try.ntmps3
    go_wp2_with (go_at_call 13; refine (szLockS_any _ _ ls _ Hl.out HS.out).mono ?_; rintro e w0 ⟨rfl, k0⟩; rw [Hq.out])
    go_ret
    exact ⟨rfl, k0⟩

set_option maxRecDepth 100000 in
set_option maxHeartbeats 1000000 in
theorem exactWaitAt_walk (H : SaysWaitAt) (a : Option Addr) (cap : Nat) (ls : List Lk) (no : Int) (w : World) (hl : ls.length ≤ maxLen) (hs : Lks p w a ls) :
    Calls Try.prog 4 #[.slice a ls.length cap, .int .i64 no] w fun e w' => e = .returned (.bool true) ∧ Keeps w w' := by
  have HH : Hid SaysWaitAt := H
  have HS : Hid (Lks p w a ls) := hs
  have Hl : Hid (ls.length ≤ maxLen) := hl
  clear H hs hl
  by_cases hn : sizeN ls ≤ 1048576
  · obtain ⟨q, Hq, hq⟩ := szAll_ok hn
    have Hq' : Hid (szAll ls = q) := Hq
    have hq2 : decide (q < 0) = false := by simp; omega
    have HN : Hid (sizeN ls ≤ 1048576) := hn
    have HN2 : Hid (sizeN ls ≤ 2097152) := Nat.le_trans hn (by decide)
    clear Hq hn
    obtain ⟨g, Hg⟩ : ∃ g, Hid (waitAt ls no = g) := ⟨_, rfl⟩
    have n0 : (g != g) = false := by simp
    go_enter Try.func4, Try.ntmps4
    go_wp2_with fail
    refine (szLockS_any _ _ ls _ Hl.out HS.out).mono ?_
    rintro e w0 ⟨rfl, k0⟩
    rw [Hq'.out]
    go_wp2_with fail
    refine (toLockS_all _ _ ls _ HN.out (HS.out.keeps k0)).mono ?_
    rintro e w1 ⟨b1, vs1, rfl, -, L1, -, k1⟩
    have K1 := k0.trans k1
    go_wp2_with fail
    refine (specWaitAt_any _ _ ls no _ Hl.out L1).mono ?_
    rintro e w2 ⟨rfl, k2⟩
    rw [Hg.out]
    have K2 := K1.trans k2
    go_wp2_with fail
    refine (toLockS_all _ _ ls _ HN.out (HS.out.keeps K2)).mono ?_
    rintro e w3 ⟨b3, vs3, rfl, -, L3, P3, k3⟩
    go_wp2_with fail
    refine (HH.out _ _ ls no _ HN2.out P3 L3).mono ?_
    rintro e w4 ⟨rfl, k4⟩
    rw [Hg.out]
    have K4 := K2.trans (k3.trans k4)
    go_wp2_with fail
    refine (toLockS_all _ _ ls _ HN.out (HS.out.keeps K4)).mono ?_
    rintro e w5 ⟨b5, vs5, rfl, -, L5, -, k5⟩
    go_wp2_with fail
    refine (eqLockS_same _ _ _ _ ls _ Hl.out (L3.keeps (k4.trans k5)) L5).mono ?_
    rintro e w6 ⟨rfl, k6⟩
    go_wp2
    go_ret
    exact ⟨rfl, K4.trans (k5.trans k6)⟩
  · have Hq : Hid (szAll ls = -1) := szAll_bad hn
    go_enter Try.func4, Try.ntmps4
    go_wp2_with (go_at_call 13; refine (szLockS_any _ _ ls _ Hl.out HS.out).mono ?_; rintro e w0 ⟨rfl, k0⟩; rw [Hq.out])
    go_ret
    exact ⟨rfl, k0⟩

set_option maxRecDepth 100000 in
set_option maxHeartbeats 1000000 in
theorem exactOwnsAny_walk (H : SaysOwnsAny) (a : Option Addr) (cap : Nat) (ls : List Lk) (no : Int) (w : World) (hl : ls.length ≤ maxLen) (hs : Lks p w a ls) :
    Calls Try.prog 6 #[.slice a ls.length cap, .int .i64 no] w fun e w' => e = .returned (.bool true) ∧ Keeps w w' := by
  have HH : Hid SaysOwnsAny := H
  have HS : Hid (Lks p w a ls) := hs
  have Hl : Hid (ls.length ≤ maxLen) := hl
  clear H hs hl
  by_cases hn : sizeN ls ≤ 1048576
  · obtain ⟨q, Hq, hq⟩ := szAll_ok hn
    have Hq' : Hid (szAll ls = q) := Hq
    have hq2 : decide (q < 0) = false := by simp; omega
    have HN : Hid (sizeN ls ≤ 1048576) := hn
    have HN2 : Hid (sizeN ls ≤ 2097152) := Nat.le_trans hn (by decide)
    clear Hq hn
    obtain ⟨g, Hg⟩ : ∃ g, Hid (ownsB ls no = g) := ⟨_, rfl⟩
    have n0 : (g != g) = false := by simp
    go_enter Try.func6, Try.ntmps6
    go_wp2_with fail
    refine (szLockS_any _ _ ls _ Hl.out HS.out).mono ?_
    rintro e w0 ⟨rfl, k0⟩
    rw [Hq'.out]
    go_wp2_with fail
    refine (toLockS_all _ _ ls _ HN.out (HS.out.keeps k0)).mono ?_
    rintro e w1 ⟨b1, vs1, rfl, -, L1, -, k1⟩
    have K1 := k0.trans k1
    go_wp2_with fail
    refine (specOwnsAny_any _ _ ls no _ Hl.out L1).mono ?_
    rintro e w2 ⟨rfl, k2⟩
    rw [Hg.out]
    have K2 := K1.trans k2
    go_wp2_with fail
    refine (toLockS_all _ _ ls _ HN.out (HS.out.keeps K2)).mono ?_
    rintro e w3 ⟨b3, vs3, rfl, -, L3, P3, k3⟩
    go_wp2_with fail
    refine (HH.out _ _ ls no _ HN2.out P3 L3).mono ?_
    rintro e w4 ⟨rfl, k4⟩
    rw [Hg.out]
    have K4 := K2.trans (k3.trans k4)
    go_wp2_with fail
    refine (toLockS_all _ _ ls _ HN.out (HS.out.keeps K4)).mono ?_
    rintro e w5 ⟨b5, vs5, rfl, -, L5, -, k5⟩
    go_wp2_with fail
    refine (eqLockS_same _ _ _ _ ls _ Hl.out (L3.keeps (k4.trans k5)) L5).mono ?_
    rintro e w6 ⟨rfl, k6⟩
    go_wp2
    go_ret
    exact ⟨rfl, K4.trans (k5.trans k6)⟩
  · have Hq : Hid (szAll ls = -1) := szAll_bad hn
    go_enter Try.func6, Try.ntmps6
    go_wp2_with (go_at_call 13; refine (szLockS_any _ _ ls _ Hl.out HS.out).mono ?_; rintro e w0 ⟨rfl, k0⟩; rw [Hq.out])
    go_ret
    exact ⟨rfl, k0⟩
end Go.Proofs.Ytglemedcnapneaa
