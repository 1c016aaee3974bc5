/-
  The walks of the exact laws over ChainOf, LockAsk and LockFree, over contracts of the program's functions.
-/
import Derived.Test.YtglemedcnapneaaLockLaws
import Derived.Test.YtglemedcnapneaaLockOn
namespace Go.Proofs.Ytglemedcnapneaa
open Go.RowKit
variable {p : Bool}
attribute [local go_sem] Keeps.refl Keeps.alloc Keeps.drew Keeps.drewN

theorem sumW_set : ∀ {ls : List Lk} {j : Nat} {l : Lk} (m : Lk), ls[j]? = some l → sumW (ls.set j m) + l.waits.length = sumW ls + m.waits.length
  | [], j, l, m, h => by simp at h
  | x :: r, 0, l, m, h => by
    simp at h
    subst h
    simp only [List.set_cons_zero, sumW]
    omega
  | x :: r, j + 1, l, m, h => by
    have := sumW_set (ls := r) (j := j) m (by simpa using h)
    simp only [List.set_cons_succ, sumW]
    omega
theorem sizeN_set {ls : List Lk} {j : Nat} {l : Lk} (m : Lk) (h : ls[j]? = some l) : sizeN (ls.set j m) + l.waits.length = sizeN ls + m.waits.length := by
  have := sumW_set m h
  unfold sizeN
  rw [List.length_set]
  omega
theorem sizeN_modify {ls : List Lk} (f : Lk → Lk) (j : Nat) (hf : ∀ l, (f l).waits.length ≤ l.waits.length + 1) : sizeN (ls.modify j f) ≤ sizeN ls + 1 := by
  cases h : ls[j]? with
  | none =>
    have hl : ls.length ≤ j := by
      rcases Nat.lt_or_ge j ls.length with h1 | h1
      · rw [List.getElem?_eq_getElem h1] at h; cases h
      · exact h1
    have : ls.modify j f = ls := by
      apply List.ext_getElem?
      intro i
      rw [List.getElem?_modify]
      by_cases e : j = i
      · subst e; rw [h]; rfl
      · simp [e]
    rw [this]; omega
  | some l =>
    rw [modify_set h]
    have := sizeN_set (f l) h
    have := hf l
    omega
theorem askL_size (ls : List Lk) (i no : Int) : sizeN (askL ls i no) ≤ sizeN ls + 1 := by
  unfold askL
  split
  · simp [sizeN, sumW]
  · split
    · exact sizeN_modify _ _ fun l => by simp [setOwner]
    · split
      · exact sizeN_modify _ _ fun l => by simp [addWait]
      · omega
theorem freeL_size (ls : List Lk) (i no next : Int) : sizeN (freeL ls i no next) ≤ sizeN ls + 1 := by
  unfold freeL
  split
  · simp [sizeN, sumW]
  · split
    · exact sizeN_modify _ _ fun l => by have := lessL_le l.waits next; simp [freed]; omega
    · omega
theorem chainL_size (ls : List Lk) (no : Int) : (chainL ls no).length ≤ ls.length + 2 := by
  unfold chainL
  split
  · exact chainN_len ls _ no
  · simp

set_option maxRecDepth 100000 in
set_option maxHeartbeats 4000000 in
theorem exactChainOf_walk (H : SaysChainOf) (a : Option Addr) (cap : Nat) (ls : List Lk) (no : Int) (w : World) (hl : ls.length ≤ maxLen) (hs : Lks p w a ls) :
    Calls Try.prog 5 #[.slice a ls.length cap, .int .i64 no] w fun e w' => e = .returned (.bool true) ∧ Keeps w w' := by
  have HH : Hid SaysChainOf := H
  have HS : Hid (Lks p w a ls) := hs
  have Hl : Hid (ls.length ≤ maxLen) := hl
  clear H hs hl
  by_cases hn : sizeN ls ≤ 1048576
  · obtain ⟨q, Hq, hq⟩ := szAll_ok hn
    have Hq' : Hid (szAll ls = q) := Hq
    have hq2 : decide (q < 0) = false := by simp; omega
    have HN : Hid (sizeN ls ≤ 1048576) := hn
    have HN2 : Hid (sizeN ls ≤ 2097152) := Nat.le_trans hn (by decide)
    clear Hq hn
    obtain ⟨C, HC⟩ : ∃ C, Hid (chainL ls no = C) := ⟨_, rfl⟩
    have hCl : C.length ≤ 1048578 := by rw [← HC.out]; have := chainL_size ls no; have := len_le_size ls; have := HN.out; omega
    have hCm : C.length ≤ maxLen := by unfold maxLen; omega
    go_enter Try.func5, Try.ntmps5
    go_wp2_with fail
    refine (szLockS_any _ _ ls _ Hl.out HS.out).mono ?_
    rintro e w0 ⟨rfl, k0⟩
    rw [Hq'.out]
    go_wp2_with fail
    refine (toLockS_all _ _ ls _ HN.out (HS.out.keeps k0)).mono ?_
    rintro e w1 ⟨b1, vs1, rfl, -, L1, -, k1⟩
    have K1 := k0.trans k1
    go_wp2_with fail
    refine (specChainOf_any _ _ ls no _ HN2.out L1).mono ?_
    rintro e w2 ⟨v2, rfl, o2, k2⟩
    rw [HC.out] at o2
    obtain ⟨a2, c2, rfl, N2, -, -⟩ := OwnN.ns o2
    clear o2
    have K2 := K1.trans k2
    go_wp2_with fail
    refine (toLockS_all _ _ ls _ HN.out (HS.out.keeps K2)).mono ?_
    rintro e w4 ⟨b4, vs4, rfl, M4, L4, P4, k4⟩
    have K4 := K2.trans k4
    go_wp2_with fail
    refine (HH.out _ _ ls no _ HN2.out P4 L4).mono ?_
    rintro e w6 ⟨v6, rfl, o6, k6⟩
    rw [HC.out] at o6
    obtain ⟨a6, c6, rfl, N6, -, -⟩ := OwnN.ns o6
    have O6 : Hid (OwnN w6 w4.heap.size (.slice a6 C.length c6) C) := o6
    clear o6
    go_wp2_with fail
    refine (eqIntS_same a6 a2 c6 c2 C _ hCm N6 (N2.keeps (k4.trans k6))).mono ?_
    rintro e w7 ⟨rfl, k7⟩
    have K7 := K4.trans (k6.trans k7)
    go_wp2_with fail
    refine (toLockS_all _ _ ls _ HN.out (HS.out.keeps K7)).mono ?_
    rintro e w8 ⟨b8, vs8, rfl, -, L8, -, k8⟩
    have k48 : Keeps w4 w8 := k6.trans (k7.trans k8)
    go_wp2_with fail
    refine (eqLockS_same _ _ _ _ ls _ Hl.out (L4.keeps k48) L8).mono ?_
    rintro e w9 ⟨rfl, k9⟩
    have k49 : Keeps w4 w9 := k48.trans k9
    go_wp2_with fail
    refine (markLockS_any _ vs4 ls _ _ _ HN2.out (M4.keeps k49)).mono ?_
    rintro e w10 ⟨rfl, -, W10⟩
    have own10 : Hid (OwnN w10 w4.heap.size (.slice a6 C.length c6) C) := by
      refine Own.same (O6.out.keeps (k7.trans (k8.trans k9))) fun b hb => ?_
      have h1 := O6.out.ltb b hb
      exact W10.block b (Nat.lt_of_lt_of_le h1.2 (k7.trans (k8.trans k9)).size) (.inr h1.1)
    have k210 : Keeps w2 w10 := W10.keeps (k4.trans k49) (Nat.le_refl _)
    have K10 : Keeps w w10 := K2.trans k210
    have h410 : Hid (w4.heap.size ≤ w10.heap.size) := Nat.le_trans k49.size W10.size
    have hz1 : decide ((1 : Int) + (sizeN ls : Int) < 0) = false := by simp; omega
    obtain ⟨a10, c10, e10, N10, -, -⟩ := OwnN.ns own10.out
    simp only [Value.slice.injEq] at e10
    obtain ⟨rfl, -, rfl⟩ := e10
    clear O6 W10
    go_wp2_with fail
    refine (eqIntS_same a6 a2 c6 c2 C _ hCm N10 (N2.keeps k210)).mono ?_
    rintro e w11 ⟨rfl, k11⟩
    go_wp2_with fail
    refine (markIntS_own _ w4.heap.size C 1 _ (by omega) (by decide) (by decide) (own10.out.keeps k11)).mono ?_
    rintro e w12 ⟨rfl, o12, g12⟩
    have ob : Hid (∀ b, (Value.slice a6 C.length c6).ownBlock = some b → w4.heap.size ≤ b) := fun b hb => (own10.out.ltb b hb).1
    have K12 : Keeps w w12 := (K10.trans k11).grown g12 (fun b hb => Nat.le_trans K4.size (ob.out b hb))
    have k212 : Keeps w2 w12 := (k210.trans k11).grown g12 (fun b hb => Nat.le_trans k4.size (ob.out b hb))
    obtain ⟨a12, c12, e12, N12, -, -⟩ := OwnN.ns o12
    rw [upFrom_length] at e12
    simp only [Value.slice.injEq] at e12
    obtain ⟨rfl, -, rfl⟩ := e12
    have hz2 : decide ((1 : Int) + (C.length : Int) < 0) = false := by simp; omega
    have hz3 : ((1 : Int) + (C.length : Int) != (1 : Int) + (C.length : Int)) = false := by simp
    clear g12 o12 own10
    go_wp2_with fail
    refine (heldIntS_any a6 c6 C.length 1 _ (by omega) (by decide) (by decide) N12).mono ?_
    rintro e w13 ⟨rfl, k13⟩
    have K13 : Keeps w w13 := K12.trans k13
    go_wp2_with fail
    refine (toLockS_all _ _ ls _ HN.out (HS.out.keeps K13)).mono ?_
    rintro e w14 ⟨b14, vs14, rfl, -, L14, P14, k14⟩
    go_wp2_with fail
    refine (HH.out _ _ ls no _ HN2.out P14 L14).mono ?_
    rintro e w16 ⟨v16, rfl, o16, k16⟩
    rw [HC.out] at o16
    obtain ⟨a16, c16, rfl, N16, -, -⟩ := OwnN.ns o16
    clear o16
    have k1216 : Keeps w12 w16 := k13.trans (k14.trans k16)
    go_wp2_with fail
    refine (eqIntS_same a16 a2 c16 c2 C _ hCm N16 (N2.keeps (k212.trans k1216))).mono ?_
    rintro e w17 ⟨rfl, k17⟩
    go_wp2_with fail
    refine (heldIntS_any a6 c6 C.length 1 _ (by omega) (by decide) (by decide) (N12.keeps (k1216.trans k17))).mono ?_
    rintro e w18 ⟨rfl, k18⟩
    go_wp2
    go_ret
    exact ⟨rfl, K12.trans (k1216.trans (k17.trans k18))⟩
  · have Hq : Hid (szAll ls = -1) := szAll_bad hn
    go_enter Try.func5, Try.ntmps5
    go_wp2_with (go_at_call 13; refine (szLockS_any _ _ ls _ Hl.out HS.out).mono ?_; rintro e w0 ⟨rfl, k0⟩; rw [Hq.out])
    go_ret
    exact ⟨rfl, k0⟩

set_option maxRecDepth 100000 in
set_option maxHeartbeats 4000000 in
theorem exactLockAsk_walk (H : SaysLockAsk) (a : Option Addr) (cap : Nat) (ls : List Lk) (i no : Int) (w : World) (hl : ls.length ≤ maxLen) (hs : Lks p w a ls) :
    Calls Try.prog 7 #[.slice a ls.length cap, .int .i64 i, .int .i64 no] w fun e w' => e = .returned (.bool true) ∧ Keeps w w' := by
  have HH : Hid SaysLockAsk := H
  have HS : Hid (Lks p w a ls) := hs
  have Hl : Hid (ls.length ≤ maxLen) := hl
  clear H hs hl
  by_cases hn : sizeN ls ≤ 1048576
  · obtain ⟨q, Hq, hq⟩ := szAll_ok hn
    have Hq' : Hid (szAll ls = q) := Hq
    have hq2 : decide (q < 0) = false := by simp; omega
    have HN : Hid (sizeN ls ≤ 1048576) := hn
    have HN2 : Hid (sizeN ls ≤ 2097152) := Nat.le_trans hn (by decide)
    clear Hq hn
    obtain ⟨g, Hg⟩ : ∃ g, Hid (askN ls i no = g) := ⟨_, rfl⟩
    obtain ⟨P, HP⟩ : ∃ P, Hid (askL ls i no = P) := ⟨_, rfl⟩
    have n0 : (g != g) = false := by simp
    have hPs : Hid (sizeN P ≤ 1048577) := by show _ ≤ _; rw [← HP.out]; have := askL_size ls i no; have := HN.out; omega
    have hPl : P.length ≤ 1048577 := Nat.le_trans (len_le_size P) hPs.out
    have hPm : P.length ≤ maxLen := by unfold maxLen; omega
    go_enter Try.func7, Try.ntmps7
    go_wp2_with fail
    refine (szLockS_any _ _ ls _ Hl.out HS.out).mono ?_
    rintro e w0 ⟨rfl, k0⟩
    rw [Hq'.out]
    go_wp2_with fail
    refine (toLockS_all _ _ ls _ HN.out (HS.out.keeps k0)).mono ?_
    rintro e w1 ⟨b1, vs1, rfl, -, L1, -, k1⟩
    have K1 := k0.trans k1
    go_wp2_with fail
    refine (specLockAsk_any _ _ ls i no _ HN2.out L1).mono ?_
    rintro e w2 ⟨v2, vs2, rfl, m2, k2⟩
    rw [Hg.out]
    rw [HP.out] at m2
    obtain ⟨a2, c2, rfl, N2, -, -⟩ := m2.args
    clear m2
    have K2 := K1.trans k2
    go_wp2_with fail
    refine (toLockS_all _ _ ls _ HN.out (HS.out.keeps K2)).mono ?_
    rintro e w4 ⟨b4, vs4, rfl, M4, L4, P4, k4⟩
    have K4 := K2.trans k4
    go_wp2_with fail
    refine (HH.out _ _ ls i no _ HN2.out P4 L4).mono ?_
    rintro e w6 ⟨v6, vs6, rfl, m6, k6⟩
    rw [Hg.out]
    rw [HP.out] at m6
    obtain ⟨a6, c6, rfl, N6, -, -⟩ := m6.args
    have M6 : Hid (Mine w6 w4.heap.size w6.heap.size (.slice a6 P.length c6) vs6 P) := m6
    clear m6
    go_wp2_with fail
    refine (eqLockS_same a6 a2 c6 c2 P _ hPm N6 (N2.keeps (k4.trans k6))).mono ?_
    rintro e w7 ⟨rfl, k7⟩
    have K7 := K4.trans (k6.trans k7)
    go_wp2_with fail
    refine (toLockS_all _ _ ls _ HN.out (HS.out.keeps K7)).mono ?_
    rintro e w8 ⟨b8, vs8, rfl, -, L8, -, k8⟩
    have k48 : Keeps w4 w8 := k6.trans (k7.trans k8)
    go_wp2_with fail
    refine (eqLockS_same _ _ _ _ ls _ Hl.out (L4.keeps k48) L8).mono ?_
    rintro e w9 ⟨rfl, k9⟩
    have k49 : Keeps w4 w9 := k48.trans k9
    go_wp2_with fail
    refine (markLockS_any _ vs4 ls _ _ _ HN2.out (M4.keeps k49)).mono ?_
    rintro e w10 ⟨rfl, -, W10⟩
    have M10 : Hid (Mine w10 w4.heap.size w6.heap.size (.slice a6 P.length c6) vs6 P) := W10.mine (M6.out.keeps (k7.trans (k8.trans k9))) (.inr (Nat.le_refl _))
    have k210 : Keeps w2 w10 := W10.keeps (k4.trans k49) (Nat.le_refl _)
    have K10 : Keeps w w10 := K2.trans k210
    have hz1 : decide ((1 : Int) + (sizeN ls : Int) < 0) = false := by simp; omega
    obtain ⟨a10, c10, e10, N10, -, -⟩ := M10.out.args
    simp only [Value.slice.injEq] at e10
    obtain ⟨rfl, -, rfl⟩ := e10
    clear M6 W10
    go_wp2_with fail
    refine (eqLockS_same a6 a2 c6 c2 P _ hPm N10 (N2.keeps k210)).mono ?_
    rintro e w11 ⟨rfl, k11⟩
    go_wp2_with fail
    refine (markLockS_any _ vs6 P _ _ _ (Nat.le_trans hPs.out (by decide)) (M10.out.keeps k11)).mono ?_
    rintro e w12 ⟨rfl, ⟨vs12, m12⟩, W12⟩
    have K12 : Keeps w w12 := W12.keeps (K10.trans k11) K4.size
    have k212 : Keeps w2 w12 := W12.keeps (k210.trans k11) k4.size
    obtain ⟨a12, c12, e12, N12, -, -⟩ := m12.args
    rw [marksL_length] at e12
    simp only [Value.slice.injEq] at e12
    obtain ⟨rfl, -, rfl⟩ := e12
    have hz2 : decide ((1 : Int) + (sizeN P : Int) < 0) = false := by simp; omega
    have hz3 : ((1 : Int) + (sizeN P : Int) != (1 : Int) + (sizeN P : Int)) = false := by simp
    clear W12 m12 M10
    go_wp2_with fail
    refine (heldLockS_any a6 c6 P _ (Nat.le_trans hPs.out (by decide)) N12).mono ?_
    rintro e w13 ⟨rfl, k13⟩
    have K13 : Keeps w w13 := K12.trans k13
    go_wp2_with fail
    refine (toLockS_all _ _ ls _ HN.out (HS.out.keeps K13)).mono ?_
    rintro e w14 ⟨b14, vs14, rfl, -, L14, P14, k14⟩
    go_wp2_with fail
    refine (HH.out _ _ ls i no _ HN2.out P14 L14).mono ?_
    rintro e w16 ⟨v16, vs16, rfl, m16, k16⟩
    rw [Hg.out]
    rw [HP.out] at m16
    obtain ⟨a16, c16, rfl, N16, -, -⟩ := m16.args
    clear m16
    have k1216 : Keeps w12 w16 := k13.trans (k14.trans k16)
    go_wp2_with fail
    refine (eqLockS_same a16 a2 c16 c2 P _ hPm N16 (N2.keeps (k212.trans k1216))).mono ?_
    rintro e w17 ⟨rfl, k17⟩
    go_wp2_with fail
    refine (heldLockS_any a6 c6 P _ (Nat.le_trans hPs.out (by decide)) (N12.keeps (k1216.trans k17))).mono ?_
    rintro e w18 ⟨rfl, k18⟩
    go_wp2
    go_ret
    exact ⟨rfl, K12.trans (k1216.trans (k17.trans k18))⟩
  · have Hq : Hid (szAll ls = -1) := szAll_bad hn
    go_enter Try.func7, Try.ntmps7
    go_wp2_with (go_at_call 13; refine (szLockS_any _ _ ls _ Hl.out HS.out).mono ?_; rintro e w0 ⟨rfl, k0⟩; rw [Hq.out])
    go_ret
    exact ⟨rfl, k0⟩

set_option maxRecDepth 100000 in
set_option maxHeartbeats 4000000 in
theorem exactLockFree_walk (H : SaysLockFree) (a : Option Addr) (cap : Nat) (ls : List Lk) (i no next : Int) (w : World) (hl : ls.length ≤ maxLen) (hs : Lks p w a ls) :
    Calls Try.prog 8 #[.slice a ls.length cap, .int .i64 i, .int .i64 no, .int .i64 next] w fun e w' => e = .returned (.bool true) ∧ Keeps w w' := by
  have HH : Hid SaysLockFree := H
  have HS : Hid (Lks p w a ls) := hs
  have Hl : Hid (ls.length ≤ maxLen) := hl
  clear H hs hl
  by_cases hn : sizeN ls ≤ 1048576
  · obtain ⟨q, Hq, hq⟩ := szAll_ok hn
    have Hq' : Hid (szAll ls = q) := Hq
    have hq2 : decide (q < 0) = false := by simp; omega
    have HN : Hid (sizeN ls ≤ 1048576) := hn
    have HN2 : Hid (sizeN ls ≤ 2097152) := Nat.le_trans hn (by decide)
    clear Hq hn
    obtain ⟨g, Hg⟩ : ∃ g, Hid (freeB ls i no next = g) := ⟨_, rfl⟩
    obtain ⟨P, HP⟩ : ∃ P, Hid (freeL ls i no next = P) := ⟨_, rfl⟩
    have n0 : (g != g) = false := by simp
    have hPs : Hid (sizeN P ≤ 1048577) := by show _ ≤ _; rw [← HP.out]; have := freeL_size ls i no next; have := HN.out; omega
    have hPl : P.length ≤ 1048577 := Nat.le_trans (len_le_size P) hPs.out
    have hPm : P.length ≤ maxLen := by unfold maxLen; omega
    go_enter Try.func8, Try.ntmps8
    go_wp2_with fail
    refine (szLockS_any _ _ ls _ Hl.out HS.out).mono ?_
    rintro e w0 ⟨rfl, k0⟩
    rw [Hq'.out]
    go_wp2_with fail
    refine (toLockS_all _ _ ls _ HN.out (HS.out.keeps k0)).mono ?_
    rintro e w1 ⟨b1, vs1, rfl, -, L1, -, k1⟩
    have K1 := k0.trans k1
    go_wp2_with fail
    refine (specLockFree_any _ _ ls i no next _ HN2.out L1).mono ?_
    rintro e w2 ⟨v2, vs2, rfl, m2, k2⟩
    rw [Hg.out]
    rw [HP.out] at m2
    obtain ⟨a2, c2, rfl, N2, -, -⟩ := m2.args
    clear m2
    have K2 := K1.trans k2
    go_wp2_with fail
    refine (toLockS_all _ _ ls _ HN.out (HS.out.keeps K2)).mono ?_
    rintro e w4 ⟨b4, vs4, rfl, M4, L4, P4, k4⟩
    have K4 := K2.trans k4
    go_wp2_with fail
    refine (HH.out _ _ ls i no next _ HN2.out P4 L4).mono ?_
    rintro e w6 ⟨v6, vs6, rfl, m6, k6⟩
    rw [Hg.out]
    rw [HP.out] at m6
    obtain ⟨a6, c6, rfl, N6, -, -⟩ := m6.args
    have M6 : Hid (Mine w6 w4.heap.size w6.heap.size (.slice a6 P.length c6) vs6 P) := m6
    clear m6
    go_wp2_with fail
    refine (eqLockS_same a6 a2 c6 c2 P _ hPm N6 (N2.keeps (k4.trans k6))).mono ?_
    rintro e w7 ⟨rfl, k7⟩
    have K7 := K4.trans (k6.trans k7)
    go_wp2_with fail
    refine (toLockS_all _ _ ls _ HN.out (HS.out.keeps K7)).mono ?_
    rintro e w8 ⟨b8, vs8, rfl, -, L8, -, k8⟩
    have k48 : Keeps w4 w8 := k6.trans (k7.trans k8)
    go_wp2_with fail
    refine (eqLockS_same _ _ _ _ ls _ Hl.out (L4.keeps k48) L8).mono ?_
    rintro e w9 ⟨rfl, k9⟩
    have k49 : Keeps w4 w9 := k48.trans k9
    go_wp2_with fail
    refine (markLockS_any _ vs4 ls _ _ _ HN2.out (M4.keeps k49)).mono ?_
    rintro e w10 ⟨rfl, -, W10⟩
    have M10 : Hid (Mine w10 w4.heap.size w6.heap.size (.slice a6 P.length c6) vs6 P) := W10.mine (M6.out.keeps (k7.trans (k8.trans k9))) (.inr (Nat.le_refl _))
    have k210 : Keeps w2 w10 := W10.keeps (k4.trans k49) (Nat.le_refl _)
    have K10 : Keeps w w10 := K2.trans k210
    have hz1 : decide ((1 : Int) + (sizeN ls : Int) < 0) = false := by simp; omega
    obtain ⟨a10, c10, e10, N10, -, -⟩ := M10.out.args
    simp only [Value.slice.injEq] at e10
    obtain ⟨rfl, -, rfl⟩ := e10
    clear M6 W10
    go_wp2_with fail
    refine (eqLockS_same a6 a2 c6 c2 P _ hPm N10 (N2.keeps k210)).mono ?_
    rintro e w11 ⟨rfl, k11⟩
    go_wp2_with fail
    refine (markLockS_any _ vs6 P _ _ _ (Nat.le_trans hPs.out (by decide)) (M10.out.keeps k11)).mono ?_
    rintro e w12 ⟨rfl, ⟨vs12, m12⟩, W12⟩
    have K12 : Keeps w w12 := W12.keeps (K10.trans k11) K4.size
    have k212 : Keeps w2 w12 := W12.keeps (k210.trans k11) k4.size
    obtain ⟨a12, c12, e12, N12, -, -⟩ := m12.args
    rw [marksL_length] at e12
    simp only [Value.slice.injEq] at e12
    obtain ⟨rfl, -, rfl⟩ := e12
    have hz2 : decide ((1 : Int) + (sizeN P : Int) < 0) = false := by simp; omega
    have hz3 : ((1 : Int) + (sizeN P : Int) != (1 : Int) + (sizeN P : Int)) = false := by simp
    clear W12 m12 M10
    go_wp2_with fail
    refine (heldLockS_any a6 c6 P _ (Nat.le_trans hPs.out (by decide)) N12).mono ?_
    rintro e w13 ⟨rfl, k13⟩
    have K13 : Keeps w w13 := K12.trans k13
    go_wp2_with fail
    refine (toLockS_all _ _ ls _ HN.out (HS.out.keeps K13)).mono ?_
    rintro e w14 ⟨b14, vs14, rfl, -, L14, P14, k14⟩
    go_wp2_with fail
    refine (HH.out _ _ ls i no next _ HN2.out P14 L14).mono ?_
    rintro e w16 ⟨v16, vs16, rfl, m16, k16⟩
    rw [Hg.out]
    rw [HP.out] at m16
    obtain ⟨a16, c16, rfl, N16, -, -⟩ := m16.args
    clear m16
    have k1216 : Keeps w12 w16 := k13.trans (k14.trans k16)
    go_wp2_with fail
    refine (eqLockS_same a16 a2 c16 c2 P _ hPm N16 (N2.keeps (k212.trans k1216))).mono ?_
    rintro e w17 ⟨rfl, k17⟩
    go_wp2_with fail
    refine (heldLockS_any a6 c6 P _ (Nat.le_trans hPs.out (by decide)) (N12.keeps (k1216.trans k17))).mono ?_
    rintro e w18 ⟨rfl, k18⟩
    go_wp2
    go_ret
    exact ⟨rfl, K12.trans (k1216.trans (k17.trans k18))⟩
  · have Hq : Hid (szAll ls = -1) := szAll_bad hn
    go_enter Try.func8, Try.ntmps8
    go_wp2_with (go_at_call 13; refine (szLockS_any _ _ ls _ Hl.out HS.out).mono ?_; rintro e w0 ⟨rfl, k0⟩; rw [Hq.out])
    go_ret
    exact ⟨rfl, k0⟩
end Go.Proofs.Ytglemedcnapneaa
