/-
  Locks that lie there, as the laws and later chapters hand them on.
  The walks of the exact laws over ChainOf, LockAsk and LockFree, over contracts of the program's functions.
  What the laws call of locks that lie there: the program's functions.
  How much is left of what may be asked, once some locks are counted.
-/
import Derived.Test.YtioffjgnfkjmkaaGLock2
import Derived.Test.YtioffjgnfkjmkaaGLock3
import Derived.Test.YtioffjgnfkjmkaaGLock1
namespace Go.Proofs.Ytioffjgnfkjmkaa
open Go.RowKit

theorem len_le_size (ls : List Lk) : ls.length ≤ sizeN ls := by unfold sizeN; omega
/-- What the laws call of some locks that lie there. -/
structure On (w : World) (a : Option Addr) (m cap : Nat) (ls : List Lk) : Prop where
  len : ls.length = m
  size : sizeN ls ≤ 2097152
  lks : Lks true w a ls
  pl : Plain w a m cap
theorem On.keeps {w w' : World} {a : Option Addr} {m cap : Nat} {ls : List Lk} (h : On w a m cap ls) (k : Keeps w w') : On w' a m cap ls := ⟨h.len, h.size, h.lks.keeps k, h.pl.keeps k⟩
theorem On.small {w : World} {a : Option Addr} {m cap : Nat} {ls : List Lk} (h : On w a m cap ls) : ls.length ≤ maxLen := by have := len_le_size ls; have := h.size; unfold maxLen; omega
theorem On.of {w : World} {lo hi : Nat} {v : Value} {vs : List Lv} {ls : List Lk} (M : Mine w lo hi v vs ls) (h : sizeN ls ≤ 2097152) : ∃ a cap, v = .slice a ls.length cap ∧ On w a ls.length cap ls := by
  obtain ⟨a, cap, e, L, P, -⟩ := M.args
  exact ⟨a, cap, e, rfl, h, L, P⟩
section calls
variable {w w' : World} {a : Option Addr} {m cap : Nat} {ls : List Lk}
set_option maxRecDepth 100000 in
theorem On.sLocksOk (h : On w a m cap ls) {z : Bool} (hz : locksB ls = z) (k : Keeps w w') : Calls Try.prog 35 #[.slice a m cap] w' fun e w'' => e = .returned (.bool z) ∧ Keeps w' w'' := by
  have h' := h.keeps k
  have := specLocksOk_any a cap ls w' h'.size h'.lks
  rw [h'.len, hz] at this
  exact this
theorem On.at (h : On w a m cap ls) {i : Nat} {l : Lk} (hl : ls[i]? = some l) : i < m ∧ ∃ b off a' cap', a = some ⟨b, off, none⟩ ∧ (∀ w', Keeps w w' → w'.cell? ⟨b, off + i * 2, none⟩ = some (.int .i64 l.owner)) ∧ (∀ w', Keeps w w' → w'.cell? ⟨b, off + i * 2 + 1, none⟩ = some (.slice a' l.waits.length cap')) ∧ l.waits.length ≤ maxLen ∧ Ns w a' l.waits :=
  ⟨by rw [← h.len]; exact lt_of_some hl, h.lks.at hl⟩
set_option maxRecDepth 100000 in
theorem On.sChain (h : On w a m cap ls) (x : Int) (k : Keeps w w') : Calls Try.prog 86 #[.slice a m cap, .int .i64 x] w' fun e w'' => ∃ v, e = .returned (.tuple #[v, .bool (chainN ls (ls.length + 1) x).2]) ∧ OwnN w'' w'.heap.size v (chainN ls (ls.length + 1) x).1 ∧ Keeps w' w'' := by
  have h' := h.keeps k
  have := specChain_any a cap ls x w' (by have := len_le_size ls; have := h'.size; omega) h'.lks
  rw [h'.len] at this
  rw [h'.len]
  exact this
theorem On.all (h : On w a m cap ls) (hm : 0 < m) : ∃ b off, a = some ⟨b, off, none⟩ ∧ ∀ (i : Nat) (l : Lk), ls[i]? = some l → ∃ a' cap', (∀ w', Keeps w w' → w'.cell? ⟨b, off + i * 2, none⟩ = some (.int .i64 l.owner)) ∧ (∀ w', Keeps w w' → w'.cell? ⟨b, off + i * 2 + 1, none⟩ = some (.slice a' l.waits.length cap')) ∧ l.waits.length ≤ maxLen ∧ Ns w a' l.waits := by
  obtain ⟨l0, h0⟩ := some_in (xs := ls) (k := 0) (by rw [h.len]; exact hm)
  obtain ⟨-, b, off, _, _, rfl, -⟩ := h.at h0
  refine ⟨b, off, rfl, fun i l hl => ?_⟩
  obtain ⟨-, b', off', a', cap', e, r⟩ := h.at hl
  simp only [Option.some.injEq, Addr.mk.injEq] at e
  obtain ⟨rfl, rfl, -⟩ := e
  exact ⟨a', cap', r⟩
end calls
theorem Ns.take {w : World} {a : Option Addr} {xs : List Int} (h : Ns w a xs) (k : Nat) : Ns w a (xs.take k) := by
  rcases h with rfl | ⟨b, off, rfl, hb, h⟩
  · exact .inl (by simp)
  · refine .inr ⟨b, off, rfl, hb, fun i x hx => h i x ?_⟩
    rw [List.getElem?_take] at hx
    split at hx
    · exact hx
    · cases hx
/-- What a chain's cells hold. -/
theorem OwnN.cells {w : World} {base : Nat} {v : Value} {xs : List Int} (h : OwnN w base v xs) (hp : 0 < xs.length) : ∃ b cap, v = .slice (some ⟨b, 0, none⟩) xs.length cap ∧ xs.length ≤ cap ∧ ∀ (k : Nat) (x : Int), xs[k]? = some x → ∀ w', Keeps w w' → w'.cell? ⟨b, k, none⟩ = some (.int .i64 x) := by
  obtain ⟨b, cap, rfl⟩ := Own.blk h hp
  obtain ⟨_, _, e, _, h1, _⟩ := OwnN.ns h
  simp only [Value.slice.injEq] at e
  obtain ⟨rfl, -, rfl⟩ := e
  refine ⟨b, cap, rfl, h1, fun k x hx => Keeps.has ?_⟩
  have := Own.cellAt h ic_size (i := k) (k := 0) hx (by omega)
  simpa using this
end Go.Proofs.Ytioffjgnfkjmkaa
namespace Go.Proofs.Ytioffjgnfkjmkaa
open Go.RowKit
variable {p : Bool}
attribute [local go_sem] Keeps.refl Keeps.alloc Keeps.drew Keeps.drewN

theorem sumW_set : ∀ {ls : List Lk} {j : Nat} {l : Lk} (m : Lk), ls[j]? = some l → sumW (ls.set j m) + l.waits.length = sumW ls + m.waits.length
  | [], j, l, m, h => by simp at h
  | x :: r, 0, l, m, h => by
    simp at h
    subst h
    simp only [List.set_cons_zero, sumW]
    omega
  | x :: r, j + 1, l, m, h => by
    have := sumW_set (ls := r) (j := j) m (by simpa using h)
    simp only [List.set_cons_succ, sumW]
    omega
theorem sizeN_set {ls : List Lk} {j : Nat} {l : Lk} (m : Lk) (h : ls[j]? = some l) : sizeN (ls.set j m) + l.waits.length = sizeN ls + m.waits.length := by
  have := sumW_set m h
  unfold sizeN
  rw [List.length_set]
  omega
theorem sizeN_modify {ls : List Lk} (f : Lk → Lk) (j : Nat) (hf : ∀ l, (f l).waits.length ≤ l.waits.length + 1) : sizeN (ls.modify j f) ≤ sizeN ls + 1 := by
  cases h : ls[j]? with
  | none =>
    have hl : ls.length ≤ j := by
      rcases Nat.lt_or_ge j ls.length with h1 | h1
      · rw [List.getElem?_eq_getElem h1] at h; cases h
      · exact h1
    have : ls.modify j f = ls := by
      apply List.ext_getElem?
      intro i
      rw [List.getElem?_modify]
      by_cases e : j = i
      · subst e; rw [h]; rfl
      · simp [e]
    rw [this]; omega
  | some l =>
    rw [modify_set h]
    have := sizeN_set (f l) h
    have := hf l
    omega
theorem askL_size (ls : List Lk) (i no : Int) : sizeN (askL ls i no) ≤ sizeN ls + 1 := by
  unfold askL
  split
  · simp [sizeN, sumW]
  · split
    · exact sizeN_modify _ _ fun l => by simp [setOwner]
    · split
      · exact sizeN_modify _ _ fun l => by simp [addWait]
      · omega
theorem freeL_size (ls : List Lk) (i no next : Int) : sizeN (freeL ls i no next) ≤ sizeN ls + 1 := by
  unfold freeL
  split
  · simp [sizeN, sumW]
  · split
    · exact sizeN_modify _ _ fun l => by have := lessL_le l.waits next; simp [freed]; omega
    · omega
theorem chainL_size (ls : List Lk) (no : Int) : (chainL ls no).length ≤ ls.length + 2 := by
  unfold chainL
  split
  · exact chainN_len ls _ no
  · simp

set_option maxRecDepth 100000 in
set_option maxHeartbeats 4000000 in
theorem exactLockAsk_walk (H : SaysLockAsk) (a : Option Addr) (cap : Nat) (ls : List Lk) (i no : Int) (w : World) (hl : ls.length ≤ maxLen) (hs : Lks p w a ls) :
    Calls Try.prog 5 #[.slice a ls.length cap, .int .i64 i, .int .i64 no] w fun e w' => e = .returned (.bool true) ∧ Keeps w w' := by
  have HH : Hid SaysLockAsk := H
  have HS : Hid (Lks p w a ls) := hs
  have Hl : Hid (ls.length ≤ maxLen) := hl
  clear H hs hl
  by_cases hn : sizeN ls ≤ 1048576
  · obtain ⟨q, Hq, hq⟩ := szAll_ok hn
    have Hq' : Hid (szAll ls = q) := Hq
    have hq2 : decide (q < 0) = false := by simp; omega
    have HN : Hid (sizeN ls ≤ 1048576) := hn
    have HN2 : Hid (sizeN ls ≤ 2097152) := Nat.le_trans hn (by decide)
    clear Hq hn
    obtain ⟨g, Hg⟩ : ∃ g, Hid (askN ls i no = g) := ⟨_, rfl⟩
    obtain ⟨P, HP⟩ : ∃ P, Hid (askL ls i no = P) := ⟨_, rfl⟩
    have n0 : (g != g) = false := by simp
    have hPs : Hid (sizeN P ≤ 1048577) := by show _ ≤ _; rw [← HP.out]; have := askL_size ls i no; have := HN.out; omega
    have hPl : P.length ≤ 1048577 := Nat.le_trans (len_le_size P) hPs.out
    have hPm : P.length ≤ maxLen := by unfold maxLen; omega
    go_enter Try.func5, Try.ntmps5
    go_wp2_with fail
    refine (szLockS_any _ _ ls _ Hl.out HS.out).mono ?_
    rintro e w0 ⟨rfl, k0⟩
    rw [Hq'.out]
    go_wp2_with fail
    refine (toLockS_all _ _ ls _ HN.out (HS.out.keeps k0)).mono ?_
    rintro e w1 ⟨b1, vs1, rfl, -, L1, -, k1⟩
    have K1 := k0.trans k1
    go_wp2_with fail
    refine (specLockAsk_any _ _ ls i no _ HN2.out L1).mono ?_
    rintro e w2 ⟨v2, vs2, rfl, m2, k2⟩
    rw [Hg.out]
    rw [HP.out] at m2
    obtain ⟨a2, c2, rfl, N2, -, -⟩ := m2.args
    clear m2
    have K2 := K1.trans k2
    go_wp2_with fail
    refine (toLockS_all _ _ ls _ HN.out (HS.out.keeps K2)).mono ?_
    rintro e w4 ⟨b4, vs4, rfl, M4, L4, P4, k4⟩
    have K4 := K2.trans k4
    go_wp2_with fail
    refine (HH.out _ _ ls i no _ HN2.out P4 L4).mono ?_
    rintro e w6 ⟨v6, vs6, rfl, m6, k6⟩
    rw [Hg.out]
    rw [HP.out] at m6
    obtain ⟨a6, c6, rfl, N6, -, -⟩ := m6.args
    have M6 : Hid (Mine w6 w4.heap.size w6.heap.size (.slice a6 P.length c6) vs6 P) := m6
    clear m6
    go_wp2_with fail
    refine (eqLockS_same a6 a2 c6 c2 P _ hPm N6 (N2.keeps (k4.trans k6))).mono ?_
    rintro e w7 ⟨rfl, k7⟩
    have K7 := K4.trans (k6.trans k7)
    go_wp2_with fail
    refine (toLockS_all _ _ ls _ HN.out (HS.out.keeps K7)).mono ?_
    rintro e w8 ⟨b8, vs8, rfl, -, L8, -, k8⟩
    have k48 : Keeps w4 w8 := k6.trans (k7.trans k8)
    go_wp2_with fail
    refine (eqLockS_same _ _ _ _ ls _ Hl.out (L4.keeps k48) L8).mono ?_
    rintro e w9 ⟨rfl, k9⟩
    have k49 : Keeps w4 w9 := k48.trans k9
    go_wp2_with fail
    refine (markLockS_any _ vs4 ls _ _ _ HN2.out (M4.keeps k49)).mono ?_
    rintro e w10 ⟨rfl, -, W10⟩
    have M10 : Hid (Mine w10 w4.heap.size w6.heap.size (.slice a6 P.length c6) vs6 P) := W10.mine (M6.out.keeps (k7.trans (k8.trans k9))) (.inr (Nat.le_refl _))
    have k210 : Keeps w2 w10 := W10.keeps (k4.trans k49) (Nat.le_refl _)
    have K10 : Keeps w w10 := K2.trans k210
    have hz1 : decide ((1 : Int) + (sizeN ls : Int) < 0) = false := by simp; omega
    obtain ⟨a10, c10, e10, N10, -, -⟩ := M10.out.args
    simp only [Value.slice.injEq] at e10
    obtain ⟨rfl, -, rfl⟩ := e10
    clear M6 W10
    go_wp2_with fail
    refine (eqLockS_same a6 a2 c6 c2 P _ hPm N10 (N2.keeps k210)).mono ?_
    rintro e w11 ⟨rfl, k11⟩
    go_wp2_with fail
    refine (markLockS_any _ vs6 P _ _ _ (Nat.le_trans hPs.out (by decide)) (M10.out.keeps k11)).mono ?_
    rintro e w12 ⟨rfl, ⟨vs12, m12⟩, W12⟩
    have K12 : Keeps w w12 := W12.keeps (K10.trans k11) K4.size
    have k212 : Keeps w2 w12 := W12.keeps (k210.trans k11) k4.size
    obtain ⟨a12, c12, e12, N12, -, -⟩ := m12.args
    rw [marksL_length] at e12
    simp only [Value.slice.injEq] at e12
    obtain ⟨rfl, -, rfl⟩ := e12
    have hz2 : decide ((1 : Int) + (sizeN P : Int) < 0) = false := by simp; omega
    have hz3 : ((1 : Int) + (sizeN P : Int) != (1 : Int) + (sizeN P : Int)) = false := by simp
    clear W12 m12 M10
    go_wp2_with fail
    refine (heldLockS_any a6 c6 P _ (Nat.le_trans hPs.out (by decide)) N12).mono ?_
    rintro e w13 ⟨rfl, k13⟩
    have K13 : Keeps w w13 := K12.trans k13
    go_wp2_with fail
    refine (toLockS_all _ _ ls _ HN.out (HS.out.keeps K13)).mono ?_
    rintro e w14 ⟨b14, vs14, rfl, -, L14, P14, k14⟩
    go_wp2_with fail
    refine (HH.out _ _ ls i no _ HN2.out P14 L14).mono ?_
    rintro e w16 ⟨v16, vs16, rfl, m16, k16⟩
    rw [Hg.out]
    rw [HP.out] at m16
    obtain ⟨a16, c16, rfl, N16, -, -⟩ := m16.args
    clear m16
    have k1216 : Keeps w12 w16 := k13.trans (k14.trans k16)
    go_wp2_with fail
    refine (eqLockS_same a16 a2 c16 c2 P _ hPm N16 (N2.keeps (k212.trans k1216))).mono ?_
    rintro e w17 ⟨rfl, k17⟩
    go_wp2_with fail
    refine (heldLockS_any a6 c6 P _ (Nat.le_trans hPs.out (by decide)) (N12.keeps (k1216.trans k17))).mono ?_
    rintro e w18 ⟨rfl, k18⟩
    go_wp2
    go_ret
    exact ⟨rfl, K12.trans (k1216.trans (k17.trans k18))⟩
  · have Hq : Hid (szAll ls = -1) := szAll_bad hn
    go_enter Try.func5, Try.ntmps5
    go_wp2_with (go_at_call 24; refine (szLockS_any _ _ ls _ Hl.out HS.out).mono ?_; rintro e w0 ⟨rfl, k0⟩; rw [Hq.out])
    go_ret
    exact ⟨rfl, k0⟩

set_option maxRecDepth 100000 in
set_option maxHeartbeats 4000000 in
theorem exactLockFree_walk (H : SaysLockFree) (a : Option Addr) (cap : Nat) (ls : List Lk) (i no next : Int) (w : World) (hl : ls.length ≤ maxLen) (hs : Lks p w a ls) :
    Calls Try.prog 6 #[.slice a ls.length cap, .int .i64 i, .int .i64 no, .int .i64 next] w fun e w' => e = .returned (.bool true) ∧ Keeps w w' := by
  have HH : Hid SaysLockFree := H
  have HS : Hid (Lks p w a ls) := hs
  have Hl : Hid (ls.length ≤ maxLen) := hl
  clear H hs hl
  by_cases hn : sizeN ls ≤ 1048576
  · obtain ⟨q, Hq, hq⟩ := szAll_ok hn
    have Hq' : Hid (szAll ls = q) := Hq
    have hq2 : decide (q < 0) = false := by simp; omega
    have HN : Hid (sizeN ls ≤ 1048576) := hn
    have HN2 : Hid (sizeN ls ≤ 2097152) := Nat.le_trans hn (by decide)
    clear Hq hn
    obtain ⟨g, Hg⟩ : ∃ g, Hid (freeB ls i no next = g) := ⟨_, rfl⟩
    obtain ⟨P, HP⟩ : ∃ P, Hid (freeL ls i no next = P) := ⟨_, rfl⟩
    have n0 : (g != g) = false := by simp
    have hPs : Hid (sizeN P ≤ 1048577) := by show _ ≤ _; rw [← HP.out]; have := freeL_size ls i no next; have := HN.out; omega
    have hPl : P.length ≤ 1048577 := Nat.le_trans (len_le_size P) hPs.out
    have hPm : P.length ≤ maxLen := by unfold maxLen; omega
    go_enter Try.func6, Try.ntmps6
    go_wp2_with fail
    refine (szLockS_any _ _ ls _ Hl.out HS.out).mono ?_
    rintro e w0 ⟨rfl, k0⟩
    rw [Hq'.out]
    go_wp2_with fail
    refine (toLockS_all _ _ ls _ HN.out (HS.out.keeps k0)).mono ?_
    rintro e w1 ⟨b1, vs1, rfl, -, L1, -, k1⟩
    have K1 := k0.trans k1
    go_wp2_with fail
    refine (specLockFree_any _ _ ls i no next _ HN2.out L1).mono ?_
    rintro e w2 ⟨v2, vs2, rfl, m2, k2⟩
    rw [Hg.out]
    rw [HP.out] at m2
    obtain ⟨a2, c2, rfl, N2, -, -⟩ := m2.args
    clear m2
    have K2 := K1.trans k2
    go_wp2_with fail
    refine (toLockS_all _ _ ls _ HN.out (HS.out.keeps K2)).mono ?_
    rintro e w4 ⟨b4, vs4, rfl, M4, L4, P4, k4⟩
    have K4 := K2.trans k4
    go_wp2_with fail
    refine (HH.out _ _ ls i no next _ HN2.out P4 L4).mono ?_
    rintro e w6 ⟨v6, vs6, rfl, m6, k6⟩
    rw [Hg.out]
    rw [HP.out] at m6
    obtain ⟨a6, c6, rfl, N6, -, -⟩ := m6.args
    have M6 : Hid (Mine w6 w4.heap.size w6.heap.size (.slice a6 P.length c6) vs6 P) := m6
    clear m6
    go_wp2_with fail
    refine (eqLockS_same a6 a2 c6 c2 P _ hPm N6 (N2.keeps (k4.trans k6))).mono ?_
    rintro e w7 ⟨rfl, k7⟩
    have K7 := K4.trans (k6.trans k7)
    go_wp2_with fail
    refine (toLockS_all _ _ ls _ HN.out (HS.out.keeps K7)).mono ?_
    rintro e w8 ⟨b8, vs8, rfl, -, L8, -, k8⟩
    have k48 : Keeps w4 w8 := k6.trans (k7.trans k8)
    go_wp2_with fail
    refine (eqLockS_same _ _ _ _ ls _ Hl.out (L4.keeps k48) L8).mono ?_
    rintro e w9 ⟨rfl, k9⟩
    have k49 : Keeps w4 w9 := k48.trans k9
    go_wp2_with fail
    refine (markLockS_any _ vs4 ls _ _ _ HN2.out (M4.keeps k49)).mono ?_
    rintro e w10 ⟨rfl, -, W10⟩
    have M10 : Hid (Mine w10 w4.heap.size w6.heap.size (.slice a6 P.length c6) vs6 P) := W10.mine (M6.out.keeps (k7.trans (k8.trans k9))) (.inr (Nat.le_refl _))
    have k210 : Keeps w2 w10 := W10.keeps (k4.trans k49) (Nat.le_refl _)
    have K10 : Keeps w w10 := K2.trans k210
    have hz1 : decide ((1 : Int) + (sizeN ls : Int) < 0) = false := by simp; omega
    obtain ⟨a10, c10, e10, N10, -, -⟩ := M10.out.args
    simp only [Value.slice.injEq] at e10
    obtain ⟨rfl, -, rfl⟩ := e10
    clear M6 W10
    go_wp2_with fail
    refine (eqLockS_same a6 a2 c6 c2 P _ hPm N10 (N2.keeps k210)).mono ?_
    rintro e w11 ⟨rfl, k11⟩
    go_wp2_with fail
    refine (markLockS_any _ vs6 P _ _ _ (Nat.le_trans hPs.out (by decide)) (M10.out.keeps k11)).mono ?_
    rintro e w12 ⟨rfl, ⟨vs12, m12⟩, W12⟩
    have K12 : Keeps w w12 := W12.keeps (K10.trans k11) K4.size
    have k212 : Keeps w2 w12 := W12.keeps (k210.trans k11) k4.size
    obtain ⟨a12, c12, e12, N12, -, -⟩ := m12.args
    rw [marksL_length] at e12
    simp only [Value.slice.injEq] at e12
    obtain ⟨rfl, -, rfl⟩ := e12
    have hz2 : decide ((1 : Int) + (sizeN P : Int) < 0) = false := by simp; omega
    have hz3 : ((1 : Int) + (sizeN P : Int) != (1 : Int) + (sizeN P : Int)) = false := by simp
    clear W12 m12 M10
    go_wp2_with fail
    refine (heldLockS_any a6 c6 P _ (Nat.le_trans hPs.out (by decide)) N12).mono ?_
    rintro e w13 ⟨rfl, k13⟩
    have K13 : Keeps w w13 := K12.trans k13
    go_wp2_with fail
    refine (toLockS_all _ _ ls _ HN.out (HS.out.keeps K13)).mono ?_
    rintro e w14 ⟨b14, vs14, rfl, -, L14, P14, k14⟩
    go_wp2_with fail
    refine (HH.out _ _ ls i no next _ HN2.out P14 L14).mono ?_
    rintro e w16 ⟨v16, vs16, rfl, m16, k16⟩
    rw [Hg.out]
    rw [HP.out] at m16
    obtain ⟨a16, c16, rfl, N16, -, -⟩ := m16.args
    clear m16
    have k1216 : Keeps w12 w16 := k13.trans (k14.trans k16)
    go_wp2_with fail
    refine (eqLockS_same a16 a2 c16 c2 P _ hPm N16 (N2.keeps (k212.trans k1216))).mono ?_
    rintro e w17 ⟨rfl, k17⟩
    go_wp2_with fail
    refine (heldLockS_any a6 c6 P _ (Nat.le_trans hPs.out (by decide)) (N12.keeps (k1216.trans k17))).mono ?_
    rintro e w18 ⟨rfl, k18⟩
    go_wp2
    go_ret
    exact ⟨rfl, K12.trans (k1216.trans (k17.trans k18))⟩
  · have Hq : Hid (szAll ls = -1) := szAll_bad hn
    go_enter Try.func6, Try.ntmps6
    go_wp2_with (go_at_call 24; refine (szLockS_any _ _ ls _ Hl.out HS.out).mono ?_; rintro e w0 ⟨rfl, k0⟩; rw [Hq.out])
    go_ret
    exact ⟨rfl, k0⟩
end Go.Proofs.Ytioffjgnfkjmkaa
namespace Go.Proofs.Ytioffjgnfkjmkaa
open Go.RowKit

section calls
variable {w w' : World} {a : Option Addr} {m cap : Nat} {ls : List Lk}
set_option maxRecDepth 100000 in
theorem On.iWaitAt (H : SaysWaitAt) (h : On w a m cap ls) (x : Int) {z : Int} (hz : waitAt ls x = z) (k : Keeps w w') : Calls Try.prog 38 #[.slice a m cap, .int .i64 x] w' fun e w'' => e = .returned (.int .i64 z) ∧ Keeps w' w'' := by
  have h' := h.keeps k
  have := H a cap ls x w' h'.size (by rw [h'.len]; exact h'.pl) h'.lks
  rw [h'.len, hz] at this
  exact this
set_option maxRecDepth 100000 in
theorem On.iLocksOk (H : SaysLocksOk) (h : On w a m cap ls) {z : Bool} (hz : locksB ls = z) (k : Keeps w w') : Calls Try.prog 34 #[.slice a m cap] w' fun e w'' => e = .returned (.bool z) ∧ Keeps w' w'' := by
  have h' := h.keeps k
  have := H a cap ls w' h'.size (by rw [h'.len]; exact h'.pl) h'.lks
  rw [h'.len, hz] at this
  exact this
set_option maxRecDepth 100000 in
theorem On.iOwnsAny (H : SaysOwnsAny) (h : On w a m cap ls) (x : Int) {z : Bool} (hz : ownsB ls x = z) (k : Keeps w w') : Calls Try.prog 36 #[.slice a m cap, .int .i64 x] w' fun e w'' => e = .returned (.bool z) ∧ Keeps w' w'' := by
  have h' := h.keeps k
  have := H a cap ls x w' h'.size (by rw [h'.len]; exact h'.pl) h'.lks
  rw [h'.len, hz] at this
  exact this
set_option maxRecDepth 100000 in
theorem On.iChainOf (H : SaysChainOf) (h : On w a m cap ls) (x : Int) {C : List Int} (hz : chainL ls x = C) (k : Keeps w w') : Calls Try.prog 37 #[.slice a m cap, .int .i64 x] w' fun e w'' => ∃ v, e = .returned v ∧ OwnN w'' w'.heap.size v C ∧ Keeps w' w'' := by
  have h' := h.keeps k
  have := H a cap ls x w' h'.size (by rw [h'.len]; exact h'.pl) h'.lks
  rw [h'.len, hz] at this
  exact this
end calls
end Go.Proofs.Ytioffjgnfkjmkaa
namespace Go.Proofs.Ytioffjgnfkjmkaa
open Go.RowKit
variable {p p' : Bool}
attribute [local go_sem] Keeps.refl Keeps.alloc Keeps.drew Keeps.drewN

def szLeft (ls : List Lk) (c0 : Int) : Int := if (sizeN ls : Int) ≤ c0 then c0 - (sizeN ls : Int) else -1

set_option maxRecDepth 100000 in
set_option maxHeartbeats 1000000 in
theorem szLockS_left (a : Option Addr) (cap : Nat) (ls : List Lk) (c0 : Int) (w : World) (hc0 : 0 ≤ c0) (hc1 : c0 ≤ 1048576) (hl : ls.length ≤ maxLen) (hs : Lks p w a ls) :
    Calls Try.prog 24 #[.slice a ls.length cap, .int .i64 c0] w fun e w' => e = .returned (.int .i64 (szLeft ls c0)) ∧ Keeps w w' := by
  unfold maxLen at hl
  generalize hn : ls.length = n at hl
  have Hn : Hid (ls.length = n) := hn
  clear hn
  by_cases h0 : (n : Int) ≤ c0
  · go_enter Try.func24, Try.ntmps24
    go_wp2
    go_loopw [1, 5] (fun c i wr => ∃ k : Nat, k ≤ n ∧ i = .int .i64 k ∧ Keeps w wr ∧ ∃ s : Nat, Hid (sumW (ls.take k) = s) ∧ (n : Int) + (s : Int) ≤ c0 ∧ c = .int .i64 (c0 - (n : Int) - (s : Int))) (fun _ i _ => n - (intOf i).toNat)
    case atStart => exact ⟨0, Nat.zero_le _, rfl, Keeps.refl _, 0, by show _ = _; simp [sumW], by omega, by simp⟩
    case round =>
      obtain ⟨k, hk, rfl, hK, s, Hs, hs1, rfl⟩ := hrel
      by_cases hlt : k < n
      · obtain ⟨l, hl1⟩ := some_in (xs := ls) (k := k) (by rw [Hn.out]; exact hlt)
        obtain ⟨b, off, a', cap', rfl, r0, r1, hle, hns⟩ := hs.at hl1
        have hlt' : (k : Int) < (n : Int) := by omega
        have Hl : Hid (ls[k]? = some l) := hl1
        have Hle : Hid (l.waits.length ≤ maxLen) := hle
        clear hs hl1 hns hle
        obtain ⟨m, Hm⟩ : ∃ m : Nat, Hid (l.waits.length = m) := ⟨_, rfl⟩
        rw [Hm.out] at r1
        by_cases hf : (m : Int) ≤ c0 - (n : Int) - (s : Int)
        · have Hz : Hid (szOf m (c0 - (n : Int) - (s : Int)) = c0 - (n : Int) - (s : Int) - m) := if_pos hf
          have hz : decide (c0 - (n : Int) - (s : Int) - (m : Int) < 0) = false := by simp; omega
          go_wp2_with (go_at_call 64; refine (szLock_any _ _ _ _ _ _ (by have := Hle.out; rw [Hm.out] at this; exact this) (by omega) (by omega)).mono ?_; rintro e w1 ⟨rfl, k1⟩; rw [Hz.out])
          exact ⟨⟨k + 1, by omega, by go_num, hK.trans k1, s + m, by show _ = _; rw [sumW_take Hl.out, Hs.out, Hm.out], by omega, by rw [show c0 - (n : Int) - ((s + m : Nat) : Int) = c0 - (n : Int) - (s : Int) - (m : Int) from by omega]⟩, by simp only [intOf]; omega⟩
        · have Hz : Hid (szOf m (c0 - (n : Int) - (s : Int)) = -1) := if_neg hf
          have Hr : Hid (szLeft ls c0 = -1) := by
            refine if_neg ?_
            have h1 := sumW_take Hl.out
            have h2 := sumW_le ls (k + 1)
            rw [Hs.out, Hm.out] at h1
            have h3 := Hn.out
            unfold sizeN
            omega
          go_wp2_with (go_at_call 64; refine (szLock_any _ _ _ _ _ _ (by have := Hle.out; rw [Hm.out] at this; exact this) (by omega) (by omega)).mono ?_; rintro e w1 ⟨rfl, k1⟩; rw [Hz.out])
          go_ret
          exact ⟨by rw [Hr.out]; rfl, hK.trans k1⟩
      · have e : k = n := by omega
        subst e
        have Hr : Hid (szLeft ls c0 = c0 - (k : Int) - (s : Int)) := by
          show _ = _
          have h1 := Hs.out
          rw [← Hn.out, List.take_length] at h1
          have h2 := Hn.out
          unfold szLeft sizeN
          rw [if_pos (by omega)]
          omega
        go_wp2
        go_ret
        exact ⟨by rw [Hr.out]; rfl, hK⟩
  · have Hr : Hid (szLeft ls c0 = -1) := by
      refine if_neg ?_
      have h2 := Hn.out
      unfold sizeN
      omega
    go_enter Try.func24, Try.ntmps24
    go_wp2
    go_ret
    exact ⟨by rw [Hr.out]; rfl, Keeps.refl _⟩

end Go.Proofs.Ytioffjgnfkjmkaa
