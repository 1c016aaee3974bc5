/-
  The walk of FnAsked, over contracts of the program's functions.
-/
import Derived.Test.YtioffjgnfkjmkaaChainsLaw
import Derived.Test.YtioffjgnfkjmkaaGLock4
namespace Go.Proofs.Ytioffjgnfkjmkaa
open Go.RowKit
attribute [local go_sem] Keeps.refl Keeps.alloc Keeps.drew Keeps.drewN

theorem Drawn.on {w w' : World} {v : Value} {ls : List Lk} (D : Drawn w w' v ls) : ∃ a cap, v = .slice a ls.length cap ∧ On w' a ls.length cap ls := by
  obtain ⟨vs, M⟩ := D.mine
  exact On.of M (Nat.le_trans D.size (by decide))
section calls
variable {w w' : World} {a : Option Addr} {m cap : Nat} {ls : List Lk}
set_option maxRecDepth 100000 in
theorem On.same {w2 : World} {a2 : Option Addr} {cap2 m2 : Nat} (h : On w a m cap ls) (h2 : On w2 a2 m2 cap2 ls) (k : Keeps w w') (k2 : Keeps w2 w') : Calls Try.prog 39 #[.slice a m cap, .slice a2 m2 cap2] w' fun e w'' => e = .returned (.bool true) ∧ Keeps w' w'' := by
  have e : m2 = m := by rw [← h.len, ← h2.len]
  subst e
  have := sameLocks_same a a2 cap cap2 ls w' h.small (h.keeps k).lks (h2.keeps k2).lks
  rw [h.len] at this
  exact this
end calls

set_option maxRecDepth 100000 in
set_option maxHeartbeats 2000000 in
theorem asked_walk (HA : SaysLockAsk) (HL : SaysLocksOk) (HO : SaysOwnsAny) (HC : SaysChainOf) (HW : SaysWaitAt) (a : Option Addr) (n cap : Nat) (w : World) (hm : n ≤ maxLen) (hb : ∀ g, w.heap.size ≤ g → Bytes g w a n) :
    Calls Try.prog 7 #[.slice a n cap] w fun e w' => e = .returned (.bool true) ∧ Keeps w w' := by
  have hA : Hid SaysLockAsk := HA
  have hL : Hid SaysLocksOk := HL
  have hO : Hid SaysOwnsAny := HO
  have hC : Hid SaysChainOf := HC
  have hW : Hid SaysWaitAt := HW
  clear HA HL HO HC HW
  by_cases hn : n ≤ 1048576
  · have hd : decide (1048576 < (n : Int)) = false := by simp; omega
    go_enter Try.func7, Try.ntmps7
    go_wp2_with fail
    refine (big_any _ _ _ _ hm).mono ?_
    rintro e w0 ⟨rfl, hw0⟩
    have hw2 := hw0.symm
    subst hw2
    clear hw0
    rw [hd]
    go_wp2_with fail
    refine (drawLockAsk_any _ _ _ _ hn hb).mono ?_
    rintro e w1 ⟨v, ls, i, no, rfl, D⟩
    clear hd hb
    obtain ⟨a1, c1, rfl, o1⟩ := D.on
    have hpos := D.pos
    have hle := D.le
    have hsz : Hid (sizeN ls ≤ 17) := D.size
    have K1 : Hid (Keeps w w1) := D.keep
    clear D
    obtain ⟨m, Hm⟩ : ∃ m, Hid (ls.length = m) := ⟨_, rfl⟩
    rw [Hm.out] at hpos hle o1 ⊢
    have O1 : Hid (On w1 a1 m c1 ls) := o1
    clear o1
    obtain ⟨h, Hh⟩ : ∃ h, Hid (askN ls i no = h) := ⟨_, rfl⟩
    obtain ⟨N, HN⟩ : ∃ N, Hid (askL ls i no = N) := ⟨_, rfl⟩
    obtain ⟨mN, HmN⟩ : ∃ mN, Hid (N.length = mN) := ⟨_, rfl⟩
    go_wp2_with fail
    have q2 := hA.out a1 c1 ls i no w1 O1.out.size (by rw [Hm.out]; exact O1.out.pl) O1.out.lks
    rw [Hm.out, Hh.out, HN.out] at q2
    refine q2.mono ?_
    clear q2
    rintro e w2 ⟨v2, vs2, rfl, M2, k2⟩
    have hsN : sizeN N ≤ 2097152 := by rw [← HN.out]; have := askL_size ls i no; have := hsz.out; omega
    obtain ⟨a2, c20, rfl, o2⟩ := On.of M2 hsN
    rw [HmN.out] at o2 ⊢
    have O2 : Hid (On w2 a2 mN c20 N) := o2
    clear o2 M2 hsN vs2
    go_wp2_with fail
    have q3 := specLockAsk_any a1 c1 ls i no w2 O1.out.size (O1.out.keeps k2).lks
    rw [Hm.out, Hh.out] at q3
    refine q3.mono ?_
    clear q3
    rintro e w3 ⟨v3, vs3, rfl, -, k3⟩
    have K13 : Keeps w1 w3 := k2.trans k3
    have K23 : Keeps w2 w3 := k3
    clear k2 k3
    have n0 : (h != h) = false := by simp
    cases hb : locksB ls
    · have e1 : h = 2 := by rw [← Hh.out]; simp [askN, hb]
      have e2 : Hid (N = []) := by show _ = _; rw [← HN.out]; simp [askL, hb]
      have e3 : mN = 0 := by rw [← HmN.out, e2.out]; rfl
      subst e1 e3
      go_wp2_with (first
        | (go_at_call 34; have k0 := K13; clear K13; refine (O1.out.iLocksOk hL.out hb k0).mono ?_; rintro e w4 ⟨rfl, k4⟩; have K14 := k0.trans k4)
        | (go_at_call 35; refine (O1.out.sLocksOk hb K14).mono ?_; rintro e w5 ⟨rfl, k5⟩; have K15 := K14.trans k5))
      go_ret
      exact ⟨rfl, K1.out.trans K15⟩
    · have R : Hid (Right ls) := right_iff.1 hb
      have RA := ask_right R.out i no
      rw [HN.out] at RA
      have RN : Hid (Right N) := RA.1
      have hbN : Hid (locksB N = true) := right_iff.2 RA.1
      have emN : mN = m := by rw [← HmN.out, ← Hm.out]; exact RA.2
      clear RA
      subst emN
      have n1 : (true != true) = false := rfl
      rcases asked R.out i no with ⟨ha, he⟩ | ⟨j, l, hi, hl, h0, hno, hw, ha, he⟩ | ⟨j, l, hi, hl, hc, ha, he⟩ | ⟨j, l, hi, hl, h0, h1, hno, hw, hc, ha, he⟩
      · have e1 : N = ls := by rw [← HN.out]; exact he
        subst e1
        have n2 : ((mN : Int) == 0) = false := by simp; omega
        have n3 : (mN == 0) = false := by simp; omega
        rw [Hh.out] at ha
        rcases ha with rfl | rfl
        all_goals
          go_wp2_with (first
            | (go_at_call 34; have k0 := K13; clear K13; refine (O1.out.iLocksOk hL.out hb k0).mono ?_; rintro e w4 ⟨rfl, k4⟩; have K14 := k0.trans k4)
            | (go_at_call 35; refine (O1.out.sLocksOk hb K14).mono ?_; rintro e w5 ⟨rfl, k5⟩; have K15 := K14.trans k5; have K25 := K23.trans (k4.trans k5))
            | (go_at_call 39; refine (O2.out.same O1.out K25 K15).mono ?_; rintro e w6 ⟨rfl, k6⟩; have K16 := K15.trans k6))
          go_ret
          exact ⟨rfl, K1.out.trans K16⟩
      · have e1 : h = 0 := by rw [← Hh.out]; exact ha
        subst e1 hi
        have eN : N[j]? = some ⟨no, []⟩ := by rw [← HN.out, he]; exact List.getElem?_set_self (lt_of_some hl)
        have hown : Hid (ownsB N no = true) := ownsB_at eN (by simp; omega) (by simp)
        obtain ⟨hj, b, off, a', cap', rfl, r0, r1, -, -⟩ := O2.out.at eN
        dsimp only [List.length_nil] at r0 r1
        have hj' : (j : Int) < (mN : Int) := by omega
        have n2 : (no == no) = true := by simp
        have r0' : ∀ w', Keeps w3 w' → w'.cell? ⟨b, off + j * 2, none⟩ = some (.int .i64 no) := fun w' h => r0 w' (K23.trans h)
        have r1' : ∀ w', Keeps w3 w' → w'.cell? ⟨b, off + j * 2 + 1, none⟩ = some (.slice a' 0 cap') := fun w' h => r1 w' (K23.trans h)
        clear eN he hl ha hw r0 r1
        go_wp2_with (first
          | (go_at_call 34; have k0 := K13; clear K13; refine (O1.out.iLocksOk hL.out hb k0).mono ?_; rintro e w4 ⟨rfl, k4⟩; have K14 := k0.trans k4)
          | (go_at_call 35; refine (O1.out.sLocksOk hb K14).mono ?_; rintro e w5 ⟨rfl, k5⟩; have K15 := K14.trans k5; have K35 := k4.trans k5; have K25 := K23.trans K35)
          | (go_at_call 36; refine (O2.out.iOwnsAny hO.out no hown.out K25).mono ?_; rintro e w6 ⟨rfl, k6⟩; have K16 := K15.trans k6; have K26 := K25.trans k6)
          | (go_at_call 34; refine (O2.out.iLocksOk hL.out hbN.out K26).mono ?_; rintro e w7 ⟨rfl, k7⟩; have K17 := K16.trans k7))
        go_ret
        exact ⟨rfl, K1.out.trans K17⟩
      · have e1 : h = 4 := by rw [← Hh.out]; exact ha
        have e2 : N = ls := by rw [← HN.out]; exact he
        subst e1 hi e2
        obtain ⟨hj, b, off, a', cap', rfl, r0, -, -, -⟩ := O1.out.at hl
        have hj' : (j : Int) < (mN : Int) := by omega
        have r0' : ∀ w', Keeps w3 w' → w'.cell? ⟨b, off + j * 2, none⟩ = some (.int .i64 l.owner) := fun w' h => r0 w' (K13.trans h)
        obtain ⟨C, HC⟩ : ∃ C, Hid (chainL N l.owner = C) := ⟨_, rfl⟩
        rw [HC.out] at hc
        have Hc : Hid (hasB C no = true) := hc
        clear he hl ha r0 hc
        go_wp2_with (first
          | (go_at_call 34; have k0 := K13; clear K13; refine (O1.out.iLocksOk hL.out hb k0).mono ?_; rintro e w4 ⟨rfl, k4⟩; have K14 := k0.trans k4)
          | (go_at_call 35; refine (O1.out.sLocksOk hb K14).mono ?_; rintro e w5 ⟨rfl, k5⟩; have K15 := K14.trans k5; have K35 := k4.trans k5; have K25 := K23.trans K35)
          | (go_at_call 39; refine (O2.out.same O1.out K25 K15).mono ?_; rintro e w6 ⟨rfl, k6⟩; have K16 := K15.trans k6; have K36 := K35.trans k6)
          | (go_at_call 37; refine (O1.out.iChainOf hC.out l.owner HC.out K16).mono ?_; rintro e w7 ⟨v7, rfl, o7, k7⟩; have K17 := K16.trans k7; obtain ⟨a7, c7, e7, N7, l7, l7'⟩ := OwnN.ns o7; subst e7)
          | (go_at_call 40; refine (within_any a7 c7 C no _ (Nat.le_trans l7 l7') N7).mono ?_; rintro e w8 ⟨rfl, k8⟩; rw [Hc.out]; have K18 := K17.trans k8))
        go_ret
        exact ⟨rfl, K1.out.trans K18⟩
      · have e1 : h = 1 := by rw [← Hh.out]; exact ha
        subst e1 hi
        obtain ⟨d, hd⟩ := R.out.chain l.owner
        rw [chainL_is R.out hd] at hc
        have hW2 := R.out.waited hl h0 hno hw hd (hasB_no.1 hc)
        rw [← he, HN.out] at hW2
        have hE := hW2.2
        have eix : waitIx N no = some j := by rw [← HN.out, he]; exact (waited_ix hl hw).2
        have wa1 : Hid (waitAt N no = (j : Int)) := by show _ = _; simp [waitAt, eix]
        have eC : Hid (chainL N no = no :: d) := chainL_is RN.out hE
        obtain ⟨q1, Hq1⟩ : ∃ q1, Hid (d.length = q1) := ⟨_, rfl⟩
        have hq1 : 1 ≤ q1 := by rw [← Hq1.out]; exact hd.pos
        have hq8 : q1 ≤ 8 := by rw [← Hq1.out]; have := hd.bound; rw [Hm.out] at this; omega
        have hC1 : (no :: d)[1]? = some l.owner := by rw [List.getElem?_cons_succ]; exact hd.head
        obtain ⟨y, hy⟩ := some_in (xs := no :: d) (k := q1) (by simp [Hq1.out])
        have wy : waitIx N y = none := hE.last hy (by simp [Hq1.out])
        have wa2 : Hid (waitAt N y = -1) := by show _ = _; simp [waitAt, wy]
        have hyn : (y != no) = true := by
          simp only [bne_iff_ne, ne_eq]
          rintro rfl
          have := hE.nodup (p := 0) (q := q1) rfl hy
          omega
        obtain ⟨q, Hq⟩ : ∃ q, Hid (q = q1 + 1) := ⟨_, rfl⟩
        have hlC : Hid ((no :: d).length = q) := by show _ = _; rw [Hq.out, List.length_cons, Hq1.out]
        have eq1 : IntKind.i64.wrap ((q : Int) - 1) = (q1 : Int) := by rw [Hq.out, Go.IntWalk.i64_in _ (by omega)]; omega
        have hqq : q1 < q := by rw [Hq.out]; omega
        have hqq' : (q1 : Int) < (q : Int) := by omega
        have h1q : 1 < q := by rw [Hq.out]; omega
        have h1q' : (1 : Int) < (q : Int) := by omega
        have d1 : decide (1 < q) = true := by simp; omega
        have d2 : decide ((1 : Int) < (q : Int)) = true := by simp; omega
        have n2 : ((j : Int) == (j : Int)) = true := by simp
        have n3 : (l.owner == l.owner) = true := by simp
        have n4 : ((-1 : Int) == -1) = true := by simp
        obtain ⟨hj, b, off, a', cap', rfl, r0, -, -, -⟩ := O1.out.at hl
        have hj' : (j : Int) < (mN : Int) := by omega
        have Hy : Hid ((no :: d)[q1]? = some y) := hy
        have HC1 : Hid ((no :: d)[1]? = some l.owner) := hC1
        have R0 : Hid (∀ w', Keeps w1 w' → w'.cell? ⟨b, off + j * 2, none⟩ = some (.int .i64 l.owner)) := r0
        clear he hl ha r0 hc hd hW2 hE eix hC1 hy wy hw
        go_wp2_with (first
          | (go_at_call 34; have k0 := K13; clear K13; refine (O1.out.iLocksOk hL.out hb k0).mono ?_; rintro e w4 ⟨rfl, k4⟩; have K14 := k0.trans k4)
          | (go_at_call 35; refine (O1.out.sLocksOk hb K14).mono ?_; rintro e w5 ⟨rfl, k5⟩; have K15 := K14.trans k5; have K35 := k4.trans k5; have K25 := K23.trans K35)
          | fail)
        refine (O2.out.iChainOf hC.out no eC.out K25).mono ?_
        rintro e w6 ⟨v6, rfl, o6, k6⟩
        have K16 : Hid (Keeps w1 w6) := K15.trans k6
        have K26 : Hid (Keeps w2 w6) := K25.trans k6
        obtain ⟨bc, cc, rfl, hqc, rc⟩ := OwnN.cells o6 (by simp)
        rw [hlC.out] at hqc ⊢
        have c1 : ∀ w', Keeps w6 w' → w'.cell? ⟨bc, 1, none⟩ = some (.int .i64 l.owner) := rc 1 _ HC1.out
        have c2 : ∀ w', Keeps w6 w' → w'.cell? ⟨bc, q1, none⟩ = some (.int .i64 y) := rc q1 _ Hy.out
        have c3 : ∀ w', Keeps w6 w' → w'.cell? ⟨b, off + j * 2, none⟩ = some (.int .i64 l.owner) := fun w' h => R0.out w' (K16.out.trans h)
        have A1 : Hid (∀ w', Keeps w6 w' → Calls Try.prog 38 #[.slice a2 mN c20, .int .i64 no] w' fun e w'' => e = .returned (.int .i64 (j : Int)) ∧ Keeps w' w'') := fun w' h => O2.out.iWaitAt hW.out no wa1.out (K26.out.trans h)
        have A2 : Hid (∀ w', Keeps w6 w' → Calls Try.prog 38 #[.slice a2 mN c20, .int .i64 y] w' fun e w'' => e = .returned (.int .i64 (-1)) ∧ Keeps w' w'') := fun w' h => O2.out.iWaitAt hW.out y wa2.out (K26.out.trans h)
        have A3 : Hid (∀ w', Keeps w6 w' → Calls Try.prog 34 #[.slice a2 mN c20] w' fun e w'' => e = .returned (.bool true) ∧ Keeps w' w'') := fun w' h => O2.out.iLocksOk hL.out hbN.out (K26.out.trans h)
        clear o6 rc k4 k5 k6 K14 K15 K23 K25 K35
        have kR : Keeps w6 w6 := Keeps.refl _
        go_wp2_with fail
        refine wp_region_held_drew (S := (fun w' => Keeps w6 w')) (by kernel_rfl) ?_ (fun hHeld => ?_)
        · exact (Keeps.refl w6).drew
        refine takeH 0 (v := ?_) (by simp only [opsAt]; rfl) (by kernel_rfl) (by exact fun _ _ _ h => h) (by rfl) (by assumption) ?_ ?_
        rotate_left
        · (intro w _; go_simp; try (with_reducible rfl))
        try simp only [putAtH]
        refine takeH 1 (v := ?_) (by simp only [opsAt]; rfl) (by kernel_rfl) (by exact fun _ _ _ h => h) (by rfl) (by assumption) ?_ ?_
        rotate_left
        · (intro w _; go_simp; try (with_reducible rfl))
        try simp only [putAtH]
        refine takeH 3 (v := ?_) (by simp only [opsAt]; rfl) (by kernel_rfl) (by exact fun _ _ _ h => h) (by rfl) (by assumption) ?_ ?_
        rotate_left
        · (intro w _; go_simp; try (with_reducible rfl))
        try simp only [putAtH]
        refine callH 2 (by kernel_rfl) (by simp only [opsAt]; rfl) (fun K hK => ?_)
        go_simp
        first
          | (go_at_call 38; have A0 := A1; clear A1; refine (A0.out _ (by assumption)).mono ?_; rintro e w7 ⟨rfl, k7⟩; clear A0)
          | (go_at_call 38; refine (A2.out _ (by assumption)).mono ?_; rintro e w8 ⟨rfl, k8⟩)
          | (go_at_call 34; refine (A3.out _ (by assumption)).mono ?_; rintro e w9 ⟨rfl, k9⟩)
        try go_wp2_with fail
        refine hK.out _ _ ?_ (fun hHeld => ?_)
        · exact Keeps.trans (by assumption) (by assumption)
        clear hK K
        try simp only [putAtH]
        refine takeH 4 (v := ?_) (by simp only [opsAt]; rfl) (by kernel_rfl) (by exact fun _ _ _ h => h) (by rfl) (by assumption) ?_ ?_
        rotate_left
        · (intro w _; go_simp; try (with_reducible rfl))
        try simp only [putAtH]
        refine takeH 5 (v := ?_) (by simp only [opsAt]; rfl) (by kernel_rfl) (by exact fun _ _ _ h => h) (by rfl) (by assumption) ?_ ?_
        rotate_left
        · (intro w _; go_simp; try (with_reducible rfl))
        try simp only [putAtH]
        refine takeH 6 (v := ?_) (by simp only [opsAt]; rfl) (by kernel_rfl) (by exact fun _ _ _ h => h) (by rfl) (by assumption) ?_ ?_
        rotate_left
        · (intro w _; go_simp; try (with_reducible rfl))
        try simp only [putAtH]
        refine takeH 7 (v := ?_) (by simp only [opsAt]; rfl) (by kernel_rfl) (by exact fun _ _ _ h => h) (by rfl) (by assumption) ?_ ?_
        rotate_left
        · (intro w _; go_simp; try (with_reducible rfl))
        try simp only [putAtH]
        refine takeH 8 (v := ?_) (by simp only [opsAt]; rfl) (by kernel_rfl) (by exact fun _ _ _ h => h) (by rfl) (by assumption) ?_ ?_
        rotate_left
        · (intro w _; go_simp; try (with_reducible rfl))
        try simp only [putAtH]
        refine takeH 9 (v := ?_) (by simp only [opsAt]; rfl) (by kernel_rfl) (by exact fun _ _ _ h => h) (by rfl) (by assumption) ?_ ?_
        rotate_left
        · (intro w _; go_simp; try (with_reducible rfl))
        try simp only [putAtH]
        refine takeH 10 (v := ?_) (by simp only [opsAt]; rfl) (by kernel_rfl) (by exact fun _ _ _ h => h) (by rfl) (by assumption) ?_ ?_
        rotate_left
        · (intro w _; go_simp; try (with_reducible rfl))
        try simp only [putAtH]
        refine takeH 11 (v := ?_) (by simp only [opsAt]; rfl) (by kernel_rfl) (by exact fun _ _ _ h => h) (by rfl) (by assumption) ?_ ?_
        rotate_left
        · (intro w _; go_simp; try (with_reducible rfl))
        try simp only [putAtH]
        refine takeH 12 (v := ?_) (by simp only [opsAt]; rfl) (by kernel_rfl) (by exact fun _ _ _ h => h) (by rfl) (by assumption) ?_ ?_
        rotate_left
        · (intro w _; go_simp; try (with_reducible rfl))
        try simp only [putAtH]
        refine takeH 13 (v := ?_) (by simp only [opsAt]; rfl) (by kernel_rfl) (by exact fun _ _ _ h => h) (by rfl) (by assumption) ?_ ?_
        rotate_left
        · (intro w _; go_simp; try (with_reducible rfl))
        try simp only [putAtH]
        refine takeH 14 (v := ?_) (by simp only [opsAt]; rfl) (by kernel_rfl) (by exact fun _ _ _ h => h) (by rfl) (by assumption) ?_ ?_
        rotate_left
        · (intro w _; go_simp; try (with_reducible rfl))
        try simp only [putAtH]
        refine takeH 15 (v := ?_) (by simp only [opsAt]; rfl) (by kernel_rfl) (by exact fun _ _ _ h => h) (by rfl) (by assumption) ?_ ?_
        rotate_left
        · (intro w _; go_simp; try (with_reducible rfl))
        try simp only [putAtH]
        refine takeH 16 (v := ?_) (by simp only [opsAt]; rfl) (by kernel_rfl) (by exact fun _ _ _ h => h) (by rfl) (by assumption) ?_ ?_
        rotate_left
        · (intro w _; go_simp; try (with_reducible rfl))
        try simp only [putAtH]
        refine takeH 17 (v := ?_) (by simp only [opsAt]; rfl) (by kernel_rfl) (by exact fun _ _ _ h => h) (by rfl) (by assumption) ?_ ?_
        rotate_left
        · (intro w _; go_simp; try (with_reducible rfl))
        try simp only [putAtH]
        refine takeH 18 (v := ?_) (by simp only [opsAt]; rfl) (by kernel_rfl) (by exact fun _ _ _ h => h) (by rfl) (by assumption) ?_ ?_
        rotate_left
        · (intro w _; go_simp; try (with_reducible rfl))
        try simp only [putAtH]
        refine takeH 19 (v := ?_) (by simp only [opsAt]; rfl) (by kernel_rfl) (by exact fun _ _ _ h => h) (by rfl) (by assumption) ?_ ?_
        rotate_left
        · (intro w _; go_simp; try (with_reducible rfl))
        try simp only [putAtH]
        refine takeH 20 (v := ?_) (by simp only [opsAt]; rfl) (by kernel_rfl) (by exact fun _ _ _ h => h) (by rfl) (by assumption) ?_ ?_
        rotate_left
        · (intro w _; go_simp; try (with_reducible rfl))
        try simp only [putAtH]
        refine takeH 21 (v := ?_) (by simp only [opsAt]; rfl) (by kernel_rfl) (by exact fun _ _ _ h => h) (by rfl) (by assumption) ?_ ?_
        rotate_left
        · (intro w _; go_simp; try (with_reducible rfl))
        try simp only [putAtH]
        refine takeH 22 (v := ?_) (by simp only [opsAt]; rfl) (by kernel_rfl) (by exact fun _ _ _ h => h) (by rfl) (by assumption) ?_ ?_
        rotate_left
        · (intro w _; go_simp; try (with_reducible rfl))
        try simp only [putAtH]
        refine takeH 23 (v := ?_) (by simp only [opsAt]; rfl) (by kernel_rfl) (by exact fun _ _ _ h => h) (by rfl) (by assumption) ?_ ?_
        rotate_left
        · (intro w _; go_simp; try (with_reducible rfl))
        try simp only [putAtH]
        refine takeH 24 (v := ?_) (by simp only [opsAt]; rfl) (by kernel_rfl) (by exact fun _ _ _ h => h) (by rfl) (by assumption) ?_ ?_
        rotate_left
        · (intro w _; go_simp; try (with_reducible rfl))
        try simp only [putAtH]
        refine takeH 25 (v := ?_) (by simp only [opsAt]; rfl) (by kernel_rfl) (by exact fun _ _ _ h => h) (by rfl) (by assumption) ?_ ?_
        rotate_left
        · (intro w _; go_simp; try (with_reducible rfl))
        try simp only [putAtH]
        refine takeH 26 (v := ?_) (by simp only [opsAt]; rfl) (by kernel_rfl) (by exact fun _ _ _ h => h) (by rfl) (by assumption) ?_ ?_
        rotate_left
        · (intro w _; go_simp; try (with_reducible rfl))
        try simp only [putAtH]
        refine takeH 27 (v := ?_) (by simp only [opsAt]; rfl) (by kernel_rfl) (by exact fun _ _ _ h => h) (by rfl) (by assumption) ?_ ?_
        rotate_left
        · (intro w _; go_simp; try (with_reducible rfl))
        try simp only [putAtH]
        refine takeH 28 (v := ?_) (by simp only [opsAt]; rfl) (by kernel_rfl) (by exact fun _ _ _ h => h) (by rfl) (by assumption) ?_ ?_
        rotate_left
        · (intro w _; go_simp; try (with_reducible rfl))
        try simp only [putAtH]
        refine takeH 29 (v := ?_) (by simp only [opsAt]; rfl) (by kernel_rfl) (by exact fun _ _ _ h => h) (by rfl) (by assumption) ?_ ?_
        rotate_left
        · (intro w _; go_simp; try (with_reducible rfl))
        try simp only [putAtH]
        refine takeH 30 (v := ?_) (by simp only [opsAt]; rfl) (by kernel_rfl) (by exact fun _ _ _ h => h) (by rfl) (by assumption) ?_ ?_
        rotate_left
        · (intro w _; go_simp; try (with_reducible rfl))
        try simp only [putAtH]
        refine takeH 31 (v := ?_) (by simp only [opsAt]; rfl) (by kernel_rfl) (by exact fun _ _ _ h => h) (by rfl) (by assumption) ?_ ?_
        rotate_left
        · (intro w _; go_simp; try (with_reducible rfl))
        try simp only [putAtH]
        refine takeH 32 (v := ?_) (by simp only [opsAt]; rfl) (by kernel_rfl) (by exact fun _ _ _ h => h) (by rfl) (by assumption) ?_ ?_
        rotate_left
        · (intro w _; go_simp; try (with_reducible rfl))
        try simp only [putAtH]
        refine takeH 33 (v := ?_) (by simp only [opsAt]; rfl) (by kernel_rfl) (by exact fun _ _ _ h => h) (by rfl) (by assumption) ?_ ?_
        rotate_left
        · (intro w _; go_simp; try (with_reducible rfl))
        try simp only [putAtH]
        refine takeH 34 (v := ?_) (by simp only [opsAt]; rfl) (by kernel_rfl) (by exact fun _ _ _ h => h) (by rfl) (by assumption) ?_ ?_
        rotate_left
        · (intro w _; go_simp; try (with_reducible rfl))
        try simp only [putAtH]
        refine takeH 35 (v := ?_) (by simp only [opsAt]; rfl) (by kernel_rfl) (by exact fun _ _ _ h => h) (by rfl) (by assumption) ?_ ?_
        rotate_left
        · (intro w _; go_simp; try (with_reducible rfl))
        try simp only [putAtH]
        refine takeH 36 (v := ?_) (by simp only [opsAt]; rfl) (by kernel_rfl) (by exact fun _ _ _ h => h) (by rfl) (by assumption) ?_ ?_
        rotate_left
        · (intro w _; go_simp; try (with_reducible rfl))
        try simp only [putAtH]
        refine takeH 37 (v := ?_) (by simp only [opsAt]; rfl) (by kernel_rfl) (by exact fun _ _ _ h => h) (by rfl) (by assumption) ?_ ?_
        rotate_left
        · (intro w _; go_simp; try (with_reducible rfl))
        try simp only [putAtH]
        refine takeH 38 (v := ?_) (by simp only [opsAt]; rfl) (by kernel_rfl) (by exact fun _ _ _ h => h) (by rfl) (by assumption) ?_ ?_
        rotate_left
        · (intro w _; go_simp; try (with_reducible rfl))
        try simp only [putAtH]
        refine callH 39 (by kernel_rfl) (by simp only [opsAt]; rfl) (fun K hK => ?_)
        go_simp
        first
          | (go_at_call 38; have A0 := A1; clear A1; refine (A0.out _ (by assumption)).mono ?_; rintro e w7 ⟨rfl, k7⟩; clear A0)
          | (go_at_call 38; refine (A2.out _ (by assumption)).mono ?_; rintro e w8 ⟨rfl, k8⟩)
          | (go_at_call 34; refine (A3.out _ (by assumption)).mono ?_; rintro e w9 ⟨rfl, k9⟩)
        try go_wp2_with fail
        refine hK.out _ _ ?_ (fun hHeld => ?_)
        · exact Keeps.trans (by assumption) (by assumption)
        clear hK K
        try simp only [putAtH]
        refine takeH 40 (v := ?_) (by simp only [opsAt]; rfl) (by kernel_rfl) (by exact fun _ _ _ h => h) (by rfl) (by assumption) ?_ ?_
        rotate_left
        · (intro w _; go_simp; try (with_reducible rfl))
        try simp only [putAtH]
        refine takeH 41 (v := ?_) (by simp only [opsAt]; rfl) (by kernel_rfl) (by exact fun _ _ _ h => h) (by rfl) (by assumption) ?_ ?_
        rotate_left
        · (intro w _; go_simp; try (with_reducible rfl))
        try simp only [putAtH]
        refine takeH 42 (v := ?_) (by simp only [opsAt]; rfl) (by kernel_rfl) (by exact fun _ _ _ h => h) (by rfl) (by assumption) ?_ ?_
        rotate_left
        · (intro w _; go_simp; try (with_reducible rfl))
        try simp only [putAtH]
        refine takeH 43 (v := ?_) (by simp only [opsAt]; rfl) (by kernel_rfl) (by exact fun _ _ _ h => h) (by rfl) (by assumption) ?_ ?_
        rotate_left
        · (intro w _; go_simp; try (with_reducible rfl))
        try simp only [putAtH]
        refine callH 44 (by kernel_rfl) (by simp only [opsAt]; rfl) (fun K hK => ?_)
        go_simp
        first
          | (go_at_call 38; have A0 := A1; clear A1; refine (A0.out _ (by assumption)).mono ?_; rintro e w7 ⟨rfl, k7⟩; clear A0)
          | (go_at_call 38; refine (A2.out _ (by assumption)).mono ?_; rintro e w8 ⟨rfl, k8⟩)
          | (go_at_call 34; refine (A3.out _ (by assumption)).mono ?_; rintro e w9 ⟨rfl, k9⟩)
        try go_wp2_with fail
        refine hK.out _ _ ?_ (fun hHeld => ?_)
        · exact Keeps.trans (by assumption) (by assumption)
        clear hK K
        try simp only [putAtH]
        refine takeH 45 (v := ?_) (by simp only [opsAt]; rfl) (by kernel_rfl) (by exact fun _ _ _ h => h) (by rfl) (by assumption) ?_ ?_
        rotate_left
        · (intro w _; go_simp; try (with_reducible rfl))
        try simp only [putAtH]
        refine takeH 46 (v := ?_) (by simp only [opsAt]; rfl) (by kernel_rfl) (by exact fun _ _ _ h => h) (by rfl) (by assumption) ?_ ?_
        rotate_left
        · (intro w _; go_simp; try (with_reducible rfl))
        try simp only [putAtH]
        refine wpAnyH_done (by kernel_rfl) ?_ _
        have K9 : Keeps w6 w9 := by assumption
        go_wp2
        go_ret
        exact ⟨rfl, K1.out.trans (K16.out.trans K9)⟩
  · have hd : decide (1048576 < (n : Int)) = true := by simp; omega
    go_enter Try.func7, Try.ntmps7
    go_wp2_with (go_at_call 17; refine (big_any _ _ _ _ hm).mono ?_; rintro e w0 ⟨rfl, hw0⟩; have hw2 := hw0.symm; subst hw2; rw [hd])
    go_ret
    exact ⟨rfl, Keeps.refl _⟩
end Go.Proofs.Ytioffjgnfkjmkaa
