/-
  The walk of FnFreed, over contracts of the program's functions.
-/
import Derived.Test.YtioffjgnfkjmkaaAskedLaw
namespace Go.Proofs.Ytioffjgnfkjmkaa
open Go.RowKit
attribute [local go_sem] Keeps.refl Keeps.alloc Keeps.drew Keeps.drewN

/-- What freeing right locks comes to. -/
theorem freedTo {ls : List Lk} (R : Right ls) (i no next : Int) : (freeB ls i no next = false ∧ freeL ls i no next = ls) ∨ ∃ (j : Nat) (l : Lk), i = (j : Int) ∧ ls[j]? = some l ∧ freeB ls i no next = true ∧ freeL ls i no next = ls.set j ⟨next, lessL l.waits next⟩ ∧ Right (ls.set j ⟨next, lessL l.waits next⟩) ∧ (next = 0 ∨ waitIx (ls.set j ⟨next, lessL l.waits next⟩) next = none) := by
  have hb := right_iff.2 R
  cases h : freeB ls i no next
  · exact .inl ⟨rfl, by unfold freeL; rw [hb, h]; rfl⟩
  · have h' := h
    unfold freeB at h'
    simp only [Bool.and_eq_true] at h'
    obtain ⟨-, h1, -, -, h4⟩ := h'
    obtain ⟨g0, g1⟩ := inB_iff.1 h1
    obtain ⟨j, rfl⟩ : ∃ j : Nat, i = (j : Int) := ⟨i.toNat, by omega⟩
    have hl : ls[j]? = some ls[j] := List.getElem?_eq_getElem (by omega)
    have e : freeL ls (j : Int) no next = ls.set j ⟨next, lessL ls[j].waits next⟩ := by
      unfold freeL
      rw [hb, h, Int.toNat_natCast]
      exact modifySet hl _
    refine .inr ⟨j, ls[j], rfl, hl, rfl, e, ?_⟩
    rw [Int.toNat_natCast] at h4
    have ew : waitsAt ls j = ls[j].waits := by simp [waitsAt, hl]
    rw [ew] at h4
    unfold mayNext at h4
    split at h4
    · rename_i h5
      have hw : ls[j].waits = [] := by simpa using h5
      have h0 : next = 0 := by simpa using h4
      subst h0
      rw [hw]
      exact ⟨R.owned hl hw ⟨by omega, by omega⟩, .inl rfl⟩
    · exact ⟨R.freed hl h4, .inr (freed_ix R hl h4).2⟩

set_option maxRecDepth 100000 in
set_option maxHeartbeats 8000000 in
theorem freed_walk (HF : SaysLockFree) (HL : SaysLocksOk) (HW : SaysWaitAt) (a : Option Addr) (n cap : Nat) (w : World) (hm : n ≤ maxLen) (hb : ∀ g, w.heap.size ≤ g → Bytes g w a n) :
    Calls Try.prog 8 #[.slice a n cap] w fun e w' => e = .returned (.bool true) ∧ Keeps w w' := by
  have hF : Hid SaysLockFree := HF
  have hL : Hid SaysLocksOk := HL
  have hW : Hid SaysWaitAt := HW
  clear HF HL HW
  by_cases hn : n ≤ 1048576
  · have hd : decide (1048576 < (n : Int)) = false := by simp; omega
    go_enter Try.func8, Try.ntmps8
    go_wp2_with fail
    refine (big_any _ _ _ _ hm).mono ?_
    rintro e w0 ⟨rfl, hw0⟩
    have hw2 := hw0.symm
    subst hw2
    clear hw0
    rw [hd]
    go_wp2_with fail
    refine (drawLockFree_any _ _ _ _ hn hb).mono ?_
    rintro e w1 ⟨v, ls, i, no, nx, rfl, D⟩
    clear hd hb
    obtain ⟨a1, c1, rfl, o1⟩ := D.on
    have hpos := D.pos
    have hle := D.le
    have hsz : Hid (sizeN ls ≤ 17) := D.size
    have K1 : Hid (Keeps w w1) := D.keep
    clear D
    obtain ⟨m, Hm⟩ : ∃ m, Hid (ls.length = m) := ⟨_, rfl⟩
    rw [Hm.out] at hpos hle o1 ⊢
    have O1 : Hid (On w1 a1 m c1 ls) := o1
    clear o1
    obtain ⟨h, Hh⟩ : ∃ h, Hid (freeB ls i no nx = h) := ⟨_, rfl⟩
    obtain ⟨N, HN⟩ : ∃ N, Hid (freeL ls i no nx = N) := ⟨_, rfl⟩
    obtain ⟨mN, HmN⟩ : ∃ mN, Hid (N.length = mN) := ⟨_, rfl⟩
    go_wp2_with fail
    have q2 := hF.out a1 c1 ls i no nx w1 O1.out.size (by rw [Hm.out]; exact O1.out.pl) O1.out.lks
    rw [Hm.out, Hh.out, HN.out] at q2
    refine q2.mono ?_
    clear q2
    rintro e w2 ⟨v2, vs2, rfl, M2, k2⟩
    have hsN : sizeN N ≤ 2097152 := by rw [← HN.out]; have := freeL_size ls i no nx; have := hsz.out; omega
    obtain ⟨a2, c20, rfl, o2⟩ := On.of M2 hsN
    rw [HmN.out] at o2 ⊢
    have O2 : Hid (On w2 a2 mN c20 N) := o2
    clear o2 M2 hsN vs2
    go_wp2_with fail
    have q3 := specLockFree_any a1 c1 ls i no nx w2 O1.out.size (O1.out.keeps k2).lks
    rw [Hm.out, Hh.out] at q3
    refine q3.mono ?_
    clear q3
    rintro e w3 ⟨v3, vs3, rfl, -, k3⟩
    have K13 : Keeps w1 w3 := k2.trans k3
    have K23 : Keeps w2 w3 := k3
    clear k2 k3
    have n0 : (h != h) = false := by simp
    cases hb : locksB ls
    · have e1 : h = false := by rw [← Hh.out]; simp [freeB, hb]
      have e2 : Hid (N = []) := by show _ = _; rw [← HN.out]; simp [freeL, hb]
      have e3 : mN = 0 := by rw [← HmN.out, e2.out]; rfl
      subst e1 e3
      go_wp2
      go_ret
      exact ⟨rfl, K1.out.trans K13⟩
    · have R : Hid (Right ls) := right_iff.1 hb
      rcases freedTo R.out i no nx with ⟨hf, he⟩ | ⟨j, l, hi, hl, hf, he, RN, hnx⟩
      · have e1 : N = ls := by rw [← HN.out]; exact he
        have e2 : h = false := by rw [← Hh.out]; exact hf
        subst e1 e2
        have e3 : m = mN := by rw [← HmN.out, ← Hm.out]
        subst e3
        have n2 : ((m : Int) == 0) = false := by simp; omega
        have n3 : (m == 0) = false := by simp; omega
        go_wp2_with (go_at_call 39; refine (O2.out.same O1.out K23 K13).mono ?_; rintro e w6 ⟨rfl, k6⟩; have K16 := K13.trans k6)
        go_ret
        exact ⟨rfl, K1.out.trans K16⟩
      · have e2 : h = true := by rw [← Hh.out]; exact hf
        subst e2 hi
        rw [← he, HN.out] at RN
        have hbN : Hid (locksB N = true) := right_iff.2 RN
        have eN : N = ls.set j ⟨nx, lessL l.waits nx⟩ := by rw [← HN.out]; exact he
        have e3 : m = mN := by rw [← HmN.out, ← Hm.out, eN]; simp
        subst e3
        have hjm : j < m := by rw [← Hm.out]; exact lt_of_some hl
        have hnx' : Hid (nx = 0 ∨ waitAt N nx = -1) := by
          rcases hnx with h | h
          · exact .inl h
          · rw [← eN] at h; exact .inr (by simp [waitAt, h])
        have eNj : Hid (N[j]? = some ⟨nx, lessL l.waits nx⟩) := by show _ = _; rw [eN]; exact List.getElem?_set_self (lt_of_some hl)
        have eNk : Hid (∀ k, k ≠ j → N[k]? = ls[k]?) := fun k hk => by rw [eN]; exact List.getElem?_set_ne (Ne.symm hk)
        have Hl : Hid (ls[j]? = some l) := hl
        clear RN eN he hf hnx hl
        obtain ⟨b1, off1, rfl, A1⟩ := O1.out.all (by omega)
        obtain ⟨b2, off2, rfl, A2⟩ := O2.out.all (by omega)
        have HA1 : Hid _ := A1
        have HA2 : Hid _ := A2
        clear A1 A2
        have hjm' : (j : Int) < (m : Int) := by omega
        go_wp2
        go_loopw [11] (fun i wr => ∃ k : Nat, k ≤ m ∧ i = .int .i64 k ∧ Keeps w3 wr) (fun i _ => m - (intOf i).toNat)
        case atStart => exact ⟨0, Nat.zero_le _, rfl, Keeps.refl _⟩
        case round =>
          obtain ⟨k, hk, rfl, hK⟩ := hrel
          by_cases hlt : k < m
          · have hlt' : (k : Int) < (m : Int) := by omega
            by_cases hkj : k = j
            · subst hkj
              have nn : ((k : Int) != (k : Int)) = false := by simp
              go_wp2_with fail
              refine wp_region_held_drew (S := (fun w' => Keeps w3 w')) (by kernel_rfl) ?_ (fun hHeld => ?_)
              · exact Keeps.drew (by assumption)
              refine takeH 0 (v := ?_) (by simp only [opsAt]; rfl) (by kernel_rfl) (by exact fun _ _ _ h => h) (by rfl) (by assumption) ?_ ?_
              rotate_left
              · (intro w _; go_simp; try (with_reducible rfl))
              try simp only [putAtH]
              refine takeH 1 (v := ?_) (by simp only [opsAt]; rfl) (by kernel_rfl) (by exact fun _ _ _ h => h) (by rfl) (by assumption) ?_ ?_
              rotate_left
              · (intro w _; go_simp; try (with_reducible rfl))
              try simp only [putAtH]
              refine takeH 2 (v := ?_) (by simp only [opsAt]; rfl) (by kernel_rfl) (by exact fun _ _ _ h => h) (by rfl) (by assumption) ?_ ?_
              rotate_left
              · (intro w _; go_simp; try (with_reducible rfl))
              try simp only [putAtH]
              refine takeH 3 (v := ?_) (by simp only [opsAt]; rfl) (by kernel_rfl) (by exact fun _ _ _ h => h) (by rfl) (by assumption) ?_ ?_
              rotate_left
              · (intro w _; go_simp; try (with_reducible rfl))
              try simp only [putAtH]
              refine skipH 4 (by simp only [opsAt]; rfl) (by kernel_rfl) (by exact fun _ _ _ h => h) (by rfl) (by assumption) ?_
              try simp only [putAtH]
              refine skipH 5 (by simp only [opsAt]; rfl) (by kernel_rfl) (by exact fun _ _ _ h => h) (by rfl) (by assumption) ?_
              try simp only [putAtH]
              refine skipH 6 (by simp only [opsAt]; rfl) (by kernel_rfl) (by exact fun _ _ _ h => h) (by rfl) (by assumption) ?_
              try simp only [putAtH]
              refine skipH 7 (by simp only [opsAt]; rfl) (by kernel_rfl) (by exact fun _ _ _ h => h) (by rfl) (by assumption) ?_
              try simp only [putAtH]
              refine skipH 8 (by simp only [opsAt]; rfl) (by kernel_rfl) (by exact fun _ _ _ h => h) (by rfl) (by assumption) ?_
              try simp only [putAtH]
              refine skipH 9 (by simp only [opsAt]; rfl) (by kernel_rfl) (by exact fun _ _ _ h => h) (by rfl) (by assumption) ?_
              try simp only [putAtH]
              refine skipH 10 (by simp only [opsAt]; rfl) (by kernel_rfl) (by exact fun _ _ _ h => h) (by rfl) (by assumption) ?_
              try simp only [putAtH]
              refine skipH 11 (by simp only [opsAt]; rfl) (by kernel_rfl) (by exact fun _ _ _ h => h) (by rfl) (by assumption) ?_
              try simp only [putAtH]
              refine skipH 12 (by simp only [opsAt]; rfl) (by kernel_rfl) (by exact fun _ _ _ h => h) (by rfl) (by assumption) ?_
              try simp only [putAtH]
              refine skipH 13 (by simp only [opsAt]; rfl) (by kernel_rfl) (by exact fun _ _ _ h => h) (by rfl) (by assumption) ?_
              try simp only [putAtH]
              refine skipH 14 (by simp only [opsAt]; rfl) (by kernel_rfl) (by exact fun _ _ _ h => h) (by rfl) (by assumption) ?_
              try simp only [putAtH]
              refine skipH 15 (by simp only [opsAt]; rfl) (by kernel_rfl) (by exact fun _ _ _ h => h) (by rfl) (by assumption) ?_
              try simp only [putAtH]
              refine skipH 16 (by simp only [opsAt]; rfl) (by kernel_rfl) (by exact fun _ _ _ h => h) (by rfl) (by assumption) ?_
              try simp only [putAtH]
              refine skipH 17 (by simp only [opsAt]; rfl) (by kernel_rfl) (by exact fun _ _ _ h => h) (by rfl) (by assumption) ?_
              try simp only [putAtH]
              refine skipH 18 (by simp only [opsAt]; rfl) (by kernel_rfl) (by exact fun _ _ _ h => h) (by rfl) (by assumption) ?_
              try simp only [putAtH]
              refine skipH 19 (by simp only [opsAt]; rfl) (by kernel_rfl) (by exact fun _ _ _ h => h) (by rfl) (by assumption) ?_
              try simp only [putAtH]
              refine skipH 20 (by simp only [opsAt]; rfl) (by kernel_rfl) (by exact fun _ _ _ h => h) (by rfl) (by assumption) ?_
              try simp only [putAtH]
              refine skipH 21 (by simp only [opsAt]; rfl) (by kernel_rfl) (by exact fun _ _ _ h => h) (by rfl) (by assumption) ?_
              try simp only [putAtH]
              refine skipH 22 (by simp only [opsAt]; rfl) (by kernel_rfl) (by exact fun _ _ _ h => h) (by rfl) (by assumption) ?_
              try simp only [putAtH]
              refine skipH 23 (by simp only [opsAt]; rfl) (by kernel_rfl) (by exact fun _ _ _ h => h) (by rfl) (by assumption) ?_
              try simp only [putAtH]
              refine skipH 24 (by simp only [opsAt]; rfl) (by kernel_rfl) (by exact fun _ _ _ h => h) (by rfl) (by assumption) ?_
              try simp only [putAtH]
              refine skipH 25 (by simp only [opsAt]; rfl) (by kernel_rfl) (by exact fun _ _ _ h => h) (by rfl) (by assumption) ?_
              try simp only [putAtH]
              refine skipH 26 (by simp only [opsAt]; rfl) (by kernel_rfl) (by exact fun _ _ _ h => h) (by rfl) (by assumption) ?_
              try simp only [putAtH]
              refine skipH 27 (by simp only [opsAt]; rfl) (by kernel_rfl) (by exact fun _ _ _ h => h) (by rfl) (by assumption) ?_
              try simp only [putAtH]
              refine skipH 28 (by simp only [opsAt]; rfl) (by kernel_rfl) (by exact fun _ _ _ h => h) (by rfl) (by assumption) ?_
              try simp only [putAtH]
              refine takeH 29 (v := ?_) (by simp only [opsAt]; rfl) (by kernel_rfl) (by exact fun _ _ _ h => h) (by rfl) (by assumption) ?_ ?_
              rotate_left
              · (intro w _; go_simp; try (with_reducible rfl))
              try simp only [putAtH]
              refine wpAnyH_done (by kernel_rfl) ?_ _
              have Kd : Keeps w3 wr.drew := hK.drew
              go_wp2
              exact ⟨⟨k + 1, by omega, by go_num, Kd⟩, by simp only [intOf]; omega⟩
            · have nn : ((k : Int) != (j : Int)) = true := by simp; omega
              have nn2 : (k != j) = true := by simp; omega
              obtain ⟨l', hl'⟩ := some_in (xs := ls) (k := k) (by rw [Hm.out]; exact hlt)
              obtain ⟨a3, c3, r0, r1, hle3, N3⟩ := HA1.out k l' hl'
              obtain ⟨a4, c4, r2, r3, -, N4⟩ := HA2.out k l' (by rw [eNk.out k hkj]; exact hl')
              have s0 : ∀ w', Keeps w3 w' → w'.cell? ⟨b1, off1 + k * 2, none⟩ = some (.int .i64 l'.owner) := fun w' h => r0 w' (K13.trans h)
              have s1 : ∀ w', Keeps w3 w' → w'.cell? ⟨b1, off1 + k * 2 + 1, none⟩ = some (.slice a3 l'.waits.length c3) := fun w' h => r1 w' (K13.trans h)
              have s2 : ∀ w', Keeps w3 w' → w'.cell? ⟨b2, off2 + k * 2, none⟩ = some (.int .i64 l'.owner) := fun w' h => r2 w' (K23.trans h)
              have s3 : ∀ w', Keeps w3 w' → w'.cell? ⟨b2, off2 + k * 2 + 1, none⟩ = some (.slice a4 l'.waits.length c4) := fun w' h => r3 w' (K23.trans h)
              have SI : Hid (∀ w', Keeps w3 w' → Calls Try.prog 42 #[.slice a4 l'.waits.length c4, .slice a3 l'.waits.length c3] w' fun e w'' => e = .returned (.bool true) ∧ Keeps w' w'') := fun w' h => sameInts_same a4 a3 c4 c3 l'.waits w' hle3 (N4.keeps (K23.trans h)) (N3.keeps (K13.trans h))
              have no1 : (l'.owner != l'.owner) = false := by simp
              clear r0 r1 r2 r3 N3 N4 hl' hle3
              go_wp2_with fail
              refine wp_region_held_drew (S := (fun w' => Keeps w3 w')) (by kernel_rfl) ?_ (fun hHeld => ?_)
              · exact Keeps.drew (by assumption)
              refine takeH 0 (v := ?_) (by simp only [opsAt]; rfl) (by kernel_rfl) (by exact fun _ _ _ h => h) (by rfl) (by assumption) ?_ ?_
              rotate_left
              · (intro w _; go_simp; try (with_reducible rfl))
              try simp only [putAtH]
              refine takeH 1 (v := ?_) (by simp only [opsAt]; rfl) (by kernel_rfl) (by exact fun _ _ _ h => h) (by rfl) (by assumption) ?_ ?_
              rotate_left
              · (intro w _; go_simp; try (with_reducible rfl))
              try simp only [putAtH]
              refine takeH 2 (v := ?_) (by simp only [opsAt]; rfl) (by kernel_rfl) (by exact fun _ _ _ h => h) (by rfl) (by assumption) ?_ ?_
              rotate_left
              · (intro w _; go_simp; try (with_reducible rfl))
              try simp only [putAtH]
              refine takeH 3 (v := ?_) (by simp only [opsAt]; rfl) (by kernel_rfl) (by exact fun _ _ _ h => h) (by rfl) (by assumption) ?_ ?_
              rotate_left
              · (intro w _; go_simp; try (with_reducible rfl))
              try simp only [putAtH]
              refine takeH 4 (v := ?_) (by simp only [opsAt]; rfl) (by kernel_rfl) (by exact fun _ _ _ h => h) (by rfl) (by assumption) ?_ ?_
              rotate_left
              · (intro w _; go_simp; try (with_reducible rfl))
              try simp only [putAtH]
              refine takeH 5 (v := ?_) (by simp only [opsAt]; rfl) (by kernel_rfl) (by exact fun _ _ _ h => h) (by rfl) (by assumption) ?_ ?_
              rotate_left
              · (intro w _; go_simp; try (with_reducible rfl))
              try simp only [putAtH]
              refine takeH 6 (v := ?_) (by simp only [opsAt]; rfl) (by kernel_rfl) (by exact fun _ _ _ h => h) (by rfl) (by assumption) ?_ ?_
              rotate_left
              · (intro w _; go_simp; try (with_reducible rfl))
              try simp only [putAtH]
              refine takeH 7 (v := ?_) (by simp only [opsAt]; rfl) (by kernel_rfl) (by exact fun _ _ _ h => h) (by rfl) (by assumption) ?_ ?_
              rotate_left
              · (intro w _; go_simp; try (with_reducible rfl))
              try simp only [putAtH]
              refine takeH 8 (v := ?_) (by simp only [opsAt]; rfl) (by kernel_rfl) (by exact fun _ _ _ h => h) (by rfl) (by assumption) ?_ ?_
              rotate_left
              · (intro w _; go_simp; try (with_reducible rfl))
              try simp only [putAtH]
              refine takeH 9 (v := ?_) (by simp only [opsAt]; rfl) (by kernel_rfl) (by exact fun _ _ _ h => h) (by rfl) (by assumption) ?_ ?_
              rotate_left
              · (intro w _; go_simp; try (with_reducible rfl))
              try simp only [putAtH]
              refine takeH 10 (v := ?_) (by simp only [opsAt]; rfl) (by kernel_rfl) (by exact fun _ _ _ h => h) (by rfl) (by assumption) ?_ ?_
              rotate_left
              · (intro w _; go_simp; try (with_reducible rfl))
              try simp only [putAtH]
              refine takeH 11 (v := ?_) (by simp only [opsAt]; rfl) (by kernel_rfl) (by exact fun _ _ _ h => h) (by rfl) (by assumption) ?_ ?_
              rotate_left
              · (intro w _; go_simp; try (with_reducible rfl))
              try simp only [putAtH]
              refine takeH 12 (v := ?_) (by simp only [opsAt]; rfl) (by kernel_rfl) (by exact fun _ _ _ h => h) (by rfl) (by assumption) ?_ ?_
              rotate_left
              · (intro w _; go_simp; try (with_reducible rfl))
              try simp only [putAtH]
              refine takeH 13 (v := ?_) (by simp only [opsAt]; rfl) (by kernel_rfl) (by exact fun _ _ _ h => h) (by rfl) (by assumption) ?_ ?_
              rotate_left
              · (intro w _; go_simp; try (with_reducible rfl))
              try simp only [putAtH]
              refine takeH 14 (v := ?_) (by simp only [opsAt]; rfl) (by kernel_rfl) (by exact fun _ _ _ h => h) (by rfl) (by assumption) ?_ ?_
              rotate_left
              · (intro w _; go_simp; try (with_reducible rfl))
              try simp only [putAtH]
              refine takeH 15 (v := ?_) (by simp only [opsAt]; rfl) (by kernel_rfl) (by exact fun _ _ _ h => h) (by rfl) (by assumption) ?_ ?_
              rotate_left
              · (intro w _; go_simp; try (with_reducible rfl))
              try simp only [putAtH]
              refine takeH 16 (v := ?_) (by simp only [opsAt]; rfl) (by kernel_rfl) (by exact fun _ _ _ h => h) (by rfl) (by assumption) ?_ ?_
              rotate_left
              · (intro w _; go_simp; try (with_reducible rfl))
              try simp only [putAtH]
              refine takeH 17 (v := ?_) (by simp only [opsAt]; rfl) (by kernel_rfl) (by exact fun _ _ _ h => h) (by rfl) (by assumption) ?_ ?_
              rotate_left
              · (intro w _; go_simp; try (with_reducible rfl))
              try simp only [putAtH]
              refine takeH 18 (v := ?_) (by simp only [opsAt]; rfl) (by kernel_rfl) (by exact fun _ _ _ h => h) (by rfl) (by assumption) ?_ ?_
              rotate_left
              · (intro w _; go_simp; try (with_reducible rfl))
              try simp only [putAtH]
              refine takeH 19 (v := ?_) (by simp only [opsAt]; rfl) (by kernel_rfl) (by exact fun _ _ _ h => h) (by rfl) (by assumption) ?_ ?_
              rotate_left
              · (intro w _; go_simp; try (with_reducible rfl))
              try simp only [putAtH]
              refine takeH 20 (v := ?_) (by simp only [opsAt]; rfl) (by kernel_rfl) (by exact fun _ _ _ h => h) (by rfl) (by assumption) ?_ ?_
              rotate_left
              · (intro w _; go_simp; try (with_reducible rfl))
              try simp only [putAtH]
              refine takeH 21 (v := ?_) (by simp only [opsAt]; rfl) (by kernel_rfl) (by exact fun _ _ _ h => h) (by rfl) (by assumption) ?_ ?_
              rotate_left
              · (intro w _; go_simp; try (with_reducible rfl))
              try simp only [putAtH]
              refine takeH 22 (v := ?_) (by simp only [opsAt]; rfl) (by kernel_rfl) (by exact fun _ _ _ h => h) (by rfl) (by assumption) ?_ ?_
              rotate_left
              · (intro w _; go_simp; try (with_reducible rfl))
              try simp only [putAtH]
              refine takeH 23 (v := ?_) (by simp only [opsAt]; rfl) (by kernel_rfl) (by exact fun _ _ _ h => h) (by rfl) (by assumption) ?_ ?_
              rotate_left
              · (intro w _; go_simp; try (with_reducible rfl))
              try simp only [putAtH]
              refine takeH 24 (v := ?_) (by simp only [opsAt]; rfl) (by kernel_rfl) (by exact fun _ _ _ h => h) (by rfl) (by assumption) ?_ ?_
              rotate_left
              · (intro w _; go_simp; try (with_reducible rfl))
              try simp only [putAtH]
              refine takeH 25 (v := ?_) (by simp only [opsAt]; rfl) (by kernel_rfl) (by exact fun _ _ _ h => h) (by rfl) (by assumption) ?_ ?_
              rotate_left
              · (intro w _; go_simp; try (with_reducible rfl))
              try simp only [putAtH]
              refine callH 26 (by kernel_rfl) (by simp only [opsAt]; rfl) (fun K hK => ?_)
              go_simp
              first
                | (go_at_call 42; refine (SI.out _ (by assumption)).mono ?_; rintro e w7 ⟨rfl, hb7⟩)
              try go_wp2_with fail
              refine hK.out _ _ ?_ (fun hHeld => ?_)
              · exact Keeps.trans (by assumption) (by assumption)
              clear hK K
              try simp only [putAtH]
              refine takeH 27 (v := ?_) (by simp only [opsAt]; rfl) (by kernel_rfl) (by exact fun _ _ _ h => h) (by rfl) (by assumption) ?_ ?_
              rotate_left
              · (intro w _; go_simp; try (with_reducible rfl))
              try simp only [putAtH]
              refine takeH 28 (v := ?_) (by simp only [opsAt]; rfl) (by kernel_rfl) (by exact fun _ _ _ h => h) (by rfl) (by assumption) ?_ ?_
              rotate_left
              · (intro w _; go_simp; try (with_reducible rfl))
              try simp only [putAtH]
              refine takeH 29 (v := ?_) (by simp only [opsAt]; rfl) (by kernel_rfl) (by exact fun _ _ _ h => h) (by rfl) (by assumption) ?_ ?_
              rotate_left
              · (intro w _; go_simp; try (with_reducible rfl))
              try simp only [putAtH]
              refine wpAnyH_done (by kernel_rfl) ?_ _
              have K7 : Keeps w3 w7 := by assumption
              go_wp2
              exact ⟨⟨k + 1, by omega, by go_num, K7⟩, by simp only [intOf]; omega⟩
          · obtain ⟨a3, c3, -, r1, hle3, N3⟩ := HA1.out j l Hl.out
            obtain ⟨a4, c4, r2, r3, hle4, N4⟩ := HA2.out j _ eNj.out
            have s1 : ∀ w', Keeps w3 w' → w'.cell? ⟨b1, off1 + j * 2 + 1, none⟩ = some (.slice a3 l.waits.length c3) := fun w' h => r1 w' (K13.trans h)
            have s2 : ∀ w', Keeps w3 w' → w'.cell? ⟨b2, off2 + j * 2, none⟩ = some (.int .i64 nx) := fun w' h => r2 w' (K23.trans h)
            have s3 : ∀ w', Keeps w3 w' → w'.cell? ⟨b2, off2 + j * 2 + 1, none⟩ = some (.slice a4 (lessL l.waits nx).length c4) := fun w' h => r3 w' (K23.trans h)
            have HN3 : Hid (Ns w1 a3 l.waits) := N3
            have HWI : Hid (∀ x w', Keeps w3 w' → Calls Try.prog 40 #[.slice a4 (lessL l.waits nx).length c4, .int .i64 x] w' fun e w'' => e = .returned (.bool (hasB (lessL l.waits nx) x)) ∧ Keeps w' w'') := fun x w' h => within_any a4 c4 (lessL l.waits nx) x w' hle4 (N4.keeps (K23.trans h))
            clear r1 r2 r3 N3 N4 hle3 hle4
            obtain ⟨q, Hq⟩ : ∃ q, Hid (l.waits.length = q) := ⟨_, rfl⟩
            have hq17 : q ≤ 17 := by rw [← Hq.out]; have := sumW_mem Hl.out; have := hsz.out; unfold sizeN at this; omega
            rw [Hq.out] at s1
            obtain ⟨qn, Hqn⟩ : ∃ qn, Hid ((lessL l.waits nx).length = qn) := ⟨_, rfl⟩
            rw [Hqn.out] at s3 HWI
            go_wp2
            go_loopw [12] (fun i wy => ∃ k : Nat, k ≤ q ∧ i = .int .i64 k ∧ Keeps w3 wy) (fun i _ => q - (intOf i).toNat)
            case atStart => exact ⟨0, Nat.zero_le _, rfl, hK⟩
            case round =>
              obtain ⟨k2, hk2, rfl, hK2⟩ := hrel
              by_cases hlt2 : k2 < q
              · have hlt2' : (k2 : Int) < (q : Int) := by omega
                obtain ⟨x, hx⟩ := some_in (xs := l.waits) (k := k2) (by rw [Hq.out]; exact hlt2)
                obtain ⟨b3, off3, rfl, r5⟩ := HN3.out.at hx
                have s5 : ∀ w', Keeps w3 w' → w'.cell? ⟨b3, off3 + k2, none⟩ = some (.int .i64 x) := fun w' h => r5 w' (K13.trans h)
                have hin : Hid (hasB (lessL l.waits nx) x = (x != nx)) := by show _ = _; rw [hasB_less, hasB_iff.2 (List.mem_of_getElem? hx), Bool.true_and]
                clear r5 hx
                cases hxn : (x == nx)
                · have hne : (x != nx) = true := by simp only [bne, hxn]; rfl
                  have t1 : (false == true) = false := rfl
                  have hw : Hid (hasB (lessL l.waits nx) x = true) := by show _ = _; rw [hin.out, hne]
                  go_wp2_with fail
                  refine wp_region_held_drew (S := (fun w' => Keeps w3 w')) (by kernel_rfl) ?_ (fun hHeld => ?_)
                  · exact Keeps.drew (by assumption)
                  refine takeH 0 (v := ?_) (by simp only [opsAt]; rfl) (by kernel_rfl) (by exact fun _ _ _ h => h) (by rfl) (by assumption) ?_ ?_
                  rotate_left
                  · (intro w _; go_simp; try (with_reducible rfl))
                  try simp only [putAtH]
                  refine takeH 1 (v := ?_) (by simp only [opsAt]; rfl) (by kernel_rfl) (by exact fun _ _ _ h => h) (by rfl) (by assumption) ?_ ?_
                  rotate_left
                  · (intro w _; go_simp; try (with_reducible rfl))
                  try simp only [putAtH]
                  refine takeH 2 (v := ?_) (by simp only [opsAt]; rfl) (by kernel_rfl) (by exact fun _ _ _ h => h) (by rfl) (by assumption) ?_ ?_
                  rotate_left
                  · (intro w _; go_simp; try (with_reducible rfl))
                  try simp only [putAtH]
                  refine takeH 3 (v := ?_) (by simp only [opsAt]; rfl) (by kernel_rfl) (by exact fun _ _ _ h => h) (by rfl) (by assumption) ?_ ?_
                  rotate_left
                  · (intro w _; go_simp; try (with_reducible rfl))
                  try simp only [putAtH]
                  refine takeH 4 (v := ?_) (by simp only [opsAt]; rfl) (by kernel_rfl) (by exact fun _ _ _ h => h) (by rfl) (by assumption) ?_ ?_
                  rotate_left
                  · (intro w _; go_simp; try (with_reducible rfl))
                  try simp only [putAtH]
                  refine takeH 5 (v := ?_) (by simp only [opsAt]; rfl) (by kernel_rfl) (by exact fun _ _ _ h => h) (by rfl) (by assumption) ?_ ?_
                  rotate_left
                  · (intro w _; go_simp; try (with_reducible rfl))
                  try simp only [putAtH]
                  refine takeH 6 (v := ?_) (by simp only [opsAt]; rfl) (by kernel_rfl) (by exact fun _ _ _ h => h) (by rfl) (by assumption) ?_ ?_
                  rotate_left
                  · (intro w _; go_simp; try (with_reducible rfl))
                  try simp only [putAtH]
                  refine takeH 7 (v := ?_) (by simp only [opsAt]; rfl) (by kernel_rfl) (by exact fun _ _ _ h => h) (by rfl) (by assumption) ?_ ?_
                  rotate_left
                  · (intro w _; go_simp; try (with_reducible rfl))
                  try simp only [putAtH]
                  refine takeH 8 (v := ?_) (by simp only [opsAt]; rfl) (by kernel_rfl) (by exact fun _ _ _ h => h) (by rfl) (by assumption) ?_ ?_
                  rotate_left
                  · (intro w _; go_simp; try (with_reducible rfl))
                  try simp only [putAtH]
                  refine takeH 9 (v := ?_) (by simp only [opsAt]; rfl) (by kernel_rfl) (by exact fun _ _ _ h => h) (by rfl) (by assumption) ?_ ?_
                  rotate_left
                  · (intro w _; go_simp; try (with_reducible rfl))
                  try simp only [putAtH]
                  refine takeH 10 (v := ?_) (by simp only [opsAt]; rfl) (by kernel_rfl) (by exact fun _ _ _ h => h) (by rfl) (by assumption) ?_ ?_
                  rotate_left
                  · (intro w _; go_simp; try (with_reducible rfl))
                  try simp only [putAtH]
                  refine takeH 11 (v := ?_) (by simp only [opsAt]; rfl) (by kernel_rfl) (by exact fun _ _ _ h => h) (by rfl) (by assumption) ?_ ?_
                  rotate_left
                  · (intro w _; go_simp; try (with_reducible rfl))
                  try simp only [putAtH]
                  refine takeH 12 (v := ?_) (by simp only [opsAt]; rfl) (by kernel_rfl) (by exact fun _ _ _ h => h) (by rfl) (by assumption) ?_ ?_
                  rotate_left
                  · (intro w _; go_simp; try (with_reducible rfl))
                  try simp only [putAtH]
                  refine takeH 13 (v := ?_) (by simp only [opsAt]; rfl) (by kernel_rfl) (by exact fun _ _ _ h => h) (by rfl) (by assumption) ?_ ?_
                  rotate_left
                  · (intro w _; go_simp; try (with_reducible rfl))
                  try simp only [putAtH]
                  refine takeH 14 (v := ?_) (by simp only [opsAt]; rfl) (by kernel_rfl) (by exact fun _ _ _ h => h) (by rfl) (by assumption) ?_ ?_
                  rotate_left
                  · (intro w _; go_simp; try (with_reducible rfl))
                  try simp only [putAtH]
                  refine takeH 15 (v := ?_) (by simp only [opsAt]; rfl) (by kernel_rfl) (by exact fun _ _ _ h => h) (by rfl) (by assumption) ?_ ?_
                  rotate_left
                  · (intro w _; go_simp; try (with_reducible rfl))
                  try simp only [putAtH]
                  refine takeH 16 (v := ?_) (by simp only [opsAt]; rfl) (by kernel_rfl) (by exact fun _ _ _ h => h) (by rfl) (by assumption) ?_ ?_
                  rotate_left
                  · (intro w _; go_simp; try (with_reducible rfl))
                  try simp only [putAtH]
                  refine takeH 17 (v := ?_) (by simp only [opsAt]; rfl) (by kernel_rfl) (by exact fun _ _ _ h => h) (by rfl) (by assumption) ?_ ?_
                  rotate_left
                  · (intro w _; go_simp; try (with_reducible rfl))
                  try simp only [putAtH]
                  refine takeH 18 (v := ?_) (by simp only [opsAt]; rfl) (by kernel_rfl) (by exact fun _ _ _ h => h) (by rfl) (by assumption) ?_ ?_
                  rotate_left
                  · (intro w _; go_simp; try (with_reducible rfl))
                  try simp only [putAtH]
                  refine takeH 19 (v := ?_) (by simp only [opsAt]; rfl) (by kernel_rfl) (by exact fun _ _ _ h => h) (by rfl) (by assumption) ?_ ?_
                  rotate_left
                  · (intro w _; go_simp; try (with_reducible rfl))
                  try simp only [putAtH]
                  refine takeH 20 (v := ?_) (by simp only [opsAt]; rfl) (by kernel_rfl) (by exact fun _ _ _ h => h) (by rfl) (by assumption) ?_ ?_
                  rotate_left
                  · (intro w _; go_simp; try (with_reducible rfl))
                  try simp only [putAtH]
                  refine takeH 21 (v := ?_) (by simp only [opsAt]; rfl) (by kernel_rfl) (by exact fun _ _ _ h => h) (by rfl) (by assumption) ?_ ?_
                  rotate_left
                  · (intro w _; go_simp; try (with_reducible rfl))
                  try simp only [putAtH]
                  refine takeH 22 (v := ?_) (by simp only [opsAt]; rfl) (by kernel_rfl) (by exact fun _ _ _ h => h) (by rfl) (by assumption) ?_ ?_
                  rotate_left
                  · (intro w _; go_simp; try (with_reducible rfl))
                  try simp only [putAtH]
                  refine callH 23 (by kernel_rfl) (by simp only [opsAt]; rfl) (fun K hK => ?_)
                  go_simp
                  first
                    | (go_at_call 40; refine (HWI.out x _ (by assumption)).mono ?_; rintro e w8 ⟨rfl, hb8⟩; rw [hw.out])
                  try go_wp2_with fail
                  refine hK.out _ _ ?_ (fun hHeld => ?_)
                  · exact Keeps.trans (by assumption) (by assumption)
                  clear hK K
                  try simp only [putAtH]
                  refine takeH 24 (v := ?_) (by simp only [opsAt]; rfl) (by kernel_rfl) (by exact fun _ _ _ h => h) (by rfl) (by assumption) ?_ ?_
                  rotate_left
                  · (intro w _; go_simp; try (with_reducible rfl))
                  try simp only [putAtH]
                  refine wpAnyH_done (by kernel_rfl) ?_ _
                  have K8 : Keeps w3 w8 := by assumption
                  go_wp2
                  exact ⟨⟨k2 + 1, by omega, by go_num, K8⟩, by simp only [intOf]; omega⟩
                · have hne : (x != nx) = false := by simp only [bne, hxn]; rfl
                  have t1 : (true == false) = false := rfl
                  have hw : Hid (hasB (lessL l.waits nx) x = false) := by show _ = _; rw [hin.out, hne]
                  go_wp2_with fail
                  refine wp_region_held_drew (S := (fun w' => Keeps w3 w')) (by kernel_rfl) ?_ (fun hHeld => ?_)
                  · exact Keeps.drew (by assumption)
                  refine takeH 0 (v := ?_) (by simp only [opsAt]; rfl) (by kernel_rfl) (by exact fun _ _ _ h => h) (by rfl) (by assumption) ?_ ?_
                  rotate_left
                  · (intro w _; go_simp; try (with_reducible rfl))
                  try simp only [putAtH]
                  refine takeH 1 (v := ?_) (by simp only [opsAt]; rfl) (by kernel_rfl) (by exact fun _ _ _ h => h) (by rfl) (by assumption) ?_ ?_
                  rotate_left
                  · (intro w _; go_simp; try (with_reducible rfl))
                  try simp only [putAtH]
                  refine takeH 2 (v := ?_) (by simp only [opsAt]; rfl) (by kernel_rfl) (by exact fun _ _ _ h => h) (by rfl) (by assumption) ?_ ?_
                  rotate_left
                  · (intro w _; go_simp; try (with_reducible rfl))
                  try simp only [putAtH]
                  refine takeH 3 (v := ?_) (by simp only [opsAt]; rfl) (by kernel_rfl) (by exact fun _ _ _ h => h) (by rfl) (by assumption) ?_ ?_
                  rotate_left
                  · (intro w _; go_simp; try (with_reducible rfl))
                  try simp only [putAtH]
                  refine takeH 4 (v := ?_) (by simp only [opsAt]; rfl) (by kernel_rfl) (by exact fun _ _ _ h => h) (by rfl) (by assumption) ?_ ?_
                  rotate_left
                  · (intro w _; go_simp; try (with_reducible rfl))
                  try simp only [putAtH]
                  refine takeH 5 (v := ?_) (by simp only [opsAt]; rfl) (by kernel_rfl) (by exact fun _ _ _ h => h) (by rfl) (by assumption) ?_ ?_
                  rotate_left
                  · (intro w _; go_simp; try (with_reducible rfl))
                  try simp only [putAtH]
                  refine takeH 6 (v := ?_) (by simp only [opsAt]; rfl) (by kernel_rfl) (by exact fun _ _ _ h => h) (by rfl) (by assumption) ?_ ?_
                  rotate_left
                  · (intro w _; go_simp; try (with_reducible rfl))
                  try simp only [putAtH]
                  refine takeH 7 (v := ?_) (by simp only [opsAt]; rfl) (by kernel_rfl) (by exact fun _ _ _ h => h) (by rfl) (by assumption) ?_ ?_
                  rotate_left
                  · (intro w _; go_simp; try (with_reducible rfl))
                  try simp only [putAtH]
                  refine takeH 8 (v := ?_) (by simp only [opsAt]; rfl) (by kernel_rfl) (by exact fun _ _ _ h => h) (by rfl) (by assumption) ?_ ?_
                  rotate_left
                  · (intro w _; go_simp; try (with_reducible rfl))
                  try simp only [putAtH]
                  refine takeH 9 (v := ?_) (by simp only [opsAt]; rfl) (by kernel_rfl) (by exact fun _ _ _ h => h) (by rfl) (by assumption) ?_ ?_
                  rotate_left
                  · (intro w _; go_simp; try (with_reducible rfl))
                  try simp only [putAtH]
                  refine takeH 10 (v := ?_) (by simp only [opsAt]; rfl) (by kernel_rfl) (by exact fun _ _ _ h => h) (by rfl) (by assumption) ?_ ?_
                  rotate_left
                  · (intro w _; go_simp; try (with_reducible rfl))
                  try simp only [putAtH]
                  refine takeH 11 (v := ?_) (by simp only [opsAt]; rfl) (by kernel_rfl) (by exact fun _ _ _ h => h) (by rfl) (by assumption) ?_ ?_
                  rotate_left
                  · (intro w _; go_simp; try (with_reducible rfl))
                  try simp only [putAtH]
                  refine takeH 12 (v := ?_) (by simp only [opsAt]; rfl) (by kernel_rfl) (by exact fun _ _ _ h => h) (by rfl) (by assumption) ?_ ?_
                  rotate_left
                  · (intro w _; go_simp; try (with_reducible rfl))
                  try simp only [putAtH]
                  refine takeH 13 (v := ?_) (by simp only [opsAt]; rfl) (by kernel_rfl) (by exact fun _ _ _ h => h) (by rfl) (by assumption) ?_ ?_
                  rotate_left
                  · (intro w _; go_simp; try (with_reducible rfl))
                  try simp only [putAtH]
                  refine takeH 14 (v := ?_) (by simp only [opsAt]; rfl) (by kernel_rfl) (by exact fun _ _ _ h => h) (by rfl) (by assumption) ?_ ?_
                  rotate_left
                  · (intro w _; go_simp; try (with_reducible rfl))
                  try simp only [putAtH]
                  refine takeH 15 (v := ?_) (by simp only [opsAt]; rfl) (by kernel_rfl) (by exact fun _ _ _ h => h) (by rfl) (by assumption) ?_ ?_
                  rotate_left
                  · (intro w _; go_simp; try (with_reducible rfl))
                  try simp only [putAtH]
                  refine takeH 16 (v := ?_) (by simp only [opsAt]; rfl) (by kernel_rfl) (by exact fun _ _ _ h => h) (by rfl) (by assumption) ?_ ?_
                  rotate_left
                  · (intro w _; go_simp; try (with_reducible rfl))
                  try simp only [putAtH]
                  refine takeH 17 (v := ?_) (by simp only [opsAt]; rfl) (by kernel_rfl) (by exact fun _ _ _ h => h) (by rfl) (by assumption) ?_ ?_
                  rotate_left
                  · (intro w _; go_simp; try (with_reducible rfl))
                  try simp only [putAtH]
                  refine takeH 18 (v := ?_) (by simp only [opsAt]; rfl) (by kernel_rfl) (by exact fun _ _ _ h => h) (by rfl) (by assumption) ?_ ?_
                  rotate_left
                  · (intro w _; go_simp; try (with_reducible rfl))
                  try simp only [putAtH]
                  refine takeH 19 (v := ?_) (by simp only [opsAt]; rfl) (by kernel_rfl) (by exact fun _ _ _ h => h) (by rfl) (by assumption) ?_ ?_
                  rotate_left
                  · (intro w _; go_simp; try (with_reducible rfl))
                  try simp only [putAtH]
                  refine takeH 20 (v := ?_) (by simp only [opsAt]; rfl) (by kernel_rfl) (by exact fun _ _ _ h => h) (by rfl) (by assumption) ?_ ?_
                  rotate_left
                  · (intro w _; go_simp; try (with_reducible rfl))
                  try simp only [putAtH]
                  refine takeH 21 (v := ?_) (by simp only [opsAt]; rfl) (by kernel_rfl) (by exact fun _ _ _ h => h) (by rfl) (by assumption) ?_ ?_
                  rotate_left
                  · (intro w _; go_simp; try (with_reducible rfl))
                  try simp only [putAtH]
                  refine takeH 22 (v := ?_) (by simp only [opsAt]; rfl) (by kernel_rfl) (by exact fun _ _ _ h => h) (by rfl) (by assumption) ?_ ?_
                  rotate_left
                  · (intro w _; go_simp; try (with_reducible rfl))
                  try simp only [putAtH]
                  refine callH 23 (by kernel_rfl) (by simp only [opsAt]; rfl) (fun K hK => ?_)
                  go_simp
                  first
                    | (go_at_call 40; refine (HWI.out x _ (by assumption)).mono ?_; rintro e w8 ⟨rfl, hb8⟩; rw [hw.out])
                  try go_wp2_with fail
                  refine hK.out _ _ ?_ (fun hHeld => ?_)
                  · exact Keeps.trans (by assumption) (by assumption)
                  clear hK K
                  try simp only [putAtH]
                  refine takeH 24 (v := ?_) (by simp only [opsAt]; rfl) (by kernel_rfl) (by exact fun _ _ _ h => h) (by rfl) (by assumption) ?_ ?_
                  rotate_left
                  · (intro w _; go_simp; try (with_reducible rfl))
                  try simp only [putAtH]
                  refine wpAnyH_done (by kernel_rfl) ?_ _
                  have K8 : Keeps w3 w8 := by assumption
                  go_wp2
                  exact ⟨⟨k2 + 1, by omega, by go_num, K8⟩, by simp only [intOf]; omega⟩
              · have nn : (nx == nx) = true := by simp
                have K2y := K23.trans hK2
                have K1y := K13.trans hK2
                by_cases hx0 : nx = 0
                · subst hx0
                  go_wp2_with (go_at_call 34; refine (O2.out.iLocksOk hL.out hbN.out K2y).mono ?_; rintro e w9 ⟨rfl, k9⟩; have K19 := K1y.trans k9)
                  go_ret
                  exact ⟨rfl, K1.out.trans K19⟩
                · have n4 : (nx == 0) = false := by simpa using hx0
                  have wa : Hid (waitAt N nx = -1) := by
                    rcases hnx'.out with h | h
                    · exact absurd h hx0
                    · exact h
                  go_wp2_with (first
                    | (go_at_call 34; refine (O2.out.iLocksOk hL.out hbN.out K2y).mono ?_; rintro e w9 ⟨rfl, k9⟩; have K19 := K1y.trans k9; have K29 := K2y.trans k9)
                    | (go_at_call 38; refine (O2.out.iWaitAt hW.out nx wa.out K29).mono ?_; rintro e w10 ⟨rfl, k10⟩; have K110 := K19.trans k10))
                  go_ret
                  exact ⟨rfl, K1.out.trans K110⟩
  · have hd : decide (1048576 < (n : Int)) = true := by simp; omega
    go_enter Try.func8, Try.ntmps8
    go_wp2_with (go_at_call 17; refine (big_any _ _ _ _ hm).mono ?_; rintro e w0 ⟨rfl, hw0⟩; have hw2 := hw0.symm; subst hw2; rw [hd])
    go_ret
    exact ⟨rfl, Keeps.refl _⟩
end Go.Proofs.Ytioffjgnfkjmkaa
