/-
  Picking: contracts of the model's Executor, Able, CanTurn, Pick and BestOf, as they are asked.
-/
import Derived.Test.YtpikopdfkhagmaaGreatDoorPickSpec2
namespace Go.Proofs.YtpikopdfkhagmaaGreatDoor
open Go.RowKit
attribute [local go_sem] Keeps.refl Keeps.alloc Keeps.drew Keeps.drewN

set_option maxRecDepth 100000 in
set_option maxHeartbeats 4000000 in
theorem specL8Pick_any {w : World} {a : Option Addr} {n cap : Nat} {ts : List Tsk} {b : Option Addr} {m cap2 : Nat} {ls : List Lk} (h : Two w a n cap ts b m cap2 ls) (cpu : Int) :
    Calls Tryz.prog 127 #[.slice a n cap, .slice b m cap2, .int .i64 cpu] w fun e w' => e = .returned (.int .i64 (pickI ts ls cpu)) ∧ Keeps w w' := by
  have H : Hid (Two w a n cap ts b m cap2 ls) := h
  have Hn : Hid (ts.length = n) := h.t.len
  have hn : n ≤ 9223372036854775807 := by rw [← h.t.len]; have := h.t.small; unfold maxLen at this; omega
  clear h
  obtain ⟨cand, Hc⟩ : ∃ cand, Hid (candP ts ls cpu = cand) := ⟨_, rfl⟩
  have HP : Hid (pickI ts ls cpu = topN ts cand n) := by show _ = _; unfold pickI; rw [Hc.out, Hn.out]
  go_enter Tryz.func127, Tryz.ntmps127
  go_wp2
  go_loopw [7, 8] (fun at' i wr => ∃ (k : Nat) (A : Int), k ≤ n ∧ i = .int .i64 k ∧ at' = .int .i64 A ∧ Hid (topN ts cand k = A) ∧ Keeps w wr) (fun _ i _ => n - (intOf i).toNat)
  case atStart => exact ⟨0, -1, Nat.zero_le _, rfl, rfl, rfl, Keeps.refl _⟩
  case round =>
  obtain ⟨k, A, hk, rfl, rfl, HA, hK⟩ := hrel
  by_cases hlt : k < n
  · have hlt' : (k : Int) < (n : Int) := by omega
    obtain ⟨t, ht⟩ := some_at (xs := ts) (k := k) (by rw [Hn.out]; exact hlt)
    have hAr : -1 ≤ A ∧ A < k := by rw [← HA.out]; exact topN_le ts cand k
    have HS : Hid (topN ts cand (k + 1) = if (t.cpu == cpu && canB ts ls t.no) && (decide (A < 0) || befB t (ts.getD A.toNat Tsk.zero)) then (k : Int) else A) := by
      show _ = _
      simp only [topN, topS]
      rw [HA.out, getD_of ht, ← Hc.out]
      rfl
    obtain ⟨ba, off, rfl, all⟩ := H.out.t.all (by omega)
    have AL : Hid _ := all
    obtain ⟨r0, r1⟩ := all k t ht
    have Ht : Hid (ts[k]? = some t) := ht
    clear all ht
    cases c1 : (t.cpu == cpu)
    · have HT : Hid (topN ts cand (k + 1) = A) := by show _ = _; rw [HS.out, c1]; rfl
      go_wp2_with fail
      refine wp_region_held_drew (S := (fun w' => Keeps w w')) (by kernel_rfl) ?_ (fun hHeld => ?_)
      · exact Keeps.drew (by assumption)
      refine Plan.go [0, 1, 2, 3, 4, 5, 6, 7] ?_
      iterate 8 (refine takeL (by simp only [opsAt]; rfl) (by kernel_rfl) (by exact fun _ _ _ h => h) (by rfl) (by assumption) (fun w _ => by go_simp; try (with_reducible rfl)) ?_; try simp only [putAtH])
      refine Plan.nil ?_
      refine Plan.go [8, 9, 10, 11, 12, 13, 14, 15] ?_
      iterate 8 (refine skipL (by simp only [opsAt]; rfl) (by kernel_rfl) (by exact fun _ _ _ h => h) (by rfl) (by assumption) ?_; try simp only [putAtH])
      refine Plan.nil ?_
      refine Plan.go [16, 17] ?_
      iterate 2 (refine takeL (by simp only [opsAt]; rfl) (by kernel_rfl) (by exact fun _ _ _ h => h) (by rfl) (by assumption) (fun w _ => by go_simp; try (with_reducible rfl)) ?_; try simp only [putAtH])
      refine Plan.nil ?_
      refine Plan.go [18, 19, 20, 21, 22, 23, 24, 25, 26, 27, 28, 29, 30] ?_
      iterate 13 (refine skipL (by simp only [opsAt]; rfl) (by kernel_rfl) (by exact fun _ _ _ h => h) (by rfl) (by assumption) ?_; try simp only [putAtH])
      refine Plan.nil ?_
      refine takeH 31 (v := ?_) (by simp only [opsAt]; rfl) (by kernel_rfl) (by exact fun _ _ _ h => h) (by rfl) (by assumption) ?_ ?_
      rotate_left
      · (intro w _; go_simp; try (with_reducible rfl))
      try simp only [putAtH]
      refine wpAnyH_done (by kernel_rfl) ?_ _
      have K9 : Keeps w wr.drew := hK.drew
      go_wp2
      exact ⟨⟨k + 1, _, by omega, by go_num, rfl, HT, K9⟩, by simp only [intOf]; omega⟩
    cases c2 : canB ts ls t.no
    · have HT : Hid (topN ts cand (k + 1) = A) := by show _ = _; rw [HS.out, c1, c2]; rfl
      go_wp2_with fail
      refine wp_region_held_drew (S := (fun w' => Keeps w w')) (by kernel_rfl) ?_ (fun hHeld => ?_)
      · exact Keeps.drew (by assumption)
      refine Plan.go [0, 1, 2, 3, 4, 5, 6, 7, 8, 9, 10, 11, 12, 13, 14] ?_
      iterate 15 (refine takeL (by simp only [opsAt]; rfl) (by kernel_rfl) (by exact fun _ _ _ h => h) (by rfl) (by assumption) (fun w _ => by go_simp; try (with_reducible rfl)) ?_; try simp only [putAtH])
      refine Plan.nil ?_
      refine callH 15 (by kernel_rfl) (by simp only [opsAt]; rfl) (fun K hK => ?_)
      go_simp
      (go_at_call 136; refine (H.out.can t.no c2 (by assumption)).mono ?_; rintro e w5 ⟨rfl, hb5⟩)
      try go_wp2_with fail
      refine hK.out _ _ ?_ (fun hHeld => ?_)
      · exact Keeps.trans (by assumption) (by assumption)
      clear hK K
      try simp only [putAtH]
      refine Plan.go [16, 17] ?_
      iterate 2 (refine takeL (by simp only [opsAt]; rfl) (by kernel_rfl) (by exact fun _ _ _ h => h) (by rfl) (by assumption) (fun w _ => by go_simp; try (with_reducible rfl)) ?_; try simp only [putAtH])
      refine Plan.nil ?_
      refine Plan.go [18, 19, 20, 21, 22, 23, 24, 25, 26, 27, 28, 29, 30] ?_
      iterate 13 (refine skipL (by simp only [opsAt]; rfl) (by kernel_rfl) (by exact fun _ _ _ h => h) (by rfl) (by assumption) ?_; try simp only [putAtH])
      refine Plan.nil ?_
      refine takeH 31 (v := ?_) (by simp only [opsAt]; rfl) (by kernel_rfl) (by exact fun _ _ _ h => h) (by rfl) (by assumption) ?_ ?_
      rotate_left
      · (intro w _; go_simp; try (with_reducible rfl))
      try simp only [putAtH]
      refine wpAnyH_done (by kernel_rfl) ?_ _
      have K9 : Keeps w w5 := by assumption
      go_wp2
      exact ⟨⟨k + 1, _, by omega, by go_num, rfl, HT, K9⟩, by simp only [intOf]; omega⟩
    cases c3 : decide (A < 0)
    rotate_left
    · have HT : Hid (topN ts cand (k + 1) = (k : Int)) := by show _ = _; rw [HS.out, c1, c2, c3]; rfl
      go_wp2_with fail
      refine wp_region_held_drew (S := (fun w' => Keeps w w')) (by kernel_rfl) ?_ (fun hHeld => ?_)
      · exact Keeps.drew (by assumption)
      refine Plan.go [0, 1, 2, 3, 4, 5, 6, 7, 8, 9, 10, 11, 12, 13, 14] ?_
      iterate 15 (refine takeL (by simp only [opsAt]; rfl) (by kernel_rfl) (by exact fun _ _ _ h => h) (by rfl) (by assumption) (fun w _ => by go_simp; try (with_reducible rfl)) ?_; try simp only [putAtH])
      refine Plan.nil ?_
      refine callH 15 (by kernel_rfl) (by simp only [opsAt]; rfl) (fun K hK => ?_)
      go_simp
      (go_at_call 136; refine (H.out.can t.no c2 (by assumption)).mono ?_; rintro e w5 ⟨rfl, hb5⟩)
      try go_wp2_with fail
      refine hK.out _ _ ?_ (fun hHeld => ?_)
      · exact Keeps.trans (by assumption) (by assumption)
      clear hK K
      try simp only [putAtH]
      refine Plan.go [16, 17, 18, 19, 20] ?_
      iterate 5 (refine takeL (by simp only [opsAt]; rfl) (by kernel_rfl) (by exact fun _ _ _ h => h) (by rfl) (by assumption) (fun w _ => by go_simp; try (with_reducible rfl)) ?_; try simp only [putAtH])
      refine Plan.nil ?_
      refine Plan.go [21, 22, 23, 24, 25, 26, 27, 28, 29] ?_
      iterate 9 (refine skipL (by simp only [opsAt]; rfl) (by kernel_rfl) (by exact fun _ _ _ h => h) (by rfl) (by assumption) ?_; try simp only [putAtH])
      refine Plan.nil ?_
      refine Plan.go [30, 31] ?_
      iterate 2 (refine takeL (by simp only [opsAt]; rfl) (by kernel_rfl) (by exact fun _ _ _ h => h) (by rfl) (by assumption) (fun w _ => by go_simp; try (with_reducible rfl)) ?_; try simp only [putAtH])
      refine Plan.nil ?_
      refine wpAnyH_done (by kernel_rfl) ?_ _
      have K9 : Keeps w w5 := by assumption
      go_wp2
      exact ⟨⟨k + 1, _, by omega, by go_num, rfl, HT, K9⟩, by simp only [intOf]; omega⟩
    have hA0 : 0 ≤ A := by simpa using c3
    obtain ⟨j, rfl⟩ := Int.eq_ofNat_of_zero_le hA0
    have hj : j < n := by omega
    have hj' : (j : Int) < (n : Int) := by omega
    obtain ⟨u, hu⟩ := some_at (xs := ts) (k := j) (by rw [Hn.out]; exact hj)
    obtain ⟨r2, r3⟩ := AL.out j u hu
    have eu : ts.getD (j : Int).toNat Tsk.zero = u := by rw [Int.toNat_natCast]; exact getD_of hu
    rw [eu] at HS
    clear hu eu
    cases c4 : befB t u
    · have HT : Hid (topN ts cand (k + 1) = (j : Int)) := by show _ = _; rw [HS.out, c1, c2, c3, c4]; rfl
      go_wp2_with fail
      refine wp_region_held_drew (S := (fun w' => Keeps w w')) (by kernel_rfl) ?_ (fun hHeld => ?_)
      · exact Keeps.drew (by assumption)
      refine Plan.go [0, 1, 2, 3, 4, 5, 6, 7, 8, 9, 10, 11, 12, 13, 14] ?_
      iterate 15 (refine takeL (by simp only [opsAt]; rfl) (by kernel_rfl) (by exact fun _ _ _ h => h) (by rfl) (by assumption) (fun w _ => by go_simp; try (with_reducible rfl)) ?_; try simp only [putAtH])
      refine Plan.nil ?_
      refine callH 15 (by kernel_rfl) (by simp only [opsAt]; rfl) (fun K hK => ?_)
      go_simp
      first
        | (go_at_call 136; refine (H.out.can t.no c2 (by assumption)).mono ?_; rintro e w5 ⟨rfl, hb5⟩)
        | (go_at_call 119; refine (specBefore_any t u _).mono ?_; rintro e w6 ⟨rfl, hb6⟩; rw [c4])
      try go_wp2_with fail
      refine hK.out _ _ ?_ (fun hHeld => ?_)
      · exact Keeps.trans (by assumption) (by assumption)
      clear hK K
      try simp only [putAtH]
      refine Plan.go [16, 17, 18, 19, 20, 21, 22, 23, 24, 25, 26, 27, 28] ?_
      iterate 13 (refine takeL (by simp only [opsAt]; rfl) (by kernel_rfl) (by exact fun _ _ _ h => h) (by rfl) (by assumption) (fun w _ => by go_simp; try (with_reducible rfl)) ?_; try simp only [putAtH])
      refine Plan.nil ?_
      refine callH 29 (by kernel_rfl) (by simp only [opsAt]; rfl) (fun K hK => ?_)
      go_simp
      first
        | (go_at_call 136; refine (H.out.can t.no c2 (by assumption)).mono ?_; rintro e w5 ⟨rfl, hb5⟩)
        | (go_at_call 119; refine (specBefore_any t u _).mono ?_; rintro e w6 ⟨rfl, hb6⟩; rw [c4])
      try go_wp2_with fail
      refine hK.out _ _ ?_ (fun hHeld => ?_)
      · exact Keeps.trans (by assumption) (by assumption)
      clear hK K
      try simp only [putAtH]
      refine Plan.go [30, 31] ?_
      iterate 2 (refine takeL (by simp only [opsAt]; rfl) (by kernel_rfl) (by exact fun _ _ _ h => h) (by rfl) (by assumption) (fun w _ => by go_simp; try (with_reducible rfl)) ?_; try simp only [putAtH])
      refine Plan.nil ?_
      refine wpAnyH_done (by kernel_rfl) ?_ _
      have K9 : Keeps w w6 := by assumption
      go_wp2
      exact ⟨⟨k + 1, _, by omega, by go_num, rfl, HT, K9⟩, by simp only [intOf]; omega⟩
    · have HT : Hid (topN ts cand (k + 1) = (k : Int)) := by show _ = _; rw [HS.out, c1, c2, c3, c4]; rfl
      go_wp2_with fail
      refine wp_region_held_drew (S := (fun w' => Keeps w w')) (by kernel_rfl) ?_ (fun hHeld => ?_)
      · exact Keeps.drew (by assumption)
      refine Plan.go [0, 1, 2, 3, 4, 5, 6, 7, 8, 9, 10, 11, 12, 13, 14] ?_
      iterate 15 (refine takeL (by simp only [opsAt]; rfl) (by kernel_rfl) (by exact fun _ _ _ h => h) (by rfl) (by assumption) (fun w _ => by go_simp; try (with_reducible rfl)) ?_; try simp only [putAtH])
      refine Plan.nil ?_
      refine callH 15 (by kernel_rfl) (by simp only [opsAt]; rfl) (fun K hK => ?_)
      go_simp
      first
        | (go_at_call 136; refine (H.out.can t.no c2 (by assumption)).mono ?_; rintro e w5 ⟨rfl, hb5⟩)
        | (go_at_call 119; refine (specBefore_any t u _).mono ?_; rintro e w6 ⟨rfl, hb6⟩; rw [c4])
      try go_wp2_with fail
      refine hK.out _ _ ?_ (fun hHeld => ?_)
      · exact Keeps.trans (by assumption) (by assumption)
      clear hK K
      try simp only [putAtH]
      refine Plan.go [16, 17, 18, 19, 20, 21, 22, 23, 24, 25, 26, 27, 28] ?_
      iterate 13 (refine takeL (by simp only [opsAt]; rfl) (by kernel_rfl) (by exact fun _ _ _ h => h) (by rfl) (by assumption) (fun w _ => by go_simp; try (with_reducible rfl)) ?_; try simp only [putAtH])
      refine Plan.nil ?_
      refine callH 29 (by kernel_rfl) (by simp only [opsAt]; rfl) (fun K hK => ?_)
      go_simp
      first
        | (go_at_call 136; refine (H.out.can t.no c2 (by assumption)).mono ?_; rintro e w5 ⟨rfl, hb5⟩)
        | (go_at_call 119; refine (specBefore_any t u _).mono ?_; rintro e w6 ⟨rfl, hb6⟩; rw [c4])
      try go_wp2_with fail
      refine hK.out _ _ ?_ (fun hHeld => ?_)
      · exact Keeps.trans (by assumption) (by assumption)
      clear hK K
      try simp only [putAtH]
      refine Plan.go [30, 31] ?_
      iterate 2 (refine takeL (by simp only [opsAt]; rfl) (by kernel_rfl) (by exact fun _ _ _ h => h) (by rfl) (by assumption) (fun w _ => by go_simp; try (with_reducible rfl)) ?_; try simp only [putAtH])
      refine Plan.nil ?_
      refine wpAnyH_done (by kernel_rfl) ?_ _
      have K9 : Keeps w w6 := by assumption
      go_wp2
      exact ⟨⟨k + 1, _, by omega, by go_num, rfl, HT, K9⟩, by simp only [intOf]; omega⟩
  · have e : k = n := by omega
    subst e
    go_wp2
    go_ret
    exact ⟨by rw [HP.out, HA.out]; rfl, hK⟩
set_option maxRecDepth 100000 in
set_option maxHeartbeats 4000000 in
theorem specBestOf_any {w : World} {a : Option Addr} {n cap : Nat} {ts : List Tsk} (h : OnT w a n cap ts) (b : Option Addr) (cap2 : Nat) (xs : List Int) (hx : xs.length ≤ maxLen) (hs : Ns w b xs) :
    Calls Tryz.prog 100 #[.slice a n cap, .slice b xs.length cap2] w fun e w' => e = .returned (.int .i64 (bestI ts xs)) ∧ Keeps w w' := by
  have H : Hid (OnT w a n cap ts) := h
  have Hn : Hid (ts.length = n) := h.len
  have hn : n ≤ 9223372036854775807 := by rw [← h.len]; have := h.small; unfold maxLen at this; omega
  clear h
  have HX0 : Hid (∀ x w', Keeps w w' → Calls Tryz.prog 95 #[.slice b xs.length cap2, .int .i64 x] w' fun e w'' => e = .returned (.bool (hasB xs x)) ∧ Keeps w' w'') := fun x w' k => specHas_any b cap2 xs x w' hx (hs.keeps k)
  generalize hq : xs.length = q at HX0
  have Hq : Hid (xs.length = q) := hq
  clear hx hs hq
  cases hb : tasksB ts
  · have Hr : Hid (bestI ts xs = 0) := by show _ = _; simp [bestI, hb]
    go_enter Tryz.func100, Tryz.ntmps100
    go_wp2
    go_loopw [5, 6] (fun at' i wr => i = .int .i64 0 ∧ at' = .int .i64 (-1) ∧ wr = w) (fun _ _ _ => 0)
    case atStart => exact ⟨rfl, rfl, rfl⟩
    case round =>
    obtain ⟨rfl, rfl, hw⟩ := hrel
    have hw2 := hw.symm
    subst hw2
    clear hw
    by_cases hlt : 0 < n
    · have hlt' : (0 : Int) < (n : Int) := by omega
      go_wp2_with (go_at_call 66; refine (H.out.sTasksOk hb (Keeps.refl _)).mono ?_; rintro e w1 ⟨rfl, k1⟩)
      go_ret
      exact ⟨by rw [Hr.out]; rfl, k1⟩
    · have hlt' : decide ((0 : Int) < (n : Int)) = false := by simp; omega
      have hlt2 : decide (0 < n) = false := by simp; omega
      go_wp2
      go_ret
      exact ⟨by rw [Hr.out]; rfl, Keeps.refl _⟩
  obtain ⟨cand, Hc⟩ : ∃ cand, Hid (candL xs = cand) := ⟨_, rfl⟩
  have HP : Hid (bestI ts xs = noAt ts (topN ts cand n)) := by show _ = _; unfold bestI; rw [hb, Hc.out, Hn.out]; rfl
  go_enter Tryz.func100, Tryz.ntmps100
  go_wp2
  go_loopw [5, 6] (fun at' i wr => ∃ (k : Nat) (A : Int), k ≤ n ∧ i = .int .i64 k ∧ at' = .int .i64 A ∧ Hid (topN ts cand k = A) ∧ Keeps w wr) (fun _ i _ => n - (intOf i).toNat)
  case atStart => exact ⟨0, -1, Nat.zero_le _, rfl, rfl, rfl, Keeps.refl _⟩
  case round =>
  obtain ⟨k, A, hk, rfl, rfl, HA, hK⟩ := hrel
  have hAr : -1 ≤ A ∧ A < k := by rw [← HA.out]; exact topN_le ts cand k
  by_cases hlt : k < n
  · have hlt' : (k : Int) < (n : Int) := by omega
    obtain ⟨t, ht⟩ := some_at (xs := ts) (k := k) (by rw [Hn.out]; exact hlt)
    have HS : Hid (topN ts cand (k + 1) = if hasB xs t.no && (decide (A < 0) || befB t (ts.getD A.toNat Tsk.zero)) then (k : Int) else A) := by
      show _ = _
      simp only [topN, topS]
      rw [HA.out, getD_of ht, ← Hc.out]
      rfl
    obtain ⟨ba, off, rfl, all⟩ := H.out.all (by omega)
    have AL : Hid _ := all
    obtain ⟨r0, r1⟩ := all k t ht
    have Ht : Hid (ts[k]? = some t) := ht
    clear all ht
    obtain ⟨cc, Hcc⟩ : ∃ cc, Hid (hasB xs t.no = cc) := ⟨_, rfl⟩
    rw [Hcc.out] at HS
    have HX : Hid (∀ w', Keeps w w' → Calls Tryz.prog 95 #[.slice b q cap2, .int .i64 t.no] w' fun e w'' => e = .returned (.bool cc) ∧ Keeps w' w'') := fun w' k => by rw [← Hcc.out]; exact HX0.out t.no w' k
    go_wp2_with (first
      | (go_at_call 66; refine (H.out.sTasksOk hb hK).mono ?_; rintro e w1 ⟨rfl, k1⟩; have K1 := hK.trans k1)
      | fail)
    clear hK k1
    cases cc
    · have HT : Hid (topN ts cand (k + 1) = A) := by show _ = _; rw [HS.out]; rfl
      go_wp2_with fail
      refine wp_region_held_drew (S := (fun w' => Keeps w w')) (by kernel_rfl) ?_ (fun hHeld => ?_)
      · exact Keeps.drew (by assumption)
      refine Plan.go [0, 1, 2, 3, 4, 5] ?_
      iterate 6 (refine takeL (by simp only [opsAt]; rfl) (by kernel_rfl) (by exact fun _ _ _ h => h) (by rfl) (by assumption) (fun w _ => by go_simp; try (with_reducible rfl)) ?_; try simp only [putAtH])
      refine Plan.nil ?_
      refine callH 6 (by kernel_rfl) (by simp only [opsAt]; rfl) (fun K hK => ?_)
      go_simp
      (go_at_call 95; refine (HX.out _ (by assumption)).mono ?_; rintro e w5 ⟨rfl, hb5⟩)
      try go_wp2_with fail
      refine hK.out _ _ ?_ (fun hHeld => ?_)
      · exact Keeps.trans (by assumption) (by assumption)
      clear hK K
      try simp only [putAtH]
      refine takeH 7 (v := ?_) (by simp only [opsAt]; rfl) (by kernel_rfl) (by exact fun _ _ _ h => h) (by rfl) (by assumption) ?_ ?_
      rotate_left
      · (intro w _; go_simp; try (with_reducible rfl))
      try simp only [putAtH]
      refine Plan.go [8, 9, 10, 11, 12, 13, 14, 15, 16, 17, 18, 19, 20] ?_
      iterate 13 (refine skipL (by simp only [opsAt]; rfl) (by kernel_rfl) (by exact fun _ _ _ h => h) (by rfl) (by assumption) ?_; try simp only [putAtH])
      refine Plan.nil ?_
      refine takeH 21 (v := ?_) (by simp only [opsAt]; rfl) (by kernel_rfl) (by exact fun _ _ _ h => h) (by rfl) (by assumption) ?_ ?_
      rotate_left
      · (intro w _; go_simp; try (with_reducible rfl))
      try simp only [putAtH]
      refine wpAnyH_done (by kernel_rfl) ?_ _
      have K9 : Keeps w w5 := by assumption
      go_wp2
      exact ⟨⟨k + 1, _, by omega, by go_num, rfl, HT, K9⟩, by simp only [intOf]; omega⟩
    cases c3 : decide (A < 0)
    rotate_left
    · have HT : Hid (topN ts cand (k + 1) = (k : Int)) := by show _ = _; rw [HS.out, c3]; rfl
      go_wp2_with fail
      refine wp_region_held_drew (S := (fun w' => Keeps w w')) (by kernel_rfl) ?_ (fun hHeld => ?_)
      · exact Keeps.drew (by assumption)
      refine Plan.go [0, 1, 2, 3, 4, 5] ?_
      iterate 6 (refine takeL (by simp only [opsAt]; rfl) (by kernel_rfl) (by exact fun _ _ _ h => h) (by rfl) (by assumption) (fun w _ => by go_simp; try (with_reducible rfl)) ?_; try simp only [putAtH])
      refine Plan.nil ?_
      refine callH 6 (by kernel_rfl) (by simp only [opsAt]; rfl) (fun K hK => ?_)
      go_simp
      (go_at_call 95; refine (HX.out _ (by assumption)).mono ?_; rintro e w5 ⟨rfl, hb5⟩)
      try go_wp2_with fail
      refine hK.out _ _ ?_ (fun hHeld => ?_)
      · exact Keeps.trans (by assumption) (by assumption)
      clear hK K
      try simp only [putAtH]
      refine Plan.go [7, 8, 9, 10] ?_
      iterate 4 (refine takeL (by simp only [opsAt]; rfl) (by kernel_rfl) (by exact fun _ _ _ h => h) (by rfl) (by assumption) (fun w _ => by go_simp; try (with_reducible rfl)) ?_; try simp only [putAtH])
      refine Plan.nil ?_
      refine Plan.go [11, 12, 13, 14, 15, 16, 17, 18, 19] ?_
      iterate 9 (refine skipL (by simp only [opsAt]; rfl) (by kernel_rfl) (by exact fun _ _ _ h => h) (by rfl) (by assumption) ?_; try simp only [putAtH])
      refine Plan.nil ?_
      refine Plan.go [20, 21] ?_
      iterate 2 (refine takeL (by simp only [opsAt]; rfl) (by kernel_rfl) (by exact fun _ _ _ h => h) (by rfl) (by assumption) (fun w _ => by go_simp; try (with_reducible rfl)) ?_; try simp only [putAtH])
      refine Plan.nil ?_
      refine wpAnyH_done (by kernel_rfl) ?_ _
      have K9 : Keeps w w5 := by assumption
      go_wp2
      exact ⟨⟨k + 1, _, by omega, by go_num, rfl, HT, K9⟩, by simp only [intOf]; omega⟩
    have hA0 : 0 ≤ A := by simpa using c3
    obtain ⟨j, rfl⟩ := Int.eq_ofNat_of_zero_le hA0
    have hj : j < n := by omega
    have hj' : (j : Int) < (n : Int) := by omega
    obtain ⟨u, hu⟩ := some_at (xs := ts) (k := j) (by rw [Hn.out]; exact hj)
    obtain ⟨r2, r3⟩ := AL.out j u hu
    have eu : ts.getD (j : Int).toNat Tsk.zero = u := by rw [Int.toNat_natCast]; exact getD_of hu
    rw [eu] at HS
    clear hu eu
    cases c4 : befB t u
    · have HT : Hid (topN ts cand (k + 1) = (j : Int)) := by show _ = _; rw [HS.out, c3, c4]; rfl
      go_wp2_with fail
      refine wp_region_held_drew (S := (fun w' => Keeps w w')) (by kernel_rfl) ?_ (fun hHeld => ?_)
      · exact Keeps.drew (by assumption)
      refine Plan.go [0, 1, 2, 3, 4, 5] ?_
      iterate 6 (refine takeL (by simp only [opsAt]; rfl) (by kernel_rfl) (by exact fun _ _ _ h => h) (by rfl) (by assumption) (fun w _ => by go_simp; try (with_reducible rfl)) ?_; try simp only [putAtH])
      refine Plan.nil ?_
      refine callH 6 (by kernel_rfl) (by simp only [opsAt]; rfl) (fun K hK => ?_)
      go_simp
      first
        | (go_at_call 95; refine (HX.out _ (by assumption)).mono ?_; rintro e w5 ⟨rfl, hb5⟩)
        | (go_at_call 119; refine (specBefore_any t u _).mono ?_; rintro e w6 ⟨rfl, hb6⟩; rw [c4])
      try go_wp2_with fail
      refine hK.out _ _ ?_ (fun hHeld => ?_)
      · exact Keeps.trans (by assumption) (by assumption)
      clear hK K
      try simp only [putAtH]
      refine Plan.go [7, 8, 9, 10, 11, 12, 13, 14, 15, 16, 17, 18] ?_
      iterate 12 (refine takeL (by simp only [opsAt]; rfl) (by kernel_rfl) (by exact fun _ _ _ h => h) (by rfl) (by assumption) (fun w _ => by go_simp; try (with_reducible rfl)) ?_; try simp only [putAtH])
      refine Plan.nil ?_
      refine callH 19 (by kernel_rfl) (by simp only [opsAt]; rfl) (fun K hK => ?_)
      go_simp
      first
        | (go_at_call 95; refine (HX.out _ (by assumption)).mono ?_; rintro e w5 ⟨rfl, hb5⟩)
        | (go_at_call 119; refine (specBefore_any t u _).mono ?_; rintro e w6 ⟨rfl, hb6⟩; rw [c4])
      try go_wp2_with fail
      refine hK.out _ _ ?_ (fun hHeld => ?_)
      · exact Keeps.trans (by assumption) (by assumption)
      clear hK K
      try simp only [putAtH]
      refine Plan.go [20, 21] ?_
      iterate 2 (refine takeL (by simp only [opsAt]; rfl) (by kernel_rfl) (by exact fun _ _ _ h => h) (by rfl) (by assumption) (fun w _ => by go_simp; try (with_reducible rfl)) ?_; try simp only [putAtH])
      refine Plan.nil ?_
      refine wpAnyH_done (by kernel_rfl) ?_ _
      have K9 : Keeps w w6 := by assumption
      go_wp2
      exact ⟨⟨k + 1, _, by omega, by go_num, rfl, HT, K9⟩, by simp only [intOf]; omega⟩
    · have HT : Hid (topN ts cand (k + 1) = (k : Int)) := by show _ = _; rw [HS.out, c3, c4]; rfl
      go_wp2_with fail
      refine wp_region_held_drew (S := (fun w' => Keeps w w')) (by kernel_rfl) ?_ (fun hHeld => ?_)
      · exact Keeps.drew (by assumption)
      refine Plan.go [0, 1, 2, 3, 4, 5] ?_
      iterate 6 (refine takeL (by simp only [opsAt]; rfl) (by kernel_rfl) (by exact fun _ _ _ h => h) (by rfl) (by assumption) (fun w _ => by go_simp; try (with_reducible rfl)) ?_; try simp only [putAtH])
      refine Plan.nil ?_
      refine callH 6 (by kernel_rfl) (by simp only [opsAt]; rfl) (fun K hK => ?_)
      go_simp
      first
        | (go_at_call 95; refine (HX.out _ (by assumption)).mono ?_; rintro e w5 ⟨rfl, hb5⟩)
        | (go_at_call 119; refine (specBefore_any t u _).mono ?_; rintro e w6 ⟨rfl, hb6⟩; rw [c4])
      try go_wp2_with fail
      refine hK.out _ _ ?_ (fun hHeld => ?_)
      · exact Keeps.trans (by assumption) (by assumption)
      clear hK K
      try simp only [putAtH]
      refine Plan.go [7, 8, 9, 10, 11, 12, 13, 14, 15, 16, 17, 18] ?_
      iterate 12 (refine takeL (by simp only [opsAt]; rfl) (by kernel_rfl) (by exact fun _ _ _ h => h) (by rfl) (by assumption) (fun w _ => by go_simp; try (with_reducible rfl)) ?_; try simp only [putAtH])
      refine Plan.nil ?_
      refine callH 19 (by kernel_rfl) (by simp only [opsAt]; rfl) (fun K hK => ?_)
      go_simp
      first
        | (go_at_call 95; refine (HX.out _ (by assumption)).mono ?_; rintro e w5 ⟨rfl, hb5⟩)
        | (go_at_call 119; refine (specBefore_any t u _).mono ?_; rintro e w6 ⟨rfl, hb6⟩; rw [c4])
      try go_wp2_with fail
      refine hK.out _ _ ?_ (fun hHeld => ?_)
      · exact Keeps.trans (by assumption) (by assumption)
      clear hK K
      try simp only [putAtH]
      refine Plan.go [20, 21] ?_
      iterate 2 (refine takeL (by simp only [opsAt]; rfl) (by kernel_rfl) (by exact fun _ _ _ h => h) (by rfl) (by assumption) (fun w _ => by go_simp; try (with_reducible rfl)) ?_; try simp only [putAtH])
      refine Plan.nil ?_
      refine wpAnyH_done (by kernel_rfl) ?_ _
      have K9 : Keeps w w6 := by assumption
      go_wp2
      exact ⟨⟨k + 1, _, by omega, by go_num, rfl, HT, K9⟩, by simp only [intOf]; omega⟩
  · have e : k = n := by omega
    subst e
    have hlt' : decide ((k : Int) < (k : Int)) = false := by simp
    cases c3 : decide (A < 0)
    rotate_left
    · have Hr : Hid (bestI ts xs = 0) := by show _ = _; rw [HP.out, HA.out]; unfold noAt; rw [if_pos (of_decide_eq_true c3)]
      go_wp2
      go_ret
      exact ⟨by rw [Hr.out]; rfl, hK⟩
    · have hA0 : 0 ≤ A := by simpa using c3
      obtain ⟨j, rfl⟩ := Int.eq_ofNat_of_zero_le hA0
      have hj : j < k := by omega
      have hj' : (j : Int) < (k : Int) := by omega
      obtain ⟨u, hu⟩ := some_at (xs := ts) (k := j) (by rw [Hn.out]; exact hj)
      have Hr : Hid (bestI ts xs = u.no) := by show _ = _; rw [HP.out, HA.out]; unfold noAt; rw [if_neg (of_decide_eq_false c3), Int.toNat_natCast, getD_of hu]
      obtain ⟨ba, off, rfl, all⟩ := H.out.all (by omega)
      obtain ⟨r0, r1⟩ := all j u hu
      clear all hu
      go_wp2
      go_ret
      exact ⟨by rw [Hr.out]; rfl, hK⟩
end Go.Proofs.YtpikopdfkhagmaaGreatDoor
