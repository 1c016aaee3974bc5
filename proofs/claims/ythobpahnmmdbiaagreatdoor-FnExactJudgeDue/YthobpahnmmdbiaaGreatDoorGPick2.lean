/-
  Picking: contracts of the model's Executor, Able, CanTurn, Pick and BestOf, as they are asked.
  The walks of the exact laws of chapter 8, over contracts of the program's functions.
-/
import Derived.Test.YthobpahnmmdbiaaGreatDoorGPick1
import Derived.Test.YthobpahnmmdbiaaGreatDoorGLock4
import Derived.Test.YthobpahnmmdbiaaGreatDoorGLock3
import Derived.Test.YthobpahnmmdbiaaGreatDoorGTask3
namespace Go.Proofs.YthobpahnmmdbiaaGreatDoor
open Go.RowKit
attribute [local go_sem] Keeps.refl Keeps.alloc Keeps.drew Keeps.drewN

set_option maxRecDepth 100000 in
set_option maxHeartbeats 4000000 in
theorem specL8Pick_any {w : World} {a : Option Addr} {n cap : Nat} {ts : List Tsk} {b : Option Addr} {m cap2 : Nat} {ls : List Lk} (h : Two w a n cap ts b m cap2 ls) (cpu : Int) :
    Calls Tryz.prog 36 #[.slice a n cap, .slice b m cap2, .int .i64 cpu] w fun e w' => e = .returned (.int .i64 (pickI ts ls cpu)) ∧ Keeps w w' := by
  have H : Hid (Two w a n cap ts b m cap2 ls) := h
  have Hn : Hid (ts.length = n) := h.t.len
  have hn : n ≤ 9223372036854775807 := by rw [← h.t.len]; have := h.t.small; unfold maxLen at this; omega
  clear h
  obtain ⟨cand, Hc⟩ : ∃ cand, Hid (candP ts ls cpu = cand) := ⟨_, rfl⟩
  have HP : Hid (pickI ts ls cpu = topN ts cand n) := by show _ = _; unfold pickI; rw [Hc.out, Hn.out]
  go_enter Tryz.func36, Tryz.ntmps36
  go_wp2
  go_loopw [7, 8] (fun at' i wr => ∃ (k : Nat) (A : Int), k ≤ n ∧ i = .int .i64 k ∧ at' = .int .i64 A ∧ Hid (topN ts cand k = A) ∧ Keeps w wr) (fun _ i _ => n - (intOf i).toNat)
  case atStart => exact ⟨0, -1, Nat.zero_le _, rfl, rfl, rfl, Keeps.refl _⟩
  case round =>
  obtain ⟨k, A, hk, rfl, rfl, HA, hK⟩ := hrel
  by_cases hlt : k < n
  · have hlt' : (k : Int) < (n : Int) := by omega
    obtain ⟨t, ht⟩ := some_at (xs := ts) (k := k) (by rw [Hn.out]; exact hlt)
    have hAr : -1 ≤ A ∧ A < k := by rw [← HA.out]; exact topN_le ts cand k
    have HS : Hid (topN ts cand (k + 1) = if (t.cpu == cpu && canB ts ls t.no) && (decide (A < 0) || befB t (ts.getD A.toNat Tsk.zero)) then (k : Int) else A) := by
      show _ = _
      simp only [topN, topS]
      rw [HA.out, getD_of ht, ← Hc.out]
      rfl
    obtain ⟨ba, off, rfl, all⟩ := H.out.t.all (by omega)
    have AL : Hid _ := all
    obtain ⟨r0, r1⟩ := all k t ht
    have Ht : Hid (ts[k]? = some t) := ht
    clear all ht
    cases c1 : (t.cpu == cpu)
    · have HT : Hid (topN ts cand (k + 1) = A) := by show _ = _; rw [HS.out, c1]; rfl
      go_wp2_with fail
      refine wp_region_held_drew (S := (fun w' => Keeps w w')) (by kernel_rfl) ?_ (fun hHeld => ?_)
      · exact Keeps.drew (by assumption)
      refine Plan.go [0, 1, 2, 3, 4, 5, 6, 7] ?_
      iterate 8 (refine takeL (by simp only [opsAt]; rfl) (by kernel_rfl) (by exact fun _ _ _ h => h) (by rfl) (by assumption) (fun w _ => by go_simp; try (with_reducible rfl)) ?_; try simp only [putAtH])
      refine Plan.nil ?_
      refine Plan.go [8, 9, 10, 11, 12, 13, 14, 15] ?_
      iterate 8 (refine skipL (by simp only [opsAt]; rfl) (by kernel_rfl) (by exact fun _ _ _ h => h) (by rfl) (by assumption) ?_; try simp only [putAtH])
      refine Plan.nil ?_
      refine Plan.go [16, 17] ?_
      iterate 2 (refine takeL (by simp only [opsAt]; rfl) (by kernel_rfl) (by exact fun _ _ _ h => h) (by rfl) (by assumption) (fun w _ => by go_simp; try (with_reducible rfl)) ?_; try simp only [putAtH])
      refine Plan.nil ?_
      refine Plan.go [18, 19, 20, 21, 22, 23, 24, 25, 26, 27, 28, 29, 30] ?_
      iterate 13 (refine skipL (by simp only [opsAt]; rfl) (by kernel_rfl) (by exact fun _ _ _ h => h) (by rfl) (by assumption) ?_; try simp only [putAtH])
      refine Plan.nil ?_
      refine takeH 31 (v := ?_) (by simp only [opsAt]; rfl) (by kernel_rfl) (by exact fun _ _ _ h => h) (by rfl) (by assumption) ?_ ?_
      rotate_left
      · (intro w _; go_simp; try (with_reducible rfl))
      try simp only [putAtH]
      refine wpAnyH_done (by kernel_rfl) ?_ _
      have K9 : Keeps w wr.drew := hK.drew
      go_wp2
      exact ⟨⟨k + 1, _, by omega, by go_num, rfl, HT, K9⟩, by simp only [intOf]; omega⟩
    cases c2 : canB ts ls t.no
    · have HT : Hid (topN ts cand (k + 1) = A) := by show _ = _; rw [HS.out, c1, c2]; rfl
      go_wp2_with fail
      refine wp_region_held_drew (S := (fun w' => Keeps w w')) (by kernel_rfl) ?_ (fun hHeld => ?_)
      · exact Keeps.drew (by assumption)
      refine Plan.go [0, 1, 2, 3, 4, 5, 6, 7, 8, 9, 10, 11, 12, 13, 14] ?_
      iterate 15 (refine takeL (by simp only [opsAt]; rfl) (by kernel_rfl) (by exact fun _ _ _ h => h) (by rfl) (by assumption) (fun w _ => by go_simp; try (with_reducible rfl)) ?_; try simp only [putAtH])
      refine Plan.nil ?_
      refine callH 15 (by kernel_rfl) (by simp only [opsAt]; rfl) (fun K hK => ?_)
      go_simp
      (go_at_call 37; refine (H.out.can t.no c2 (by assumption)).mono ?_; rintro e w5 ⟨rfl, hb5⟩)
      try go_wp2_with fail
      refine hK.out _ _ ?_ (fun hHeld => ?_)
      · exact Keeps.trans (by assumption) (by assumption)
      clear hK K
      try simp only [putAtH]
      refine Plan.go [16, 17] ?_
      iterate 2 (refine takeL (by simp only [opsAt]; rfl) (by kernel_rfl) (by exact fun _ _ _ h => h) (by rfl) (by assumption) (fun w _ => by go_simp; try (with_reducible rfl)) ?_; try simp only [putAtH])
      refine Plan.nil ?_
      refine Plan.go [18, 19, 20, 21, 22, 23, 24, 25, 26, 27, 28, 29, 30] ?_
      iterate 13 (refine skipL (by simp only [opsAt]; rfl) (by kernel_rfl) (by exact fun _ _ _ h => h) (by rfl) (by assumption) ?_; try simp only [putAtH])
      refine Plan.nil ?_
      refine takeH 31 (v := ?_) (by simp only [opsAt]; rfl) (by kernel_rfl) (by exact fun _ _ _ h => h) (by rfl) (by assumption) ?_ ?_
      rotate_left
      · (intro w _; go_simp; try (with_reducible rfl))
      try simp only [putAtH]
      refine wpAnyH_done (by kernel_rfl) ?_ _
      have K9 : Keeps w w5 := by assumption
      go_wp2
      exact ⟨⟨k + 1, _, by omega, by go_num, rfl, HT, K9⟩, by simp only [intOf]; omega⟩
    cases c3 : decide (A < 0)
    rotate_left
    · have HT : Hid (topN ts cand (k + 1) = (k : Int)) := by show _ = _; rw [HS.out, c1, c2, c3]; rfl
      go_wp2_with fail
      refine wp_region_held_drew (S := (fun w' => Keeps w w')) (by kernel_rfl) ?_ (fun hHeld => ?_)
      · exact Keeps.drew (by assumption)
      refine Plan.go [0, 1, 2, 3, 4, 5, 6, 7, 8, 9, 10, 11, 12, 13, 14] ?_
      iterate 15 (refine takeL (by simp only [opsAt]; rfl) (by kernel_rfl) (by exact fun _ _ _ h => h) (by rfl) (by assumption) (fun w _ => by go_simp; try (with_reducible rfl)) ?_; try simp only [putAtH])
      refine Plan.nil ?_
      refine callH 15 (by kernel_rfl) (by simp only [opsAt]; rfl) (fun K hK => ?_)
      go_simp
      (go_at_call 37; refine (H.out.can t.no c2 (by assumption)).mono ?_; rintro e w5 ⟨rfl, hb5⟩)
      try go_wp2_with fail
      refine hK.out _ _ ?_ (fun hHeld => ?_)
      · exact Keeps.trans (by assumption) (by assumption)
      clear hK K
      try simp only [putAtH]
      refine Plan.go [16, 17, 18, 19, 20] ?_
      iterate 5 (refine takeL (by simp only [opsAt]; rfl) (by kernel_rfl) (by exact fun _ _ _ h => h) (by rfl) (by assumption) (fun w _ => by go_simp; try (with_reducible rfl)) ?_; try simp only [putAtH])
      refine Plan.nil ?_
      refine Plan.go [21, 22, 23, 24, 25, 26, 27, 28, 29] ?_
      iterate 9 (refine skipL (by simp only [opsAt]; rfl) (by kernel_rfl) (by exact fun _ _ _ h => h) (by rfl) (by assumption) ?_; try simp only [putAtH])
      refine Plan.nil ?_
      refine Plan.go [30, 31] ?_
      iterate 2 (refine takeL (by simp only [opsAt]; rfl) (by kernel_rfl) (by exact fun _ _ _ h => h) (by rfl) (by assumption) (fun w _ => by go_simp; try (with_reducible rfl)) ?_; try simp only [putAtH])
      refine Plan.nil ?_
      refine wpAnyH_done (by kernel_rfl) ?_ _
      have K9 : Keeps w w5 := by assumption
      go_wp2
      exact ⟨⟨k + 1, _, by omega, by go_num, rfl, HT, K9⟩, by simp only [intOf]; omega⟩
    have hA0 : 0 ≤ A := by simpa using c3
    obtain ⟨j, rfl⟩ := Int.eq_ofNat_of_zero_le hA0
    have hj : j < n := by omega
    have hj' : (j : Int) < (n : Int) := by omega
    obtain ⟨u, hu⟩ := some_at (xs := ts) (k := j) (by rw [Hn.out]; exact hj)
    obtain ⟨r2, r3⟩ := AL.out j u hu
    have eu : ts.getD (j : Int).toNat Tsk.zero = u := by rw [Int.toNat_natCast]; exact getD_of hu
    rw [eu] at HS
    clear hu eu
    cases c4 : befB t u
    · have HT : Hid (topN ts cand (k + 1) = (j : Int)) := by show _ = _; rw [HS.out, c1, c2, c3, c4]; rfl
      go_wp2_with fail
      refine wp_region_held_drew (S := (fun w' => Keeps w w')) (by kernel_rfl) ?_ (fun hHeld => ?_)
      · exact Keeps.drew (by assumption)
      refine Plan.go [0, 1, 2, 3, 4, 5, 6, 7, 8, 9, 10, 11, 12, 13, 14] ?_
      iterate 15 (refine takeL (by simp only [opsAt]; rfl) (by kernel_rfl) (by exact fun _ _ _ h => h) (by rfl) (by assumption) (fun w _ => by go_simp; try (with_reducible rfl)) ?_; try simp only [putAtH])
      refine Plan.nil ?_
      refine callH 15 (by kernel_rfl) (by simp only [opsAt]; rfl) (fun K hK => ?_)
      go_simp
      first
        | (go_at_call 37; refine (H.out.can t.no c2 (by assumption)).mono ?_; rintro e w5 ⟨rfl, hb5⟩)
        | (go_at_call 38; refine (specBefore_any t u _).mono ?_; rintro e w6 ⟨rfl, hb6⟩; rw [c4])
      try go_wp2_with fail
      refine hK.out _ _ ?_ (fun hHeld => ?_)
      · exact Keeps.trans (by assumption) (by assumption)
      clear hK K
      try simp only [putAtH]
      refine Plan.go [16, 17, 18, 19, 20, 21, 22, 23, 24, 25, 26, 27, 28] ?_
      iterate 13 (refine takeL (by simp only [opsAt]; rfl) (by kernel_rfl) (by exact fun _ _ _ h => h) (by rfl) (by assumption) (fun w _ => by go_simp; try (with_reducible rfl)) ?_; try simp only [putAtH])
      refine Plan.nil ?_
      refine callH 29 (by kernel_rfl) (by simp only [opsAt]; rfl) (fun K hK => ?_)
      go_simp
      first
        | (go_at_call 37; refine (H.out.can t.no c2 (by assumption)).mono ?_; rintro e w5 ⟨rfl, hb5⟩)
        | (go_at_call 38; refine (specBefore_any t u _).mono ?_; rintro e w6 ⟨rfl, hb6⟩; rw [c4])
      try go_wp2_with fail
      refine hK.out _ _ ?_ (fun hHeld => ?_)
      · exact Keeps.trans (by assumption) (by assumption)
      clear hK K
      try simp only [putAtH]
      refine Plan.go [30, 31] ?_
      iterate 2 (refine takeL (by simp only [opsAt]; rfl) (by kernel_rfl) (by exact fun _ _ _ h => h) (by rfl) (by assumption) (fun w _ => by go_simp; try (with_reducible rfl)) ?_; try simp only [putAtH])
      refine Plan.nil ?_
      refine wpAnyH_done (by kernel_rfl) ?_ _
      have K9 : Keeps w w6 := by assumption
      go_wp2
      exact ⟨⟨k + 1, _, by omega, by go_num, rfl, HT, K9⟩, by simp only [intOf]; omega⟩
    · have HT : Hid (topN ts cand (k + 1) = (k : Int)) := by show _ = _; rw [HS.out, c1, c2, c3, c4]; rfl
      go_wp2_with fail
      refine wp_region_held_drew (S := (fun w' => Keeps w w')) (by kernel_rfl) ?_ (fun hHeld => ?_)
      · exact Keeps.drew (by assumption)
      refine Plan.go [0, 1, 2, 3, 4, 5, 6, 7, 8, 9, 10, 11, 12, 13, 14] ?_
      iterate 15 (refine takeL (by simp only [opsAt]; rfl) (by kernel_rfl) (by exact fun _ _ _ h => h) (by rfl) (by assumption) (fun w _ => by go_simp; try (with_reducible rfl)) ?_; try simp only [putAtH])
      refine Plan.nil ?_
      refine callH 15 (by kernel_rfl) (by simp only [opsAt]; rfl) (fun K hK => ?_)
      go_simp
      first
        | (go_at_call 37; refine (H.out.can t.no c2 (by assumption)).mono ?_; rintro e w5 ⟨rfl, hb5⟩)
        | (go_at_call 38; refine (specBefore_any t u _).mono ?_; rintro e w6 ⟨rfl, hb6⟩; rw [c4])
      try go_wp2_with fail
      refine hK.out _ _ ?_ (fun hHeld => ?_)
      · exact Keeps.trans (by assumption) (by assumption)
      clear hK K
      try simp only [putAtH]
      refine Plan.go [16, 17, 18, 19, 20, 21, 22, 23, 24, 25, 26, 27, 28] ?_
      iterate 13 (refine takeL (by simp only [opsAt]; rfl) (by kernel_rfl) (by exact fun _ _ _ h => h) (by rfl) (by assumption) (fun w _ => by go_simp; try (with_reducible rfl)) ?_; try simp only [putAtH])
      refine Plan.nil ?_
      refine callH 29 (by kernel_rfl) (by simp only [opsAt]; rfl) (fun K hK => ?_)
      go_simp
      first
        | (go_at_call 37; refine (H.out.can t.no c2 (by assumption)).mono ?_; rintro e w5 ⟨rfl, hb5⟩)
        | (go_at_call 38; refine (specBefore_any t u _).mono ?_; rintro e w6 ⟨rfl, hb6⟩; rw [c4])
      try go_wp2_with fail
      refine hK.out _ _ ?_ (fun hHeld => ?_)
      · exact Keeps.trans (by assumption) (by assumption)
      clear hK K
      try simp only [putAtH]
      refine Plan.go [30, 31] ?_
      iterate 2 (refine takeL (by simp only [opsAt]; rfl) (by kernel_rfl) (by exact fun _ _ _ h => h) (by rfl) (by assumption) (fun w _ => by go_simp; try (with_reducible rfl)) ?_; try simp only [putAtH])
      refine Plan.nil ?_
      refine wpAnyH_done (by kernel_rfl) ?_ _
      have K9 : Keeps w w6 := by assumption
      go_wp2
      exact ⟨⟨k + 1, _, by omega, by go_num, rfl, HT, K9⟩, by simp only [intOf]; omega⟩
  · have e : k = n := by omega
    subst e
    go_wp2
    go_ret
    exact ⟨by rw [HP.out, HA.out]; rfl, hK⟩
set_option maxRecDepth 100000 in
theorem Two.pick {w w' : World} {a : Option Addr} {n cap : Nat} {ts : List Tsk} {b : Option Addr} {m cap2 : Nat} {ls : List Lk} (h : Two w a n cap ts b m cap2 ls) (cpu : Int) {z : Int} (hz : pickI ts ls cpu = z) (k : Keeps w w') :
    Calls Tryz.prog 36 #[.slice a n cap, .slice b m cap2, .int .i64 cpu] w' fun e w'' => e = .returned (.int .i64 z) ∧ Keeps w' w'' := by
  have := specL8Pick_any (h.keeps k) cpu
  rw [hz] at this
  exact this

set_option maxRecDepth 100000 in
set_option maxHeartbeats 4000000 in
theorem specPick_any {w : World} {a : Option Addr} {n cap : Nat} {ts : List Tsk} {b : Option Addr} {m cap2 : Nat} {ls : List Lk} (h : Two w a n cap ts b m cap2 ls) (cpu : Int) :
    Calls Tryz.prog 39 #[.slice a n cap, .slice b m cap2, .int .i64 cpu] w fun e w' => e = .returned (.tuple #[.int .i64 (pickNo ts ls cpu), .int .i64 (pickX ts ls cpu)]) ∧ Keeps w w' := by
  have H : Hid (Two w a n cap ts b m cap2 ls) := h
  have Hn : Hid (ts.length = n) := h.t.len
  clear h
  cases h1 : tasksB ts
  · have Hr : Hid (pickNo ts ls cpu = 0) := by show _ = _; simp [pickNo, bothB, h1]
    have Hs : Hid (pickX ts ls cpu = 0) := by show _ = _; simp [pickX, bothB, h1]
    go_enter Tryz.func39, Tryz.ntmps39
    go_wp2_with (go_at_call 41; refine (H.out.t.sTasksOk h1 (Keeps.refl _)).mono ?_; rintro e w1 ⟨rfl, k1⟩)
    go_ret2
    exact ⟨by rw [Hr.out, Hs.out]; rfl, k1⟩
  cases h2 : locksB ls
  · have Hr : Hid (pickNo ts ls cpu = 0) := by show _ = _; simp [pickNo, bothB, h2]
    have Hs : Hid (pickX ts ls cpu = 0) := by show _ = _; simp [pickX, bothB, h2]
    go_enter Tryz.func39, Tryz.ntmps39
    go_wp2_with (first
      | (go_at_call 41; refine (H.out.t.sTasksOk h1 (Keeps.refl _)).mono ?_; rintro e w1 ⟨rfl, k1⟩)
      | (go_at_call 79; refine (H.out.l.sLocksOk h2 k1).mono ?_; rintro e w2 ⟨rfl, k2⟩; have K2 := k1.trans k2))
    go_ret2
    exact ⟨by rw [Hr.out, Hs.out]; rfl, K2⟩
  obtain ⟨A, HA⟩ : ∃ A, Hid (pickI ts ls cpu = A) := ⟨_, rfl⟩
  have hAr : -1 ≤ A ∧ A < n := by rw [← HA.out, ← Hn.out]; exact topN_le ts _ _
  cases c3 : decide (A < 0)
  rotate_left
  · have Hr : Hid (pickNo ts ls cpu = 0) := by show _ = _; unfold pickNo noAt bothB; rw [h1, h2, HA.out, if_pos (of_decide_eq_true c3)]; rfl
    have Hs : Hid (pickX ts ls cpu = 0) := by show _ = _; unfold pickX bothB; rw [h1, h2, HA.out, c3]; rfl
    go_enter Tryz.func39, Tryz.ntmps39
    go_wp2_with (first
      | (go_at_call 41; refine (H.out.t.sTasksOk h1 (Keeps.refl _)).mono ?_; rintro e w1 ⟨rfl, k1⟩)
      | (go_at_call 79; refine (H.out.l.sLocksOk h2 k1).mono ?_; rintro e w2 ⟨rfl, k2⟩; have K2 := k1.trans k2)
      | (go_at_call 36; refine (H.out.pick cpu HA.out K2).mono ?_; rintro e w3 ⟨rfl, k3⟩; have K3 := K2.trans k3))
    go_ret2
    exact ⟨by rw [Hr.out, Hs.out]; rfl, K3⟩
  have hA0 : 0 ≤ A := by simpa using c3
  obtain ⟨j, rfl⟩ := Int.eq_ofNat_of_zero_le hA0
  have hj : j < n := by omega
  have hj' : (j : Int) < (n : Int) := by omega
  obtain ⟨u, hu⟩ := some_at (xs := ts) (k := j) (by rw [Hn.out]; exact hj)
  have Hu : Hid (noAt ts (j : Int) = u.no) := by show _ = _; unfold noAt; rw [if_neg (by omega), Int.toNat_natCast, getD_of hu]
  obtain ⟨x, Hx⟩ : ∃ x, Hid (execI ts ls u.no = x) := ⟨_, rfl⟩
  have Hr : Hid (pickNo ts ls cpu = u.no) := by show _ = _; unfold pickNo bothB; rw [h1, h2, HA.out, Hu.out]; rfl
  have Hs : Hid (pickX ts ls cpu = x) := by show _ = _; unfold pickX bothB; rw [h1, h2, HA.out, c3, Hu.out, Hx.out]; rfl
  obtain ⟨ba, off, rfl, all⟩ := H.out.t.all (by omega)
  obtain ⟨r0, r1⟩ := all j u hu
  clear all hu
  go_enter Tryz.func39, Tryz.ntmps39
  go_wp2_with (first
    | (go_at_call 41; refine (H.out.t.sTasksOk h1 (Keeps.refl _)).mono ?_; rintro e w1 ⟨rfl, k1⟩)
    | (go_at_call 79; refine (H.out.l.sLocksOk h2 k1).mono ?_; rintro e w2 ⟨rfl, k2⟩; have K2 := k1.trans k2)
    | (go_at_call 36; refine (H.out.pick cpu HA.out K2).mono ?_; rintro e w3 ⟨rfl, k3⟩; have K3 := K2.trans k3)
    | fail)
  refine wp_region_held_drew (S := (fun w' => Keeps w w')) (by kernel_rfl) ?_ (fun hHeld => ?_)
  · exact Keeps.drew (by assumption)
  refine Plan.go [0, 1, 2, 3, 4, 5, 6, 7, 8, 9, 10, 11] ?_
  iterate 12 (refine takeL (by simp only [opsAt]; rfl) (by kernel_rfl) (by exact fun _ _ _ h => h) (by rfl) (by assumption) (fun w _ => by go_simp; try (with_reducible rfl)) ?_; try simp only [putAtH])
  refine Plan.nil ?_
  refine callH 12 (by kernel_rfl) (by simp only [opsAt]; rfl) (fun K hK => ?_)
  go_simp
  first
    | (go_at_call 80; refine (H.out.exec u.no Hx.out (by assumption)).mono ?_; rintro e w5 ⟨rfl, hb5⟩)
  try go_wp2_with fail
  refine hK.out _ _ ?_ (fun hHeld => ?_)
  · exact Keeps.trans (by assumption) (by assumption)
  clear hK K
  try simp only [putAtH]
  refine Plan.go [13, 14] ?_
  iterate 2 (refine takeL (by simp only [opsAt]; rfl) (by kernel_rfl) (by exact fun _ _ _ h => h) (by rfl) (by assumption) (fun w _ => by go_simp; try (with_reducible rfl)) ?_; try simp only [putAtH])
  refine Plan.nil ?_
  refine wpAnyH_done (by kernel_rfl) ?_ _
  have K5 : Keeps w w5 := by assumption
  go_wp2
  go_ret2
  exact ⟨by rw [Hr.out, Hs.out]; rfl, K5⟩

end Go.Proofs.YthobpahnmmdbiaaGreatDoor
namespace Go.Proofs.YthobpahnmmdbiaaGreatDoor
open Go.RowKit
variable {p : Bool}
attribute [local go_sem] Keeps.refl Keeps.alloc Keeps.drew Keeps.drewN

/-- What the program's functions are held to. -/
def SaysBefore : Prop := ∀ (a b : Tsk) (w : World), Calls Tryz.prog 115 #[tk a, tk b] w fun e w' => e = .returned (.bool (befB a b)) ∧ Keeps w w'
def SaysExecutor : Prop := ∀ (w : World) (a : Option Addr) (n cap : Nat) (ts : List Tsk) (b : Option Addr) (m cap2 : Nat) (ls : List Lk) (no : Int), n ≤ cap → Two w a n cap ts b m cap2 ls → Calls Tryz.prog 118 #[.slice a n cap, .slice b m cap2, .int .i64 no] w fun e w' => e = .returned (.int .i64 (execP ts ls no)) ∧ Keeps w w'
def SaysAble : Prop := ∀ (w : World) (a : Option Addr) (n cap : Nat) (ts : List Tsk) (b : Option Addr) (m cap2 : Nat) (ls : List Lk) (no : Int), n ≤ cap → Two w a n cap ts b m cap2 ls → Calls Tryz.prog 168 #[.slice a n cap, .slice b m cap2, .int .i64 no] w fun e w' => e = .returned (.bool (ableP ts ls no)) ∧ Keeps w w'
def SaysCanTurn : Prop := ∀ (w : World) (a : Option Addr) (n cap : Nat) (ts : List Tsk) (b : Option Addr) (m cap2 : Nat) (ls : List Lk) (no : Int), n ≤ cap → Two w a n cap ts b m cap2 ls → Calls Tryz.prog 116 #[.slice a n cap, .slice b m cap2, .int .i64 no] w fun e w' => e = .returned (.bool (canP ts ls no)) ∧ Keeps w w'
def SaysPick : Prop := ∀ (w : World) (a : Option Addr) (n cap : Nat) (ts : List Tsk) (b : Option Addr) (m cap2 : Nat) (ls : List Lk) (cpu : Int), n ≤ cap → Two w a n cap ts b m cap2 ls → Calls Tryz.prog 71 #[.slice a n cap, .slice b m cap2, .int .i64 cpu] w fun e w' => e = .returned (.tuple #[.int .i64 (pickNo ts ls cpu), .int .i64 (pickX ts ls cpu)]) ∧ Keeps w w'
def SaysBestOf : Prop := ∀ (w : World) (a : Option Addr) (n cap : Nat) (ts : List Tsk) (b : Option Addr) (cap2 : Nat) (xs : List Int), n ≤ cap → xs.length ≤ cap2 → xs.length ≤ maxLen → OnT w a n cap ts → Ns w b xs → Calls Tryz.prog 117 #[.slice a n cap, .slice b xs.length cap2] w fun e w' => e = .returned (.int .i64 (bestI ts xs)) ∧ Keeps w w'

end Go.Proofs.YthobpahnmmdbiaaGreatDoor
