/-
  The law FnTasks: its walk, over contracts of the program's functions.
-/
import Derived.Test.YtioffjgnfkjmkaaGTask3
import Derived.Test.YtioffjgnfkjmkaaGDraw2
import Derived.Test.YtioffjgnfkjmkaaGTask4
namespace Go.Proofs.Ytioffjgnfkjmkaa
open Go.RowKit
attribute [local go_sem] Keeps.refl Keeps.alloc Keeps.drew Keeps.drewN
attribute [local go_sem high] run_neq_task

theorem ins_at (t : Tsk) : ∀ ts : List Tsk, ∃ k : Nat, k ≤ ts.length ∧ (ins t ts)[k]? = some t ∧ (∀ (j : Nat) (x : Tsk), ts[j]? = some x → ∃ m : Nat, m ≠ k ∧ (ins t ts)[m]? = some x)
  | [] => ⟨0, by simp, rfl, fun j x h => by simp at h⟩
  | y :: r => by
    simp only [ins]
    cases hd : decide (t.no ≤ y.no)
    · obtain ⟨k, hk, h1, h2⟩ := ins_at t r
      refine ⟨k + 1, by simp; omega, by simpa using h1, fun j x hx => ?_⟩
      cases j with
      | zero => exact ⟨0, by omega, by simpa using hx⟩
      | succ j =>
        obtain ⟨m, hm, h3⟩ := h2 j x (by simpa using hx)
        exact ⟨m + 1, by omega, by simpa using h3⟩
    · refine ⟨0, by simp, by simp, fun j x hx => ⟨j + 1, by omega, by simpa using hx⟩⟩
theorem atFrom_new {t : Tsk} {ts : List Tsk} (h : tasksB (ins t ts) = true) : atFrom ts t.no = -1 := by
  obtain ⟨k, hk, h1, h2⟩ := ins_at t ts
  have A := ascB_lt (tasksB_asc h)
  have : ts.findIdx? (fun s => s.no == t.no) = none := by
    rw [List.findIdx?_eq_none_iff]
    intro x hx
    obtain ⟨j, hj, rfl⟩ := List.mem_iff_getElem.1 hx
    obtain ⟨m, hm, h3⟩ := h2 j _ (List.getElem?_eq_getElem hj)
    rcases Nat.lt_or_ge m k with h4 | h4
    · have := A k m _ _ h4 h3 h1; simp; omega
    · have := A m k _ _ (by omega) h1 h3; simp; omega
  simp [atFrom, this]

set_option maxRecDepth 100000 in
set_option maxHeartbeats 8000000 in
theorem tasks_walk (HT : SaysTaskOk) (HA : SaysTaskAt) (HL : SaysTasksOk) (HP : SaysTaskPut) (a : Option Addr) (n cap : Nat) (w : World) (hm : n ≤ maxLen) (hb : ∀ g, w.heap.size ≤ g → Bytes g w a n) :
    Calls Try.prog 4 #[.slice a n cap] w fun e w' => e = .returned (.bool true) ∧ Keeps w w' := by
  have hT : Hid SaysTaskOk := HT
  have hA : Hid SaysTaskAt := HA
  have hL : Hid SaysTasksOk := HL
  have hP : Hid SaysTaskPut := HP
  clear HT HA HL HP
  by_cases hn : n ≤ 1048576
  · have hd : decide (1048576 < (n : Int)) = false := by simp; omega
    go_enter Try.func4, Try.ntmps4
    go_wp2_with fail
    refine (big_any _ _ _ _ hm).mono ?_
    rintro e w0 ⟨rfl, rfl⟩
    rw [hd]
    go_wp2_with fail
    refine (drawTaskPut_any _ _ _ _ hn hb).mono ?_
    rintro e w1 ⟨b, cp, ts, t, rfl, own1, hts, k1⟩
    clear hb hd
    obtain ⟨a1, c1, e1, hs1, hcp, hcm⟩ := own1.slice tc_size
    simp only [Value.slice.injEq] at e1
    obtain ⟨rfl, -, rfl⟩ := e1
    clear own1
    obtain ⟨o, Ho⟩ : ∃ o, Hid (putB ts t = o) := ⟨_, rfl⟩
    obtain ⟨P, HPL⟩ : ∃ P, Hid (putL ts t = P) := ⟨_, rfl⟩
    obtain ⟨L, HLn⟩ : ∃ L, Hid (ts.length = L) := ⟨_, rfl⟩
    rw [HLn.out] at hts hcp
    rw [HLn.out]
    go_wp2_with fail
    have kW := k1.alloc (.cells (tc t) 30)
    have B1 := Blk.new w1 (tc t) 30
    have hs2 := hs1.keeps ((Keeps.refl w1).alloc (.cells (tc t) 30))
    obtain ⟨_, b1, b2⟩ := B1
    have B1 := Blk.new w1 (tc t) 30
    clear hs1 k1
    generalize w1.alloc (.cells (tc t) 30) = W1 at *
    generalize w1.heap.size = s at *
    have c2 := hP.out b 0 cp ts t W1 (by rw [HLn.out]; unfold maxLen; omega) (by rw [HLn.out]; exact hcp) hs2
    rw [HLn.out, Ho.out, HPL.out] at c2
    refine c2.mono ?_
    clear c2
    rintro e w2 ⟨v2, rfl, own2, k2⟩
    have hs3 := hs2.keeps k2
    have B2 := B1.keeps k2
    clear b1 b2
    obtain ⟨_, b1, b2⟩ := B2
    have B2 := B1.keeps k2
    go_wp2_with fail
    have c3 := specTaskPut_any b 0 cp ts t w2 (by rw [HLn.out]; unfold maxLen; omega) hs3
    rw [HLn.out, Ho.out] at c3
    refine c3.mono ?_
    clear c3
    rintro e w3 ⟨v3, rfl, -, k3⟩
    obtain ⟨a2, cq, rfl, hp2, -, -⟩ := own2.slice tc_size
    have hs4 := hs3.keeps k3
    have hp4 := hp2.keeps k3
    have bt : ∀ w', Keeps w3 w' → ∀ k, w'.cell? ⟨s, k, none⟩ = (tc t)[k]? := fun w' h => ((B2.keeps k3).keeps h).cells
    have K3 := kW.trans (k2.trans k3)
    clear own2 hs2 hs3 hp2 B1 B2 b1 b2 k2 k3 kW
    obtain ⟨g1, H1⟩ : ∃ g, Hid (taskB t = g) := ⟨_, rfl⟩
    obtain ⟨g2, H2⟩ : ∃ g, Hid (tasksB ts = g) := ⟨_, rfl⟩
    have n0 : (o != o) = false := by simp
    have n1 : (g1 != g1) = false := by simp
    have n2 : (g2 != g2) = false := by simp
    have K0 := Keeps.refl w3
    have CL : Hid (∀ w', Keeps w3 w' → Calls Try.prog 21 #[.slice (some ⟨b, 0, none⟩) L cp] w' fun e w'' => e = .returned (.bool g2) ∧ Keeps w' w'') := fun w' h => by
      have := hL.out (some ⟨b, 0, none⟩) cp ts w' (by rw [HLn.out]; unfold maxLen; omega) (hs4.keeps h)
      rwa [HLn.out, H2.out] at this
    have CS : Hid (∀ w', Keeps w3 w' → Calls Try.prog 22 #[.slice (some ⟨b, 0, none⟩) L cp] w' fun e w'' => e = .returned (.bool g2) ∧ Keeps w' w'') := fun w' h => by
      have := specTasksOk_any (some ⟨b, 0, none⟩) cp ts w' (by rw [HLn.out]; unfold maxLen; omega) (hs4.keeps h)
      rwa [HLn.out, H2.out] at this
    have CB : Hid (∀ w' no, Keeps w3 w' → Calls Try.prog 23 #[.slice (some ⟨b, 0, none⟩) L cp, .int .i64 no] w' fun e w'' => e = .returned (.int .i64 (atFrom ts no)) ∧ Keeps w' w'') := fun w' no h => by
      have := hA.out (some ⟨b, 0, none⟩) cp ts no w' (by rw [HLn.out]; unfold maxLen; omega) (hs4.keeps h)
      rwa [HLn.out] at this
    obtain ⟨M, HM⟩ : ∃ M, Hid (P.length = M) := ⟨_, rfl⟩
    have hMl : M ≤ 14 := by
      rw [← HM.out, ← HPL.out]
      unfold putL
      split
      · split
        · rw [ins_length, HLn.out]; omega
        · rw [HLn.out]; omega
      · simp
    have CA : Hid (∀ w' no, Keeps w3 w' → Calls Try.prog 23 #[.slice a2 M cq, .int .i64 no] w' fun e w'' => e = .returned (.int .i64 (atFrom P no)) ∧ Keeps w' w'') := fun w' no h => by
      have := hA.out a2 cq P no w' (by rw [HM.out]; unfold maxLen; omega) (hp4.keeps h)
      rwa [HM.out] at this
    have CP : Hid (∀ w', Keeps w3 w' → Calls Try.prog 21 #[.slice a2 M cq] w' fun e w'' => e = .returned (.bool (tasksB P)) ∧ Keeps w' w'') := fun w' h => by
      have := hL.out a2 cq P w' (by rw [HM.out]; unfold maxLen; omega) (hp4.keeps h)
      rwa [HM.out] at this
    rw [HM.out]
    go_wp2_with fail
    refine wp_region_held_drew (S := (fun w' => Keeps w3 w')) (by kernel_rfl) ?_ (fun hHeld => ?_)
    · exact K0.drew
    refine takeH 0 (v := ?_) (by simp only [opsAt]; rfl) (by kernel_rfl) (by exact fun _ _ _ h => h) (by rfl) (by assumption) ?_ ?_
    rotate_left
    · (intro w _; go_simp; try (with_reducible rfl))
    try simp only [putAtH]
    refine takeH 1 (v := ?_) (by simp only [opsAt]; rfl) (by kernel_rfl) (by exact fun _ _ _ h => h) (by rfl) (by assumption) ?_ ?_
    rotate_left
    · (intro w _; go_simp; try (with_reducible rfl))
    try simp only [putAtH]
    refine takeH 2 (v := ?_) (by simp only [opsAt]; rfl) (by kernel_rfl) (by exact fun _ _ _ h => h) (by rfl) (by assumption) ?_ ?_
    rotate_left
    · (intro w _; go_simp; try (with_reducible rfl))
    try simp only [putAtH]
    refine takeH 3 (v := ?_) (by simp only [opsAt]; rfl) (by kernel_rfl) (by exact fun _ _ _ h => h) (by rfl) (by assumption) ?_ ?_
    rotate_left
    · (intro w _; go_simp; try (with_reducible rfl))
    try simp only [putAtH]
    refine takeH 4 (v := ?_) (by simp only [opsAt]; rfl) (by kernel_rfl) (by exact fun _ _ _ h => h) (by rfl) (by assumption) ?_ ?_
    rotate_left
    · (intro w _; go_simp; try (with_reducible rfl))
    try simp only [putAtH]
    refine takeH 6 (v := ?_) (by simp only [opsAt]; rfl) (by kernel_rfl) (by exact fun _ _ _ h => h) (by rfl) (by assumption) ?_ ?_
    rotate_left
    · (intro w _; go_simp; try (with_reducible rfl))
    try simp only [putAtH]
    refine callH 5 (by kernel_rfl) (by simp only [opsAt]; rfl) (fun K hK => ?_)
    go_simp
    first
      | (go_at_call 19; refine (hT.out t _).mono ?_; rintro e w4 ⟨rfl, k4⟩; rw [H1.out])
      | (go_at_call 20; refine (specTaskOk_any t _).mono ?_; rintro e w5 ⟨rfl, k5⟩; rw [H1.out])
      | (go_at_call 21; refine (CL.out _ (by assumption)).mono ?_; rintro e w6 ⟨rfl, k6⟩)
      | (go_at_call 22; refine (CS.out _ (by assumption)).mono ?_; rintro e w7 ⟨rfl, k7⟩)
    try go_wp2_with fail
    refine hK.out _ _ ?_ (fun hHeld => ?_)
    · exact Keeps.trans (by assumption) (by assumption)
    clear hK K
    try simp only [putAtH]
    refine callH 7 (by kernel_rfl) (by simp only [opsAt]; rfl) (fun K hK => ?_)
    go_simp
    first
      | (go_at_call 19; refine (hT.out t _).mono ?_; rintro e w4 ⟨rfl, k4⟩; rw [H1.out])
      | (go_at_call 20; refine (specTaskOk_any t _).mono ?_; rintro e w5 ⟨rfl, k5⟩; rw [H1.out])
      | (go_at_call 21; refine (CL.out _ (by assumption)).mono ?_; rintro e w6 ⟨rfl, k6⟩)
      | (go_at_call 22; refine (CS.out _ (by assumption)).mono ?_; rintro e w7 ⟨rfl, k7⟩)
    try go_wp2_with fail
    refine hK.out _ _ ?_ (fun hHeld => ?_)
    · exact Keeps.trans (by assumption) (by assumption)
    clear hK K
    try simp only [putAtH]
    refine takeH 8 (v := ?_) (by simp only [opsAt]; rfl) (by kernel_rfl) (by exact fun _ _ _ h => h) (by rfl) (by assumption) ?_ ?_
    rotate_left
    · (intro w _; go_simp; try (with_reducible rfl))
    try simp only [putAtH]
    refine takeH 9 (v := ?_) (by simp only [opsAt]; rfl) (by kernel_rfl) (by exact fun _ _ _ h => h) (by rfl) (by assumption) ?_ ?_
    rotate_left
    · (intro w _; go_simp; try (with_reducible rfl))
    try simp only [putAtH]
    refine takeH 10 (v := ?_) (by simp only [opsAt]; rfl) (by kernel_rfl) (by exact fun _ _ _ h => h) (by rfl) (by assumption) ?_ ?_
    rotate_left
    · (intro w _; go_simp; try (with_reducible rfl))
    try simp only [putAtH]
    refine takeH 11 (v := ?_) (by simp only [opsAt]; rfl) (by kernel_rfl) (by exact fun _ _ _ h => h) (by rfl) (by assumption) ?_ ?_
    rotate_left
    · (intro w _; go_simp; try (with_reducible rfl))
    try simp only [putAtH]
    refine takeH 13 (v := ?_) (by simp only [opsAt]; rfl) (by kernel_rfl) (by exact fun _ _ _ h => h) (by rfl) (by assumption) ?_ ?_
    rotate_left
    · (intro w _; go_simp; try (with_reducible rfl))
    try simp only [putAtH]
    refine callH 12 (by kernel_rfl) (by simp only [opsAt]; rfl) (fun K hK => ?_)
    go_simp
    first
      | (go_at_call 19; refine (hT.out t _).mono ?_; rintro e w4 ⟨rfl, k4⟩; rw [H1.out])
      | (go_at_call 20; refine (specTaskOk_any t _).mono ?_; rintro e w5 ⟨rfl, k5⟩; rw [H1.out])
      | (go_at_call 21; refine (CL.out _ (by assumption)).mono ?_; rintro e w6 ⟨rfl, k6⟩)
      | (go_at_call 22; refine (CS.out _ (by assumption)).mono ?_; rintro e w7 ⟨rfl, k7⟩)
    try go_wp2_with fail
    refine hK.out _ _ ?_ (fun hHeld => ?_)
    · exact Keeps.trans (by assumption) (by assumption)
    clear hK K
    try simp only [putAtH]
    refine callH 14 (by kernel_rfl) (by simp only [opsAt]; rfl) (fun K hK => ?_)
    go_simp
    first
      | (go_at_call 19; refine (hT.out t _).mono ?_; rintro e w4 ⟨rfl, k4⟩; rw [H1.out])
      | (go_at_call 20; refine (specTaskOk_any t _).mono ?_; rintro e w5 ⟨rfl, k5⟩; rw [H1.out])
      | (go_at_call 21; refine (CL.out _ (by assumption)).mono ?_; rintro e w6 ⟨rfl, k6⟩)
      | (go_at_call 22; refine (CS.out _ (by assumption)).mono ?_; rintro e w7 ⟨rfl, k7⟩)
    try go_wp2_with fail
    refine hK.out _ _ ?_ (fun hHeld => ?_)
    · exact Keeps.trans (by assumption) (by assumption)
    clear hK K
    try simp only [putAtH]
    refine takeH 15 (v := ?_) (by simp only [opsAt]; rfl) (by kernel_rfl) (by exact fun _ _ _ h => h) (by rfl) (by assumption) ?_ ?_
    rotate_left
    · (intro w _; go_simp; try (with_reducible rfl))
    try simp only [putAtH]
    refine takeH 16 (v := ?_) (by simp only [opsAt]; rfl) (by kernel_rfl) (by exact fun _ _ _ h => h) (by rfl) (by assumption) ?_ ?_
    rotate_left
    · (intro w _; go_simp; try (with_reducible rfl))
    try simp only [putAtH]
    refine wpAnyH_done (by kernel_rfl) ?_ _
    have K7 : Keeps w3 w7 := by assumption
    clear k4 k5 k6 k7 n0 n1 n2 K0 CL CS
    cases o
    · have HMs : Hid (M = L ∨ M = 0) := by
        show _ ∨ _
        rw [← HM.out, ← HPL.out]
        have ho := Ho.out
        unfold putL
        split
        · rename_i h1
          simp only [putB, h1, Bool.true_and] at ho
          rw [ho]
          simp [HLn.out]
        · simp
      rcases HMs.out with hML | hML
      · subst hML
        have hq : ((M : Int) == (M : Int)) = true := by simp
        go_wp2
        go_ret
        exact ⟨rfl, K3.trans K7⟩
      · subst hML
        by_cases hL0 : L = 0
        · subst hL0
          go_wp2
          go_ret
          exact ⟨rfl, K3.trans K7⟩
        · have hq : ((0 : Int) == (L : Int)) = false := by simp; omega
          go_wp2
          go_ret
          exact ⟨rfl, K3.trans K7⟩
    · have ho := Ho.out
      simp only [putB, Bool.and_eq_true] at ho
      have hPi : P = ins t ts := by rw [← HPL.out]; simp [putL, ho.1, ho.2]
      have htP : tasksB P = true := by rw [hPi]; exact ho.2
      have hMe : M = L + 1 := by rw [← HM.out, hPi, ins_length, HLn.out]
      obtain ⟨kk, hkk, hk1, hk2⟩ := ins_at t ts
      rw [HLn.out] at hkk
      rw [← hPi] at hk1 hk2
      have Hk2 : Hid (∀ (j : Nat) (x : Tsk), ts[j]? = some x → ∃ m : Nat, m ≠ kk ∧ P[m]? = some x) := hk2
      have HtP : Hid (tasksB P = true) := htP
      have Hat : Hid (atFrom P t.no = kk) := atFrom_at htP hk1
      have Hno : Hid (atFrom ts t.no = -1) := atFrom_new ho.2
      obtain ⟨b2, off2, rfl, p0, p1⟩ := hp4.at hk1 (by omega)
      have hkM : (kk : Int) < (M : Int) := by omega
      have hk0 : decide ((kk : Int) < 0) = false := by simp
      have hML : ((M : Int) == (L : Int) + 1) = true := by simp; omega
      have Hp4 : Hid (Lies 14 tc w3 (some ⟨b2, off2, none⟩) P) := hp4
      have Hs4 : Hid (Lies 14 tc w3 (some ⟨b, 0, none⟩) ts) := hs4
      have HMe : Hid (M = L + 1) := hMe
      clear ho hPi htP hMe hk1 hk2 hp4 hs4
      have ntt : eqT t t = true := eqT_same t
      go_wp2_with (go_at_call 23; refine (CA.out _ _ (by assumption)).mono ?_; rintro e w8 ⟨rfl, k8⟩; rw [Hat.out])
      have K8 := K7.trans k8
      refine wp_region_held_drew (S := (fun w' => Keeps w3 w')) (by kernel_rfl) ?_ (fun hHeld => ?_)
      · exact K8.drew
      refine takeH 0 (v := ?_) (by simp only [opsAt]; rfl) (by kernel_rfl) (by exact fun _ _ _ h => h) (by rfl) (by assumption) ?_ ?_
      rotate_left
      · (intro w _; go_simp; try (with_reducible rfl))
      try simp only [putAtH]
      refine takeH 1 (v := ?_) (by simp only [opsAt]; rfl) (by kernel_rfl) (by exact fun _ _ _ h => h) (by rfl) (by assumption) ?_ ?_
      rotate_left
      · (intro w _; go_simp; try (with_reducible rfl))
      try simp only [putAtH]
      refine takeH 2 (v := ?_) (by simp only [opsAt]; rfl) (by kernel_rfl) (by exact fun _ _ _ h => h) (by rfl) (by assumption) ?_ ?_
      rotate_left
      · (intro w _; go_simp; try (with_reducible rfl))
      try simp only [putAtH]
      refine takeH 3 (v := ?_) (by simp only [opsAt]; rfl) (by kernel_rfl) (by exact fun _ _ _ h => h) (by rfl) (by assumption) ?_ ?_
      rotate_left
      · (intro w _; go_simp; try (with_reducible rfl))
      try simp only [putAtH]
      refine takeH 4 (v := ?_) (by simp only [opsAt]; rfl) (by kernel_rfl) (by exact fun _ _ _ h => h) (by rfl) (by assumption) ?_ ?_
      rotate_left
      · (intro w _; go_simp; try (with_reducible rfl))
      try simp only [putAtH]
      refine takeH 5 (v := ?_) (by simp only [opsAt]; rfl) (by kernel_rfl) (by exact fun _ _ _ h => h) (by rfl) (by assumption) ?_ ?_
      rotate_left
      · (intro w _; go_simp; try (with_reducible rfl))
      try simp only [putAtH]
      refine takeH 6 (v := ?_) (by simp only [opsAt]; rfl) (by kernel_rfl) (by exact fun _ _ _ h => h) (by rfl) (by assumption) ?_ ?_
      rotate_left
      · (intro w _; go_simp; try (with_reducible rfl))
      try simp only [putAtH]
      refine takeH 7 (v := ?_) (by simp only [opsAt]; rfl) (by kernel_rfl) (by exact fun _ _ _ h => h) (by rfl) (by assumption) ?_ ?_
      rotate_left
      · (intro w _; go_simp; try (with_reducible rfl))
      try simp only [putAtH]
      refine takeH 8 (v := ?_) (by simp only [opsAt]; rfl) (by kernel_rfl) (by exact fun _ _ _ h => h) (by rfl) (by assumption) ?_ ?_
      rotate_left
      · (intro w _; go_simp; try (with_reducible rfl))
      try simp only [putAtH]
      refine takeH 9 (v := ?_) (by simp only [opsAt]; rfl) (by kernel_rfl) (by exact fun _ _ _ h => h) (by rfl) (by assumption) ?_ ?_
      rotate_left
      · (intro w _; go_simp; try (with_reducible rfl))
      try simp only [putAtH]
      refine takeH 10 (v := ?_) (by simp only [opsAt]; rfl) (by kernel_rfl) (by exact fun _ _ _ h => h) (by rfl) (by assumption) ?_ ?_
      rotate_left
      · (intro w _; go_simp; try (with_reducible rfl))
      try simp only [putAtH]
      refine takeH 11 (v := ?_) (by simp only [opsAt]; rfl) (by kernel_rfl) (by exact fun _ _ _ h => h) (by rfl) (by assumption) ?_ ?_
      rotate_left
      · (intro w _; go_simp; try (with_reducible rfl))
      try simp only [putAtH]
      refine takeH 12 (v := ?_) (by simp only [opsAt]; rfl) (by kernel_rfl) (by exact fun _ _ _ h => h) (by rfl) (by assumption) ?_ ?_
      rotate_left
      · (intro w _; go_simp; try (with_reducible rfl))
      try simp only [putAtH]
      refine takeH 13 (v := ?_) (by simp only [opsAt]; rfl) (by kernel_rfl) (by exact fun _ _ _ h => h) (by rfl) (by assumption) ?_ ?_
      rotate_left
      · (intro w _; go_simp; try (with_reducible rfl))
      try simp only [putAtH]
      refine callH 14 (by kernel_rfl) (by simp only [opsAt]; rfl) (fun K hK => ?_)
      go_simp
      first
        | (go_at_call 23; refine (CB.out _ _ (by assumption)).mono ?_; rintro e w9 ⟨rfl, k9⟩; rw [Hno.out])
      try go_wp2_with fail
      refine hK.out _ _ ?_ (fun hHeld => ?_)
      · exact Keeps.trans (by assumption) (by assumption)
      clear hK K
      try simp only [putAtH]
      refine takeH 15 (v := ?_) (by simp only [opsAt]; rfl) (by kernel_rfl) (by exact fun _ _ _ h => h) (by rfl) (by assumption) ?_ ?_
      rotate_left
      · (intro w _; go_simp; try (with_reducible rfl))
      try simp only [putAtH]
      refine takeH 16 (v := ?_) (by simp only [opsAt]; rfl) (by kernel_rfl) (by exact fun _ _ _ h => h) (by rfl) (by assumption) ?_ ?_
      rotate_left
      · (intro w _; go_simp; try (with_reducible rfl))
      try simp only [putAtH]
      refine wpAnyH_done (by kernel_rfl) ?_ _
      have K9 : Keeps w3 w9 := by assumption
      clear k8 k9 K8 K7 CB p0 p1 Hat Hno hk0 hkM ntt
      go_wp2
      go_loopw [10] (fun i wr => ∃ k : Nat, k ≤ L ∧ i = .int .i64 k ∧ Keeps w3 wr) (fun i _ => L - (intOf i).toNat)
      case atStart => exact ⟨0, Nat.zero_le _, rfl, K9⟩
      case round =>
        obtain ⟨k, hk, rfl, hK⟩ := hrel
        clear K9
        by_cases hlt : k < L
        · obtain ⟨x, hx⟩ := some_at (xs := ts) (k := k) (by rw [HLn.out]; exact hlt)
          obtain ⟨m, -, hm1⟩ := Hk2.out k x hx
          have Hat : Hid (atFrom P x.no = m) := atFrom_at HtP.out hm1
          have hmM : m < M := by
            rw [← HM.out]
            rcases Nat.lt_or_ge m P.length with h | h
            · exact h
            · simp [List.getElem?_eq_none h] at hm1
          have hmM' : (m : Int) < (M : Int) := by omega
          have hm0 : decide ((m : Int) < 0) = false := by simp
          have hlt' : (k : Int) < (L : Int) := by omega
          obtain ⟨b', off', e', q0, q1⟩ := Hp4.out.at hm1 (by omega)
          simp only [Option.some.injEq, Addr.mk.injEq] at e'
          obtain ⟨rfl, rfl, -⟩ := e'
          obtain ⟨b', off', e', r0, r1⟩ := Hs4.out.at hx (by omega)
          simp only [Option.some.injEq, Addr.mk.injEq] at e'
          obtain ⟨rfl, rfl, -⟩ := e'
          simp only [Nat.zero_add] at r0 r1
          clear hm1 hx
          have nxx : eqT x x = true := eqT_same x
          go_wp2_with (go_at_call 23; refine (CA.out _ _ (by assumption)).mono ?_; rintro e wq ⟨rfl, kq⟩; rw [Hat.out])
          have Kq := hK.trans kq
          refine wp_region_held_drew (S := (fun w' => Keeps w3 w')) (by kernel_rfl) ?_ (fun hHeld => ?_)
          · exact Kq.drew
          refine takeH 0 (v := ?_) (by simp only [opsAt]; rfl) (by kernel_rfl) (by exact fun _ _ _ h => h) (by rfl) (by assumption) ?_ ?_
          rotate_left
          · (intro w _; go_simp; try (with_reducible rfl))
          try simp only [putAtH]
          refine takeH 1 (v := ?_) (by simp only [opsAt]; rfl) (by kernel_rfl) (by exact fun _ _ _ h => h) (by rfl) (by assumption) ?_ ?_
          rotate_left
          · (intro w _; go_simp; try (with_reducible rfl))
          try simp only [putAtH]
          refine takeH 2 (v := ?_) (by simp only [opsAt]; rfl) (by kernel_rfl) (by exact fun _ _ _ h => h) (by rfl) (by assumption) ?_ ?_
          rotate_left
          · (intro w _; go_simp; try (with_reducible rfl))
          try simp only [putAtH]
          refine takeH 3 (v := ?_) (by simp only [opsAt]; rfl) (by kernel_rfl) (by exact fun _ _ _ h => h) (by rfl) (by assumption) ?_ ?_
          rotate_left
          · (intro w _; go_simp; try (with_reducible rfl))
          try simp only [putAtH]
          refine takeH 4 (v := ?_) (by simp only [opsAt]; rfl) (by kernel_rfl) (by exact fun _ _ _ h => h) (by rfl) (by assumption) ?_ ?_
          rotate_left
          · (intro w _; go_simp; try (with_reducible rfl))
          try simp only [putAtH]
          refine takeH 5 (v := ?_) (by simp only [opsAt]; rfl) (by kernel_rfl) (by exact fun _ _ _ h => h) (by rfl) (by assumption) ?_ ?_
          rotate_left
          · (intro w _; go_simp; try (with_reducible rfl))
          try simp only [putAtH]
          refine takeH 6 (v := ?_) (by simp only [opsAt]; rfl) (by kernel_rfl) (by exact fun _ _ _ h => h) (by rfl) (by assumption) ?_ ?_
          rotate_left
          · (intro w _; go_simp; try (with_reducible rfl))
          try simp only [putAtH]
          refine takeH 7 (v := ?_) (by simp only [opsAt]; rfl) (by kernel_rfl) (by exact fun _ _ _ h => h) (by rfl) (by assumption) ?_ ?_
          rotate_left
          · (intro w _; go_simp; try (with_reducible rfl))
          try simp only [putAtH]
          refine takeH 8 (v := ?_) (by simp only [opsAt]; rfl) (by kernel_rfl) (by exact fun _ _ _ h => h) (by rfl) (by assumption) ?_ ?_
          rotate_left
          · (intro w _; go_simp; try (with_reducible rfl))
          try simp only [putAtH]
          refine takeH 9 (v := ?_) (by simp only [opsAt]; rfl) (by kernel_rfl) (by exact fun _ _ _ h => h) (by rfl) (by assumption) ?_ ?_
          rotate_left
          · (intro w _; go_simp; try (with_reducible rfl))
          try simp only [putAtH]
          refine takeH 10 (v := ?_) (by simp only [opsAt]; rfl) (by kernel_rfl) (by exact fun _ _ _ h => h) (by rfl) (by assumption) ?_ ?_
          rotate_left
          · (intro w _; go_simp; try (with_reducible rfl))
          try simp only [putAtH]
          refine takeH 11 (v := ?_) (by simp only [opsAt]; rfl) (by kernel_rfl) (by exact fun _ _ _ h => h) (by rfl) (by assumption) ?_ ?_
          rotate_left
          · (intro w _; go_simp; try (with_reducible rfl))
          try simp only [putAtH]
          refine takeH 12 (v := ?_) (by simp only [opsAt]; rfl) (by kernel_rfl) (by exact fun _ _ _ h => h) (by rfl) (by assumption) ?_ ?_
          rotate_left
          · (intro w _; go_simp; try (with_reducible rfl))
          try simp only [putAtH]
          refine wpAnyH_done (by kernel_rfl) ?_ _
          go_wp2
          exact ⟨⟨k + 1, by omega, by go_num, Kq.drew⟩, by simp only [intOf]; omega⟩
        · go_wp2_with (go_at_call 21; refine (CP.out _ (by assumption)).mono ?_; rintro e wq ⟨rfl, kq⟩; rw [HtP.out])
          go_ret
          exact ⟨rfl, K3.trans (hK.trans kq)⟩
  · have hd : decide (1048576 < (n : Int)) = true := by simp; omega
    go_enter Try.func4, Try.ntmps4
    go_wp2_with (go_at_call 17; refine (big_any _ _ _ _ hm).mono ?_; rintro e w1 ⟨rfl, rfl⟩)
    go_ret
    exact ⟨rfl, Keeps.refl _⟩
end Go.Proofs.Ytioffjgnfkjmkaa
