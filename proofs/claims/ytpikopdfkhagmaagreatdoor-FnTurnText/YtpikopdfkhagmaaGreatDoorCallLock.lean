/-
  Calls: a lock is asked for.
-/
import Derived.Test.YtpikopdfkhagmaaGreatDoorSysFacts
import Derived.Test.YtpikopdfkhagmaaGreatDoorLockAsk
import Derived.Test.YtpikopdfkhagmaaGreatDoorPickSpec2
import Derived.Test.YtpikopdfkhagmaaGreatDoorLockSpec2
import Derived.Deep.Cut
import Derived.Test.YtpikopdfkhagmaaGreatDoorSysSame
namespace Go.Proofs.YtpikopdfkhagmaaGreatDoor
open Go.RowKit
attribute [local go_sem] Keeps.refl Keeps.alloc Keeps.drew Keeps.drewN

set_option maxRecDepth 100000 in
set_option linter.unusedSimpArgs false in
set_option maxHeartbeats 8000000 in
theorem l11Lock_any {w : World} {lo : Nat} {v : Sv} {vs : List Lv} {s : Sy} (h : OwnS w lo v vs s) (hl : lo ≤ w.heap.size) (R : SysR s) (c : Cl) {k : Nat} {t : Tsk} (ht : s.tasks[k]? = some t) :
    Calls Tryz.prog 76 #[.agg (syc s v), ck c, .int .i64 k] w (Did w lo v vs (lockN s c t) (lockC s c)) := by
  obtain ⟨⟨ta, tn, tcap⟩, ⟨la, ln, lcap⟩, ⟨ga, gn, gcap⟩, ⟨fa, fn, fcap⟩, ⟨ra, rn, rcap⟩⟩ := v
  have hk : k < s.tasks.length := lt_of_some ht
  obtain ⟨tb, htb⟩ := h.tasksAt hk
  dsimp only at htb
  subst htb
  cases c1 : inB c.a 0 4
  · have HN : Hid (lockN s c t = 2) := by show _ = _; unfold lockN; rw [c1]; rfl
    obtain ⟨A0', C0', kZ⟩ := ask3 h hl c
    have C0 : Hid (Blk _ (w.heap.size + 1) (cc c)) := C0'
    have A0 : Hid (AskR w lo _ vs _ w.heap.size (w.heap.size + 2) _ vs s) := A0'
    have HS : Hid (SysOn _ _ s) := (h.on (by have := R.small; omega)).keeps kZ
    clear A0' C0' h
    go_enter Tryz.func76, Tryz.ntmps76
    go_wp2_with fail
    change Calls _ _ _ (boxes3 w ⟨⟨some ⟨tb, 0, none⟩, tn, tcap⟩, ⟨la, ln, lcap⟩, ⟨ga, gn, gcap⟩, ⟨fa, fn, fcap⟩, ⟨ra, rn, rcap⟩⟩ s c) _
    generalize boxes3 w ⟨⟨some ⟨tb, 0, none⟩, tn, tcap⟩, ⟨la, ln, lcap⟩, ⟨ga, gn, gcap⟩, ⟨fa, fn, fcap⟩, ⟨ra, rn, rcap⟩⟩ s c = Z at *
    have hb0 : ∀ w', Keeps Z w' → ∀ q, w'.cell? ⟨w.heap.size, q, none⟩ = (syc s ⟨⟨some ⟨tb, 0, none⟩, tn, tcap⟩, ⟨la, ln, lcap⟩, ⟨ga, gn, gcap⟩, ⟨fa, fn, fcap⟩, ⟨ra, rn, rcap⟩⟩)[q]? := fun w' k => (A0.out.g.var.box.keeps k).cells
    dsimp only [syc] at hb0
    have hc0 : ∀ w', Keeps Z w' → ∀ q, w'.cell? ⟨w.heap.size + 1, q, none⟩ = (cc c)[q]? := fun w' k => (C0.out.keeps k).cells
    refine (l1In_any _ _ _ _).mono ?_
    rintro e w' ⟨rfl, hw'⟩
    have hw2 := hw'.symm
    subst hw2
    rw [c1]
    have AE := A0.out
    obtain ⟨_, o1, o2⟩ := AE.g.var.box
    dsimp only [syc] at o1
    obtain ⟨_, r1, r2⟩ := AE.r
    go_wp2
    exact AE.ret HN.out (fun h => absurd h (by decide)) rfl (fun Q D => by simp [results, Tryz.results76, go_sem, D])
  obtain ⟨ha0, ha1⟩ := inB_iff.1 c1
  obtain ⟨ck, cn, cp, ca, cb⟩ := c
  dsimp only at ha0 ha1 c1
  obtain ⟨j, rfl⟩ : ∃ j : Nat, ca = (j : Int) := ⟨ca.toNat, by omega⟩
  obtain ⟨l, hli⟩ := some_in (xs := s.locks) (k := j) (by rw [R.five]; omega)
  have ON := h.on (by have := R.small; omega)
  obtain ⟨hjn, lb, loff, a', cap', ha, l0, l1, hwl, hws⟩ := ON.onL.at hli
  dsimp only at ha
  subst ha
  have hkn : (k : Int) < (tn : Int) := by have := ON.lay.tl; dsimp only at this; omega
  have hjn' : (j : Int) < (ln : Int) := by dsimp only at hjn; omega
  have T0 : ∀ w', Keeps w w' → ∀ i, i < 14 → w'.cell? ⟨tb, k * 14 + i, none⟩ = (tc t)[i]? := fun w' kk i hi => (kk.cells tb _ (h.blkLt (i := 0) (b := tb) rfl).2).trans ((h.taskCells (rb := tb) rfl ht).1 i hi)
  clear ON
  obtain ⟨za, Hz⟩ : ∃ z, Hid (waitAt s.locks cn = z) := ⟨_, rfl⟩
  obtain ⟨sm, Hsm⟩ : ∃ z, Hid (sameB s j cn = z) := ⟨_, rfl⟩
  obtain ⟨bad, Hbad⟩ : ∃ z, Hid (((t.st == 2) || (decide (0 ≤ za) || ((l.owner == cn) || !sm))) = z) := ⟨_, rfl⟩
  have HN0 : Hid (lockN s ⟨ck, cn, cp, j, cb⟩ t = if bad then 5 else if askN s.locks j cn == 4 then 6 else 0) := by
    show _ = _
    have e1 : (!decide (za < 0)) = decide (0 ≤ za) := by rw [Bool.eq_iff_iff]; simp
    unfold lockN
    dsimp only
    rw [c1, Hz.out, Hsm.out, e1, Int.toNat_natCast, ownerAt_of hli, Hbad.out]
    simp
  obtain ⟨A0', C0', kZ⟩ := ask3 h hl ⟨ck, cn, cp, j, cb⟩
  have C0 : Hid (Blk _ (w.heap.size + 1) (cc ⟨ck, cn, cp, j, cb⟩)) := C0'
  have A0 : Hid (AskR w lo _ vs _ w.heap.size (w.heap.size + 2) _ vs s) := A0'
  have HS : Hid (SysOn _ _ s) := (h.on (by have := R.small; omega)).keeps kZ
  clear A0' C0' h
  have TC : ∀ w', Keeps (boxes3 w ⟨⟨some ⟨tb, 0, none⟩, tn, tcap⟩, ⟨some ⟨lb, loff, none⟩, ln, lcap⟩, ⟨ga, gn, gcap⟩, ⟨fa, fn, fcap⟩, ⟨ra, rn, rcap⟩⟩ s ⟨ck, cn, cp, j, cb⟩) w' → ∀ i, i < 14 → w'.cell? ⟨tb, k * 14 + i, none⟩ = (tc t)[i]? := fun w' kk => T0 w' (kZ.trans kk)
  have LC : ∀ w', Keeps (boxes3 w ⟨⟨some ⟨tb, 0, none⟩, tn, tcap⟩, ⟨some ⟨lb, loff, none⟩, ln, lcap⟩, ⟨ga, gn, gcap⟩, ⟨fa, fn, fcap⟩, ⟨ra, rn, rcap⟩⟩ s ⟨ck, cn, cp, j, cb⟩) w' → w'.cell? ⟨lb, loff + j * 2, none⟩ = some (.int .i64 l.owner) := fun w' kk => l0 w' (kZ.trans kk)
  clear T0 l0 l1 hws hwl
  go_enter Tryz.func76, Tryz.ntmps76
  go_wp2_with fail
  change Calls _ _ _ (boxes3 w ⟨⟨some ⟨tb, 0, none⟩, tn, tcap⟩, ⟨some ⟨lb, loff, none⟩, ln, lcap⟩, ⟨ga, gn, gcap⟩, ⟨fa, fn, fcap⟩, ⟨ra, rn, rcap⟩⟩ s ⟨ck, cn, cp, j, cb⟩) _
  generalize boxes3 w ⟨⟨some ⟨tb, 0, none⟩, tn, tcap⟩, ⟨some ⟨lb, loff, none⟩, ln, lcap⟩, ⟨ga, gn, gcap⟩, ⟨fa, fn, fcap⟩, ⟨ra, rn, rcap⟩⟩ s ⟨ck, cn, cp, j, cb⟩ = Z at *
  have hb0 : ∀ w', Keeps Z w' → ∀ q, w'.cell? ⟨w.heap.size, q, none⟩ = (syc s ⟨⟨some ⟨tb, 0, none⟩, tn, tcap⟩, ⟨some ⟨lb, loff, none⟩, ln, lcap⟩, ⟨ga, gn, gcap⟩, ⟨fa, fn, fcap⟩, ⟨ra, rn, rcap⟩⟩)[q]? := fun w' k => (A0.out.g.var.box.keeps k).cells
  dsimp only [syc] at hb0
  have hc0 : ∀ w', Keeps Z w' → ∀ q, w'.cell? ⟨w.heap.size + 1, q, none⟩ = (cc ⟨ck, cn, cp, j, cb⟩)[q]? := fun w' k => (C0.out.keeps k).cells
  have WA : Hid (∀ w', Keeps Z w' → Calls Tryz.prog 74 #[.slice (some ⟨lb, loff, none⟩) ln lcap, .int .i64 cn] w' fun e w'' => e = .returned (.int .i64 za) ∧ Keeps w' w'') := fun w' kk => HS.out.onL.sWaitAt cn Hz.out kk
  have SC : Hid (∀ w', Keeps Z w' → Calls Tryz.prog 97 #[.agg (syc s ⟨⟨some ⟨tb, 0, none⟩, tn, tcap⟩, ⟨some ⟨lb, loff, none⟩, ln, lcap⟩, ⟨ga, gn, gcap⟩, ⟨fa, fn, fcap⟩, ⟨ra, rn, rcap⟩⟩), .int .i64 j, .int .i64 cn] w' fun e w'' => e = .returned (.bool sm) ∧ Keeps w' w'') := fun w' kk => by
    have := specSameCpu_any (HS.out.keeps kk) j cn
    rw [Hsm.out] at this
    exact this
  refine (l1In_any _ _ _ _).mono ?_
  rintro e w' ⟨rfl, hw'⟩
  have hw2 := hw'.symm
  subst hw2
  rw [c1]
  go_upto_region 3 with fail
  go_cut [50] (fun b wx => b = .bool bad ∧ Keeps Z wx)
  case first =>
    cases d1 : (t.st == 2)
    rotate_left
    · have hr : bad = true := by rw [← Hbad.out, d1]; rfl
      refine wp_region_held_drew (S := (fun w' => Keeps Z w')) (by kernel_rfl) ?_ (fun hHeld => ?_)
      · exact (Keeps.refl Z).drew
      refine Plan.go [0, 1, 2, 3, 4, 5, 6, 7] ?_
      iterate 8 (refine takeL (by simp only [opsAt]; rfl) (by kernel_rfl) (by exact fun _ _ _ h => h) (by rfl) (by assumption) (fun w _ => by go_simp; try (with_reducible rfl)) ?_; try simp only [putAtH])
      refine Plan.nil ?_
      refine Plan.go [8, 9, 10, 11, 12, 13] ?_
      iterate 6 (refine skipL (by simp only [opsAt]; rfl) (by kernel_rfl) (by exact fun _ _ _ h => h) (by rfl) (by assumption) ?_; try simp only [putAtH])
      refine Plan.nil ?_
      refine Plan.go [14, 15] ?_
      iterate 2 (refine takeL (by simp only [opsAt]; rfl) (by kernel_rfl) (by exact fun _ _ _ h => h) (by rfl) (by assumption) (fun w _ => by go_simp; try (with_reducible rfl)) ?_; try simp only [putAtH])
      refine Plan.nil ?_
      refine Plan.go [16, 17, 18, 19, 20, 21, 22, 23, 24, 25] ?_
      iterate 10 (refine skipL (by simp only [opsAt]; rfl) (by kernel_rfl) (by exact fun _ _ _ h => h) (by rfl) (by assumption) ?_; try simp only [putAtH])
      refine Plan.nil ?_
      refine Plan.go [26, 27] ?_
      iterate 2 (refine takeL (by simp only [opsAt]; rfl) (by kernel_rfl) (by exact fun _ _ _ h => h) (by rfl) (by assumption) (fun w _ => by go_simp; try (with_reducible rfl)) ?_; try simp only [putAtH])
      refine Plan.nil ?_
      refine Plan.go [28, 29, 30, 31, 32, 33, 34] ?_
      iterate 7 (refine skipL (by simp only [opsAt]; rfl) (by kernel_rfl) (by exact fun _ _ _ h => h) (by rfl) (by assumption) ?_; try simp only [putAtH])
      refine Plan.nil ?_
      refine takeH 35 (v := ?_) (by simp only [opsAt]; rfl) (by kernel_rfl) (by exact fun _ _ _ h => h) (by rfl) (by assumption) ?_ ?_
      rotate_left
      · (intro w _; go_simp; try (with_reducible rfl))
      try simp only [putAtH]
      refine wpAnyH_done (by kernel_rfl) ?_ _
      go_wp2
      go_meet
      exact ⟨by rw [hr], by first | assumption | exact (Keeps.refl _).drew⟩
    cases d2 : decide (0 ≤ za)
    rotate_left
    · have hr : bad = true := by rw [← Hbad.out, d1, d2]; rfl
      refine wp_region_held_drew (S := (fun w' => Keeps Z w')) (by kernel_rfl) ?_ (fun hHeld => ?_)
      · exact (Keeps.refl Z).drew
      refine Plan.go [0, 1, 2, 3, 4, 5, 6, 7, 8, 9, 10, 11] ?_
      iterate 12 (refine takeL (by simp only [opsAt]; rfl) (by kernel_rfl) (by exact fun _ _ _ h => h) (by rfl) (by assumption) (fun w _ => by go_simp; try (with_reducible rfl)) ?_; try simp only [putAtH])
      refine Plan.nil ?_
      refine callH 12 (by kernel_rfl) (by simp only [opsAt]; rfl) (fun K hK => ?_)
      go_simp
      (go_at_call 74; refine (WA.out _ (by first | assumption | exact Keeps.refl _ | exact (Keeps.refl _).drew | exact Keeps.drew (by assumption))).mono ?_; rintro e w5 ⟨rfl, k5⟩)
      try go_wp2_with fail
      refine hK.out _ _ ?_ (fun hHeld => ?_)
      · first | assumption | exact Keeps.trans (by assumption) (by assumption)
      clear hK K
      try simp only [putAtH]
      refine Plan.go [13, 14, 15] ?_
      iterate 3 (refine takeL (by simp only [opsAt]; rfl) (by kernel_rfl) (by exact fun _ _ _ h => h) (by rfl) (by assumption) (fun w _ => by go_simp; try (with_reducible rfl)) ?_; try simp only [putAtH])
      refine Plan.nil ?_
      refine Plan.go [16, 17, 18, 19, 20, 21, 22, 23, 24, 25] ?_
      iterate 10 (refine skipL (by simp only [opsAt]; rfl) (by kernel_rfl) (by exact fun _ _ _ h => h) (by rfl) (by assumption) ?_; try simp only [putAtH])
      refine Plan.nil ?_
      refine Plan.go [26, 27] ?_
      iterate 2 (refine takeL (by simp only [opsAt]; rfl) (by kernel_rfl) (by exact fun _ _ _ h => h) (by rfl) (by assumption) (fun w _ => by go_simp; try (with_reducible rfl)) ?_; try simp only [putAtH])
      refine Plan.nil ?_
      refine Plan.go [28, 29, 30, 31, 32, 33, 34] ?_
      iterate 7 (refine skipL (by simp only [opsAt]; rfl) (by kernel_rfl) (by exact fun _ _ _ h => h) (by rfl) (by assumption) ?_; try simp only [putAtH])
      refine Plan.nil ?_
      refine takeH 35 (v := ?_) (by simp only [opsAt]; rfl) (by kernel_rfl) (by exact fun _ _ _ h => h) (by rfl) (by assumption) ?_ ?_
      rotate_left
      · (intro w _; go_simp; try (with_reducible rfl))
      try simp only [putAtH]
      refine wpAnyH_done (by kernel_rfl) ?_ _
      go_wp2
      go_meet
      exact ⟨by rw [hr], by first | assumption | exact (Keeps.refl _).drew⟩
    cases d3 : (l.owner == cn)
    rotate_left
    · have hr : bad = true := by rw [← Hbad.out, d1, d2, d3]; rfl
      refine wp_region_held_drew (S := (fun w' => Keeps Z w')) (by kernel_rfl) ?_ (fun hHeld => ?_)
      · exact (Keeps.refl Z).drew
      refine Plan.go [0, 1, 2, 3, 4, 5, 6, 7, 8, 9, 10, 11] ?_
      iterate 12 (refine takeL (by simp only [opsAt]; rfl) (by kernel_rfl) (by exact fun _ _ _ h => h) (by rfl) (by assumption) (fun w _ => by go_simp; try (with_reducible rfl)) ?_; try simp only [putAtH])
      refine Plan.nil ?_
      refine callH 12 (by kernel_rfl) (by simp only [opsAt]; rfl) (fun K hK => ?_)
      go_simp
      (go_at_call 74; refine (WA.out _ (by first | assumption | exact Keeps.refl _ | exact (Keeps.refl _).drew | exact Keeps.drew (by assumption))).mono ?_; rintro e w5 ⟨rfl, k5⟩)
      try go_wp2_with fail
      refine hK.out _ _ ?_ (fun hHeld => ?_)
      · first | assumption | exact Keeps.trans (by assumption) (by assumption)
      clear hK K
      try simp only [putAtH]
      refine Plan.go [13, 14, 15, 16, 17, 18, 19, 20, 21, 22, 23, 24, 25, 26, 27] ?_
      iterate 15 (refine takeL (by simp only [opsAt]; rfl) (by kernel_rfl) (by exact fun _ _ _ h => h) (by rfl) (by assumption) (fun w _ => by go_simp; try (with_reducible rfl)) ?_; try simp only [putAtH])
      refine Plan.nil ?_
      refine Plan.go [28, 29, 30, 31, 32, 33, 34] ?_
      iterate 7 (refine skipL (by simp only [opsAt]; rfl) (by kernel_rfl) (by exact fun _ _ _ h => h) (by rfl) (by assumption) ?_; try simp only [putAtH])
      refine Plan.nil ?_
      refine takeH 35 (v := ?_) (by simp only [opsAt]; rfl) (by kernel_rfl) (by exact fun _ _ _ h => h) (by rfl) (by assumption) ?_ ?_
      rotate_left
      · (intro w _; go_simp; try (with_reducible rfl))
      try simp only [putAtH]
      refine wpAnyH_done (by kernel_rfl) ?_ _
      go_wp2
      go_meet
      exact ⟨by rw [hr], by first | assumption | exact (Keeps.refl _).drew⟩
    have hr : bad = !sm := by rw [← Hbad.out, d1, d2, d3]; rfl
    refine wp_region_held_drew (S := (fun w' => Keeps Z w')) (by kernel_rfl) ?_ (fun hHeld => ?_)
    · exact (Keeps.refl Z).drew
    refine Plan.go [0, 1, 2, 3, 4, 5, 6, 7, 8, 9, 10, 11] ?_
    iterate 12 (refine takeL (by simp only [opsAt]; rfl) (by kernel_rfl) (by exact fun _ _ _ h => h) (by rfl) (by assumption) (fun w _ => by go_simp; try (with_reducible rfl)) ?_; try simp only [putAtH])
    refine Plan.nil ?_
    refine callH 12 (by kernel_rfl) (by simp only [opsAt]; rfl) (fun K hK => ?_)
    go_simp
    first
      | (go_at_call 74; refine (WA.out _ (by first | assumption | exact Keeps.refl _ | exact (Keeps.refl _).drew | exact Keeps.drew (by assumption))).mono ?_; rintro e w5 ⟨rfl, k5⟩)
      | (go_at_call 97; refine (SC.out _ (by first | assumption | exact Keeps.refl _ | exact (Keeps.refl _).drew | exact Keeps.drew (by assumption))).mono ?_; rintro e w6 ⟨rfl, k6⟩)
    try go_wp2_with fail
    refine hK.out _ _ ?_ (fun hHeld => ?_)
    · first | assumption | exact Keeps.trans (by assumption) (by assumption)
    clear hK K
    try simp only [putAtH]
    refine Plan.go [13, 14, 15, 16, 17, 18, 19, 20, 21, 22, 23, 24, 25, 26, 27, 28, 29, 30, 31, 32] ?_
    iterate 20 (refine takeL (by simp only [opsAt]; rfl) (by kernel_rfl) (by exact fun _ _ _ h => h) (by rfl) (by assumption) (fun w _ => by go_simp; try (with_reducible rfl)) ?_; try simp only [putAtH])
    refine Plan.nil ?_
    refine callH 33 (by kernel_rfl) (by simp only [opsAt]; rfl) (fun K hK => ?_)
    go_simp
    first
      | (go_at_call 74; refine (WA.out _ (by first | assumption | exact Keeps.refl _ | exact (Keeps.refl _).drew | exact Keeps.drew (by assumption))).mono ?_; rintro e w5 ⟨rfl, k5⟩)
      | (go_at_call 97; refine (SC.out _ (by first | assumption | exact Keeps.refl _ | exact (Keeps.refl _).drew | exact Keeps.drew (by assumption))).mono ?_; rintro e w6 ⟨rfl, k6⟩)
    try go_wp2_with fail
    refine hK.out _ _ ?_ (fun hHeld => ?_)
    · first | assumption | exact Keeps.trans (by assumption) (by assumption)
    clear hK K
    try simp only [putAtH]
    refine Plan.go [34, 35] ?_
    iterate 2 (refine takeL (by simp only [opsAt]; rfl) (by kernel_rfl) (by exact fun _ _ _ h => h) (by rfl) (by assumption) (fun w _ => by go_simp; try (with_reducible rfl)) ?_; try simp only [putAtH])
    refine Plan.nil ?_
    refine wpAnyH_done (by kernel_rfl) ?_ _
    go_wp2
    go_meet
    exact ⟨by rw [hr], by first | assumption | exact (Keeps.refl _).drew⟩
  case rest =>
  obtain ⟨rfl, kx⟩ := hcut
  generalize wc = wx at *
  clear WA TC LC Hbad Hz SC Hsm
  cases bad
  rotate_left
  · have HN : Hid (lockN s ⟨ck, cn, cp, j, cb⟩ t = 5) := HN0.out
    have AE := A0.out.keeps kx
    obtain ⟨_, o1, o2⟩ := AE.g.var.box
    dsimp only [syc] at o1
    obtain ⟨_, r1, r2⟩ := AE.r
    go_wp2
    exact AE.ret HN.out (fun h => absurd h (by decide)) rfl (fun Q D => by simp [results, Tryz.results76, go_sem, D])
  have LA : Hid (∀ w', Keeps Z w' → Calls Tryz.prog 98 #[.slice (some ⟨lb, loff, none⟩) ln lcap, .int .i64 j, .int .i64 cn] w' fun e w'' => ∃ u us, e = .returned (.tuple #[u, .int .i64 (askN s.locks j cn)]) ∧ Mine w'' w'.heap.size w''.heap.size u us (askL s.locks j cn) ∧ Keeps w' w'') := fun w' kk => by
    have O := HS.out.onL.keeps kk
    have := specLockAsk_any (some ⟨lb, loff, none⟩) lcap s.locks j cn w' O.size O.lks
    rw [O.len] at this
    exact this
  obtain ⟨an, Han⟩ : ∃ z, Hid (askN s.locks j cn = z) := ⟨_, rfl⟩
  rw [Han.out] at LA
  go_upto_region 6 with (go_at_call 98; refine (LA.out _ kx).mono ?_; rintro e w6 ⟨u6, us6, rfl, M6, k6⟩)
  obtain ⟨a6, c6, e6, -, -⟩ := M6.lks
  obtain ⟨m6, Hm6⟩ : ∃ m, Hid ((askL s.locks j cn).length = m) := ⟨_, rfl⟩
  rw [Hm6.out] at e6
  subst e6
  have HM6 : Hid (Mine w6 wx.heap.size w6.heap.size (Value.slice a6 m6 c6) us6 (askL s.locks j cn)) := M6
  clear M6
  cases d5 : (an == 4)
  rotate_left
  · have HN : Hid (lockN s ⟨ck, cn, cp, j, cb⟩ t = 6) := by show _ = _; rw [HN0.out, Han.out, d5]; rfl
    have AE := A0.out.keeps (kx.trans k6)
    obtain ⟨_, o1, o2⟩ := AE.g.var.box
    dsimp only [syc] at o1
    obtain ⟨_, r1, r2⟩ := AE.r
    go_wp2
    exact AE.ret HN.out (fun h => absurd h (by decide)) rfl (fun Q D => by simp [results, Tryz.results76, go_sem, D])
  have HN : Hid (lockN s ⟨ck, cn, cp, j, cb⟩ t = 0) := by show _ = _; rw [HN0.out, Han.out, d5]; rfl
  have AN : Hid (AskR w lo ⟨⟨some ⟨tb, 0, none⟩, tn, tcap⟩, ⟨some ⟨lb, loff, none⟩, ln, lcap⟩, ⟨ga, gn, gcap⟩, ⟨fa, fn, fcap⟩, ⟨ra, rn, rcap⟩⟩ vs (w6.setCell ⟨w.heap.size, 3, none⟩ (.slice a6 m6 c6)) w.heap.size (w.heap.size + 2) ⟨⟨some ⟨tb, 0, none⟩, tn, tcap⟩, ⟨a6, m6, c6⟩, ⟨ga, gn, gcap⟩, ⟨fa, fn, fcap⟩, ⟨ra, rn, rcap⟩⟩ us6 { (s : Sy) with locks := askL s.locks j cn }) := (A0.out.keeps kx).locks k6 (x := ⟨a6, m6, c6⟩) HM6.out
  obtain ⟨_, p1, p2⟩ := (A0.out.keeps (kx.trans k6)).g.var.box
  obtain ⟨_, q1, q2⟩ := (A0.out.keeps (kx.trans k6)).r
  dsimp only [syc] at p1
  have hsz : w.heap.size + 2 ≠ w.heap.size := by omega
  have AE := AN.out
  obtain ⟨_, o1, o2⟩ := AE.g.var.box
  dsimp only [syc] at o1
  obtain ⟨_, r1, r2⟩ := AE.r
  go_wp2
  exact AE.ret HN.out (fun _ => rfl) rfl (fun Q D => by simp [results, Tryz.results76, go_sem, D])
end Go.Proofs.YtpikopdfkhagmaaGreatDoor
