/-
  Fair shares: a contract of the model's function.
  Calls: a task is moved.
-/
import Derived.Test.YtpikopdfkhagmaaGreatDoorFairSpec
import Derived.Test.YtpikopdfkhagmaaGreatDoorSysFacts
import Derived.Test.YtpikopdfkhagmaaGreatDoorSysWake
import Derived.Test.YtpikopdfkhagmaaGreatDoorLate2
import Derived.Deep.Cut
namespace Go.Proofs.YtpikopdfkhagmaaGreatDoor
open Go.RowKit
attribute [local go_sem] Keeps.refl Keeps.alloc Keeps.drew Keeps.drewN

set_option maxRecDepth 100000 in
set_option maxHeartbeats 4000000 in
theorem specFairMove_any (t : Tsk) (cpu frm dst : Int) (w : World) :
    Calls Tryz.prog 101 #[tk t, .int .i64 cpu, .int .i64 frm, .int .i64 dst] w fun e w' => e = .returned (tk (fairMoveT t cpu frm dst)) ∧ Keeps w w' := by
  go_enter Tryz.func101, Tryz.ntmps101
  go_wp2_with fail
  refine (l6Fair_any t _).mono ?_
  rintro e w1 ⟨rfl, k1⟩
  have B1 := ((Blk.new w (tc t) 90).alloc (.cells (tc Tsk.zero) 90)).keeps k1
  have B2 := (Blk.new (w.alloc (.cells (tc t) 90)) (tc Tsk.zero) 90).keeps k1
  have K1 : Hid (Keeps w w1) := (((Keeps.refl w).alloc _).alloc _).trans k1
  simp only [World.size_alloc] at B2
  have R : Hid (Blk w1 (w.heap.size + 1) (tc Tsk.zero)) := B2
  have B0 : Hid (Blk w1 w.heap.size (tc t)) := B1
  obtain ⟨_, b1, b2⟩ := B1
  obtain ⟨_, c1, c2⟩ := B2
  clear k1
  cases hd : fairB t
  · have Hn : Hid (fairMoveT t cpu frm dst = t) := by show _ = _; simp [fairMoveT, moveB, hd]
    go_wp2_with (first | (go_at_call 29; refine (l1In_any _ _ _ _).mono ?_; rintro e w' ⟨rfl, hw'⟩; have hw2 := hw'.symm; subst hw2) | (go_at_call 49; refine (l1Max_any _ _ _).mono ?_; rintro e w' ⟨rfl, hw'⟩; have hw2 := hw'.symm; subst hw2))
    have D := R.out.putC (tc (t)).toList rfl
    have K := Keeps.putC (b := w.heap.size + 1) (by omega) (tc (t)).toList 0 K1.out
    change bodyPost _ _ _ _ _ (putC w1 (w.heap.size + 1) 0 (tc (t)).toList)
    generalize putC w1 (w.heap.size + 1) 0 (tc (t)).toList = X at D K ⊢
    exact bodyPost_ret (v := tk (t)) (by simp [results, Tryz.results101, go_sem, D.cells]) rfl ⟨by rw [Hn.out], K⟩
  · skip
    cases h1 : inB cpu 0 3
    · have Hn : Hid (fairMoveT t cpu frm dst = t) := by show _ = _; simp [fairMoveT, moveB, h1]
      go_wp2_with (first | (go_at_call 29; refine (l1In_any _ _ _ _).mono ?_; rintro e w' ⟨rfl, hw'⟩; have hw2 := hw'.symm; subst hw2) | (go_at_call 49; refine (l1Max_any _ _ _).mono ?_; rintro e w' ⟨rfl, hw'⟩; have hw2 := hw'.symm; subst hw2))
      have D := R.out.putC (tc (t)).toList rfl
      have K := Keeps.putC (b := w.heap.size + 1) (by omega) (tc (t)).toList 0 K1.out
      change bodyPost _ _ _ _ _ (putC w1 (w.heap.size + 1) 0 (tc (t)).toList)
      generalize putC w1 (w.heap.size + 1) 0 (tc (t)).toList = X at D K ⊢
      exact bodyPost_ret (v := tk (t)) (by simp [results, Tryz.results101, go_sem, D.cells]) rfl ⟨by rw [Hn.out], K⟩
    · skip
      cases h2 : inB frm 0 100000000
      · have Hn : Hid (fairMoveT t cpu frm dst = t) := by show _ = _; simp [fairMoveT, moveB, h2]
        go_wp2_with (first | (go_at_call 29; refine (l1In_any _ _ _ _).mono ?_; rintro e w' ⟨rfl, hw'⟩; have hw2 := hw'.symm; subst hw2) | (go_at_call 49; refine (l1Max_any _ _ _).mono ?_; rintro e w' ⟨rfl, hw'⟩; have hw2 := hw'.symm; subst hw2))
        have D := R.out.putC (tc (t)).toList rfl
        have K := Keeps.putC (b := w.heap.size + 1) (by omega) (tc (t)).toList 0 K1.out
        change bodyPost _ _ _ _ _ (putC w1 (w.heap.size + 1) 0 (tc (t)).toList)
        generalize putC w1 (w.heap.size + 1) 0 (tc (t)).toList = X at D K ⊢
        exact bodyPost_ret (v := tk (t)) (by simp [results, Tryz.results101, go_sem, D.cells]) rfl ⟨by rw [Hn.out], K⟩
      · skip
        cases h3 : inB dst 0 100000000
        · have Hn : Hid (fairMoveT t cpu frm dst = t) := by show _ = _; simp [fairMoveT, moveB, h3]
          go_wp2_with (first | (go_at_call 29; refine (l1In_any _ _ _ _).mono ?_; rintro e w' ⟨rfl, hw'⟩; have hw2 := hw'.symm; subst hw2) | (go_at_call 49; refine (l1Max_any _ _ _).mono ?_; rintro e w' ⟨rfl, hw'⟩; have hw2 := hw'.symm; subst hw2))
          have D := R.out.putC (tc (t)).toList rfl
          have K := Keeps.putC (b := w.heap.size + 1) (by omega) (tc (t)).toList 0 K1.out
          change bodyPost _ _ _ _ _ (putC w1 (w.heap.size + 1) 0 (tc (t)).toList)
          generalize putC w1 (w.heap.size + 1) 0 (tc (t)).toList = X at D K ⊢
          exact bodyPost_ret (v := tk (t)) (by simp [results, Tryz.results101, go_sem, D.cells]) rfl ⟨by rw [Hn.out], K⟩
        · skip
          have H := (fairB_iff t).1 hd
          obtain ⟨v0, v1⟩ := H.v
          obtain ⟨f0, f1⟩ := inB_iff.1 h2
          obtain ⟨d0, d1⟩ := inB_iff.1 h3
          have e1 : IntKind.i64.wrap (t.v - frm) = t.v - frm := Go.IntWalk.i64_in _ (by omega)
          have e2 : IntKind.i64.wrap (dst + max (t.v - frm) 0) = dst + max (t.v - frm) 0 := Go.IntWalk.i64_in _ (by omega)
          clear H
          cases h4 : decide (100000000 < dst + max (t.v - frm) 0)
          · have Hn : Hid (fairMoveT t cpu frm dst = { t with cpu := cpu, v := dst + max (t.v - frm) 0 }) := by show _ = _; simp only [fairMoveT, moveB, hd, h1, h2, h3, h4, Bool.and_true, Bool.not_false, if_true]
            go_wp2_with (first | (go_at_call 29; refine (l1In_any _ _ _ _).mono ?_; rintro e w' ⟨rfl, hw'⟩; have hw2 := hw'.symm; subst hw2) | (go_at_call 49; refine (l1Max_any _ _ _).mono ?_; rintro e w' ⟨rfl, hw'⟩; have hw2 := hw'.symm; subst hw2))
            have D := ((R.out.far (c := w.heap.size) (o := 2) (by omega) (.int .i64 cpu)).far (c := w.heap.size) (o := 13) (by omega) (.int .i64 (dst + max (t.v - frm) 0))).putC (tc ({ t with cpu := cpu, v := dst + max (t.v - frm) 0 })).toList rfl
            have K := Keeps.putC (b := w.heap.size + 1) (by omega) (tc ({ t with cpu := cpu, v := dst + max (t.v - frm) 0 })).toList 0 ((K1.out.setCell (p := ⟨w.heap.size, 2, none⟩) (Nat.le_refl _) (.int .i64 cpu)).setCell (p := ⟨w.heap.size, 13, none⟩) (Nat.le_refl _) (.int .i64 (dst + max (t.v - frm) 0)))
            change bodyPost _ _ _ _ _ (putC ((w1.setCell ⟨w.heap.size, 2, none⟩ (.int .i64 cpu)).setCell ⟨w.heap.size, 13, none⟩ (.int .i64 (dst + max (t.v - frm) 0))) (w.heap.size + 1) 0 (tc ({ t with cpu := cpu, v := dst + max (t.v - frm) 0 })).toList)
            generalize putC ((w1.setCell ⟨w.heap.size, 2, none⟩ (.int .i64 cpu)).setCell ⟨w.heap.size, 13, none⟩ (.int .i64 (dst + max (t.v - frm) 0))) (w.heap.size + 1) 0 (tc ({ t with cpu := cpu, v := dst + max (t.v - frm) 0 })).toList = X at D K ⊢
            exact bodyPost_ret (v := tk ({ t with cpu := cpu, v := dst + max (t.v - frm) 0 })) (by simp [results, Tryz.results101, go_sem, D.cells]) rfl ⟨by rw [Hn.out], K⟩
          · have Hn : Hid (fairMoveT t cpu frm dst = t) := by show _ = _; simp only [fairMoveT, moveB, h4, Bool.and_false, Bool.not_true, Bool.false_eq_true, if_false]
            go_wp2_with (first | (go_at_call 29; refine (l1In_any _ _ _ _).mono ?_; rintro e w' ⟨rfl, hw'⟩; have hw2 := hw'.symm; subst hw2) | (go_at_call 49; refine (l1Max_any _ _ _).mono ?_; rintro e w' ⟨rfl, hw'⟩; have hw2 := hw'.symm; subst hw2))
            have D := R.out.putC (tc (t)).toList rfl
            have K := Keeps.putC (b := w.heap.size + 1) (by omega) (tc (t)).toList 0 K1.out
            change bodyPost _ _ _ _ _ (putC w1 (w.heap.size + 1) 0 (tc (t)).toList)
            generalize putC w1 (w.heap.size + 1) 0 (tc (t)).toList = X at D K ⊢
            exact bodyPost_ret (v := tk (t)) (by simp [results, Tryz.results101, go_sem, D.cells]) rfl ⟨by rw [Hn.out], K⟩
end Go.Proofs.YtpikopdfkhagmaaGreatDoor
namespace Go.Proofs.YtpikopdfkhagmaaGreatDoor
open Go.RowKit
attribute [local go_sem] Keeps.refl Keeps.alloc Keeps.drew Keeps.drewN

set_option maxRecDepth 100000 in
set_option linter.unusedSimpArgs false in
set_option maxHeartbeats 8000000 in
theorem l11Move_any {w : World} {lo : Nat} {v : Sv} {vs : List Lv} {s : Sy} (h : OwnS w lo v vs s) (hl : lo ≤ w.heap.size) (R : SysR s) (c : Cl) {k : Nat} {t : Tsk} (ht : s.tasks[k]? = some t) :
    Calls Tryz.prog 79 #[.agg (syc s v), ck c, .int .i64 k] w (Did w lo v vs (moveN s c t) (moveC s c k t)) := by
  obtain ⟨⟨ta, tn, tcap⟩, ⟨la, ln, lcap⟩, ⟨ga, gn, gcap⟩, ⟨fa, fn, fcap⟩, ⟨ra, rn, rcap⟩⟩ := v
  have hk : k < s.tasks.length := lt_of_some ht
  obtain ⟨tb, htb⟩ := h.tasksAt hk
  dsimp only at htb
  subst htb
  have HK : Hid (s.tasks[k]? = some t) := ht
  have Hk : Hid (k < s.tasks.length) := hk
  have hcpu := R.onCpus t (List.mem_of_getElem? ht)
  have hcs := R.cpus
  have hfl := R.floors
  have hwr : IntKind.i64.wrap (s.cpus - 1) = s.cpus - 1 := Go.IntWalk.i64_in _ (by omega)
  obtain ⟨oa, Hoa⟩ : ∃ z, Hid (ownsB s.locks t.no = z) := ⟨_, rfl⟩
  obtain ⟨za, Hz⟩ : ∃ z, Hid (waitAt s.locks t.no = z) := ⟨_, rfl⟩
  obtain ⟨bad, Hbad⟩ : ∃ z, Hid (((t.cls != 3) || (oa || decide (0 ≤ za))) = z) := ⟨_, rfl⟩
  have HN0 : Hid (moveN s c t = if bad then 5 else if !inB c.cpu 0 (s.cpus - 1) then 1 else 0) := by
    show _ = _
    have e1 : (!decide (za < 0)) = decide (0 ≤ za) := by rw [Bool.eq_iff_iff]; simp
    unfold moveN busyB
    rw [Hoa.out, Hz.out, e1, Hbad.out]
  have hkn : (k : Int) < (tn : Int) := by have := (h.t.row tc_size).1; dsimp only at this; omega
  obtain ⟨A0', C0', kZ⟩ := ask3 h hl c
  have C0 : Hid (Blk (boxes3 w ⟨⟨some ⟨tb, 0, none⟩, tn, tcap⟩, ⟨la, ln, lcap⟩, ⟨ga, gn, gcap⟩, ⟨fa, fn, fcap⟩, ⟨ra, rn, rcap⟩⟩ s c) (w.heap.size + 1) (cc c)) := C0'
  have T0 : ∀ w', Keeps (boxes3 w ⟨⟨some ⟨tb, 0, none⟩, tn, tcap⟩, ⟨la, ln, lcap⟩, ⟨ga, gn, gcap⟩, ⟨fa, fn, fcap⟩, ⟨ra, rn, rcap⟩⟩ s c) w' → ∀ i, i < 14 → w'.cell? ⟨tb, k * 14 + i, none⟩ = (tc t)[i]? := fun w' kk i hi => ((kZ.trans kk).cells tb _ (h.blkLt (i := 0) (b := tb) rfl).2).trans ((h.taskCells (rb := tb) rfl ht).1 i hi)
  have T00 : ∀ w', Keeps (boxes3 w ⟨⟨some ⟨tb, 0, none⟩, tn, tcap⟩, ⟨la, ln, lcap⟩, ⟨ga, gn, gcap⟩, ⟨fa, fn, fcap⟩, ⟨ra, rn, rcap⟩⟩ s c) w' → w'.cell? ⟨tb, k * 14, none⟩ = some (.int .i64 t.no) := fun w' kk => T0 w' kk 0 (by omega)
  have A00 : Hid (AskR w lo ⟨⟨some ⟨tb, 0, none⟩, tn, tcap⟩, ⟨la, ln, lcap⟩, ⟨ga, gn, gcap⟩, ⟨fa, fn, fcap⟩, ⟨ra, rn, rcap⟩⟩ vs (boxes3 w ⟨⟨some ⟨tb, 0, none⟩, tn, tcap⟩, ⟨la, ln, lcap⟩, ⟨ga, gn, gcap⟩, ⟨fa, fn, fcap⟩, ⟨ra, rn, rcap⟩⟩ s c) w.heap.size (w.heap.size + 2) ⟨⟨some ⟨tb, 0, none⟩, tn, tcap⟩, ⟨la, ln, lcap⟩, ⟨ga, gn, gcap⟩, ⟨fa, fn, fcap⟩, ⟨ra, rn, rcap⟩⟩ vs s) := A0'
  have HS0 : Hid (SysOn (boxes3 w ⟨⟨some ⟨tb, 0, none⟩, tn, tcap⟩, ⟨la, ln, lcap⟩, ⟨ga, gn, gcap⟩, ⟨fa, fn, fcap⟩, ⟨ra, rn, rcap⟩⟩ s c) ⟨⟨some ⟨tb, 0, none⟩, tn, tcap⟩, ⟨la, ln, lcap⟩, ⟨ga, gn, gcap⟩, ⟨fa, fn, fcap⟩, ⟨ra, rn, rcap⟩⟩ s) := (h.on (by have := R.small; omega)).keeps kZ
  clear A0' C0' h
  go_enter Tryz.func79, Tryz.ntmps79
  go_upto_region 1 with fail
  change Code.wp _ _ _ _ (boxes3 w ⟨⟨some ⟨tb, 0, none⟩, tn, tcap⟩, ⟨la, ln, lcap⟩, ⟨ga, gn, gcap⟩, ⟨fa, fn, fcap⟩, ⟨ra, rn, rcap⟩⟩ s c)
  generalize boxes3 w ⟨⟨some ⟨tb, 0, none⟩, tn, tcap⟩, ⟨la, ln, lcap⟩, ⟨ga, gn, gcap⟩, ⟨fa, fn, fcap⟩, ⟨ra, rn, rcap⟩⟩ s c = Z0 at *
  have hb00 : ∀ w', Keeps Z0 w' → ∀ q, w'.cell? ⟨w.heap.size, q, none⟩ = (syc s ⟨⟨some ⟨tb, 0, none⟩, tn, tcap⟩, ⟨la, ln, lcap⟩, ⟨ga, gn, gcap⟩, ⟨fa, fn, fcap⟩, ⟨ra, rn, rcap⟩⟩)[q]? := fun w' k => (A00.out.g.var.box.keeps k).cells
  dsimp only [syc] at hb00
  go_upto_region 2 with fail
  have TB : Hid (Blk (Z0.alloc (.cells (tc t) 90)) Z0.heap.size (tc t)) := Blk.new _ _ _
  have A0 : Hid (AskR w lo ⟨⟨some ⟨tb, 0, none⟩, tn, tcap⟩, ⟨la, ln, lcap⟩, ⟨ga, gn, gcap⟩, ⟨fa, fn, fcap⟩, ⟨ra, rn, rcap⟩⟩ vs (Z0.alloc (.cells (tc t) 90)) w.heap.size (w.heap.size + 2) ⟨⟨some ⟨tb, 0, none⟩, tn, tcap⟩, ⟨la, ln, lcap⟩, ⟨ga, gn, gcap⟩, ⟨fa, fn, fcap⟩, ⟨ra, rn, rcap⟩⟩ vs s) := A00.out.keeps ((Keeps.refl _).alloc _)
  have HS : Hid (SysOn (Z0.alloc (.cells (tc t) 90)) ⟨⟨some ⟨tb, 0, none⟩, tn, tcap⟩, ⟨la, ln, lcap⟩, ⟨ga, gn, gcap⟩, ⟨fa, fn, fcap⟩, ⟨ra, rn, rcap⟩⟩ s) := HS0.out.keeps ((Keeps.refl _).alloc _)
  have ftb : Hid (∀ i, ¬ ofKind ⟨⟨some ⟨tb, 0, none⟩, tn, tcap⟩, ⟨la, ln, lcap⟩, ⟨ga, gn, gcap⟩, ⟨fa, fn, fcap⟩, ⟨ra, rn, rcap⟩⟩ vs i Z0.heap.size) := fun i hi => by have := (A00.out.g.var.own.blkLt hi).2; omega
  have hob : w.heap.size ≠ Z0.heap.size := by have := A00.out.g.var.box.lt; omega
  have hrb : w.heap.size + 2 ≠ Z0.heap.size := by have := A00.out.r.lt; omega
  have C1 : Hid (Blk (Z0.alloc (.cells (tc t) 90)) (w.heap.size + 1) (cc c)) := C0.out.keeps ((Keeps.refl _).alloc _)
  change Code.wp _ _ _ _ (Z0.alloc (.cells (tc t) 90))
  clear T0 T00 hb00 A00 HS0 kZ C0
  generalize Z0.alloc (.cells (tc t) 90) = Z at *
  generalize Z0.heap.size = tbx at *
  have hb0 : ∀ w', Keeps Z w' → ∀ q, w'.cell? ⟨w.heap.size, q, none⟩ = (syc s ⟨⟨some ⟨tb, 0, none⟩, tn, tcap⟩, ⟨la, ln, lcap⟩, ⟨ga, gn, gcap⟩, ⟨fa, fn, fcap⟩, ⟨ra, rn, rcap⟩⟩)[q]? := fun w' k => (A0.out.g.var.box.keeps k).cells
  dsimp only [syc] at hb0
  have ht0 : ∀ w', Keeps Z w' → ∀ j, w'.cell? ⟨tbx, j, none⟩ = (tc t)[j]? := fun w' k => (TB.out.keeps k).cells
  have hc0 : ∀ w', Keeps Z w' → ∀ q, w'.cell? ⟨w.heap.size + 1, q, none⟩ = (cc c)[q]? := fun w' k => (C1.out.keeps k).cells
  have OA : Hid (∀ w', Keeps Z w' → Calls Tryz.prog 96 #[.slice la ln lcap, .int .i64 t.no] w' fun e w'' => e = .returned (.bool oa) ∧ Keeps w' w'') := fun w' kk => HS.out.onL.sOwnsAny t.no Hoa.out kk
  have WA : Hid (∀ w', Keeps Z w' → Calls Tryz.prog 74 #[.slice la ln lcap, .int .i64 t.no] w' fun e w'' => e = .returned (.int .i64 za) ∧ Keeps w' w'') := fun w' kk => HS.out.onL.sWaitAt t.no Hz.out kk
  go_cut [14] (fun b wx => b = .bool bad ∧ Keeps Z wx)
  case first =>
    cases d1 : (t.cls != 3)
    rotate_left
    · have hr : bad = true := by rw [← Hbad.out, d1]; rfl
      go_wp2
      go_meet
      exact ⟨by rw [hr], Keeps.refl _⟩
    cases oa
    rotate_left
    · have hr : bad = true := by rw [← Hbad.out, d1]; rfl
      go_wp2_with (go_at_call 96; refine (OA.out _ (by first | assumption | exact Keeps.refl _ | exact (Keeps.refl _).drew | exact Keeps.drew (by assumption))).mono ?_; rintro e w5 ⟨rfl, k5⟩)
      go_meet
      exact ⟨by rw [hr], k5⟩
    have hr : bad = decide (0 ≤ za) := by rw [← Hbad.out, d1]; rfl
    go_wp2_with (go_at_call 96; refine (OA.out _ (by first | assumption | exact Keeps.refl _ | exact (Keeps.refl _).drew | exact Keeps.drew (by assumption))).mono ?_; rintro e w5 ⟨rfl, k5⟩)
    have k5' : Keeps Z w5 := k5
    go_wp2_with (go_at_call 74; refine (WA.out _ (by first | assumption | exact Keeps.refl _ | exact (Keeps.refl _).drew | exact Keeps.drew (by assumption))).mono ?_; rintro e w6 ⟨rfl, k6⟩)
    go_meet
    exact ⟨by rw [hr], k5.trans k6⟩
  case rest =>
  obtain ⟨rfl, kx⟩ := hcut
  generalize wc = wx at *
  clear OA WA Hbad Hz Hoa
  cases bad
  rotate_left
  · have HN : Hid (moveN s c t = 5) := HN0.out
    have AE := A0.out.keeps kx
    obtain ⟨_, o1, o2⟩ := AE.g.var.box
    dsimp only [syc] at o1
    obtain ⟨_, r1, r2⟩ := AE.r
    go_wp2
    exact AE.ret HN.out (fun h => absurd h (by decide)) rfl (fun Q D => by simp [results, Tryz.results79, go_sem, D])
  cases c2 : inB c.cpu 0 (s.cpus - 1)
  · have HN : Hid (moveN s c t = 1) := by show _ = _; rw [HN0.out, c2]; rfl
    go_wp2_with fail
    refine (l1In_any _ _ _ _).mono ?_
    rintro e w' ⟨rfl, hw'⟩
    have hw2 := hw'.symm
    subst hw2
    rw [c2]
    have AE := A0.out.keeps kx
    obtain ⟨_, o1, o2⟩ := AE.g.var.box
    dsimp only [syc] at o1
    obtain ⟨_, r1, r2⟩ := AE.r
    go_wp2
    exact AE.ret HN.out (fun h => absurd h (by decide)) rfl (fun Q D => by simp [results, Tryz.results79, go_sem, D])
  have HN : Hid (moveN s c t = 0) := by show _ = _; rw [HN0.out, c2]; rfl
  obtain ⟨q0, q1⟩ := inB_iff.1 c2
  obtain ⟨ck, cn, cp, ca, cb⟩ := c
  dsimp only at q0 q1 c2
  obtain ⟨q, rfl⟩ : ∃ q : Nat, cp = (q : Int) := ⟨cp.toNat, by omega⟩
  obtain ⟨p, hp⟩ : ∃ p : Nat, t.cpu = (p : Int) := ⟨t.cpu.toNat, by omega⟩
  obtain ⟨u, rfl⟩ : ∃ u : Tsk, t = { u with cpu := (p : Int) } := ⟨t, by rw [← hp]⟩
  dsimp only at hcpu
  obtain ⟨x1, hx1⟩ := some_in (xs := s.floors) (k := p) (by omega)
  obtain ⟨x2, hx2⟩ := some_in (xs := s.floors) (k := q) (by omega)
  obtain ⟨fb, hfb⟩ := A0.out.g.var.own.floorsAt (k := p) (by omega)
  dsimp only at hfb
  subst hfb
  have hfn := (A0.out.g.var.own.f.row ic_size).1
  dsimp only at hfn
  have hpn : (p : Int) < (fn : Int) := by omega
  have hqn : (q : Int) < (fn : Int) := by omega
  have F1 : ∀ w', Keeps Z w' → w'.cell? ⟨fb, p, none⟩ = some (.int .i64 x1) := fun w' kk => by
    obtain ⟨f1, -, f3, -⟩ := A0.out.g.var.own.floorCell (fb := fb) rfl hx1
    exact (kk.cells fb _ f3).trans f1
  have F2 : ∀ w', Keeps Z w' → w'.cell? ⟨fb, q, none⟩ = some (.int .i64 x2) := fun w' kk => by
    obtain ⟨f1, -, f3, -⟩ := A0.out.g.var.own.floorCell (fb := fb) rfl hx2
    exact (kk.cells fb _ f3).trans f1
  obtain ⟨NT, HNT⟩ : ∃ N, Hid (fairMoveT { u with cpu := (p : Int) } q x1 x2 = N) := ⟨_, rfl⟩
  have HC : Hid ({ (s : Sy) with tasks := s.tasks.set k NT } = moveC s ⟨ck, cn, q, ca, cb⟩ k { u with cpu := (p : Int) }) := by
    show _ = _
    unfold moveC
    dsimp only
    rw [Int.toNat_natCast, Int.toNat_natCast, List.getD_eq_getElem?_getD, List.getD_eq_getElem?_getD, hx1, hx2, Option.getD_some, Option.getD_some, HNT.out]
  clear hx1 hx2 hfn hp hcpu hfl
  go_upto_region 6 with (go_at_call 29; refine (l1In_any _ _ _ _).mono ?_; rintro e w' ⟨rfl, hw'⟩; have hw2 := hw'.symm; subst hw2; rw [c2])
  refine wp_region_late 20 (S := (fun w' => Keeps Z w')) (by kernel_rfl) ?_ (fun hHeld => ?_)
  · exact kx.drew
  refine Plan.go [0, 1, 2, 3, 4, 5, 6, 7, 8, 9, 10, 11, 12, 13, 14, 15, 16, 17] ?_
  iterate 18 (refine lateL (by simp only [opsAt]; rfl) (by kernel_rfl) (by exact fun _ _ _ h => h) (by rfl) (by assumption) (fun w _ => by go_simp; try (with_reducible rfl)) ?_; try simp only [putAtH])
  refine Plan.nil ?_
  refine late_step (i := 18) (by kernel_rfl) (by simp only [List.getElem?_toArray, List.getElem?_cons_succ, List.getElem?_cons_zero]; rfl) (fun K hK => ?_)
  go_simp
  (go_at_call 101; refine (specFairMove_any { u with cpu := (p : Int) } q x1 x2 _).mono ?_; rintro e w8 ⟨rfl, k8⟩; rw [HNT.out])
  try go_wp2_with fail
  refine hK.out _ _ ?_ (fun hHeld => ?_)
  · first | assumption | exact Keeps.trans (by assumption) (by assumption)
  clear hK K
  try simp only [putAtH]
  refine Plan.go [19] ?_
  iterate 1 (refine lateL (by simp only [opsAt]; rfl) (by kernel_rfl) (by exact fun _ _ _ h => h) (by rfl) (by assumption) (fun w _ => by go_simp; try (with_reducible rfl)) ?_; try simp only [putAtH])
  refine Plan.nil ?_
  refine late_last (by kernel_rfl) (by simp only [List.getElem?_toArray, List.getElem?_cons_succ, List.getElem?_cons_zero]; rfl) (by kernel_rfl) (fun K hK => ?_)
  have K8 : Keeps Z w8 := (by assumption); have A8 := A0.out.keeps K8; obtain ⟨z1, z2⟩ := A8.g.var.own.taskCells (rb := tb) rfl (k := k) HK.out; have y0 : w8.cell? ⟨tb, k * 14, none⟩ = some (.int .i64 u.no) := z1 0 (by omega)
  go_simp
  try go_wp2_with fail
  refine hK.out _ _ ?_
  clear hK K
  try simp only [putAtH]
  have AN : Hid (AskR w lo ⟨⟨some ⟨tb, 0, none⟩, tn, tcap⟩, ⟨la, ln, lcap⟩, ⟨ga, gn, gcap⟩, ⟨some ⟨fb, 0, none⟩, fn, fcap⟩, ⟨ra, rn, rcap⟩⟩ vs (putC w8 tb (k * 14) (tc NT).toList) w.heap.size (w.heap.size + 2) ⟨⟨some ⟨tb, 0, none⟩, tn, tcap⟩, ⟨la, ln, lcap⟩, ⟨ga, gn, gcap⟩, ⟨some ⟨fb, 0, none⟩, fn, fcap⟩, ⟨ra, rn, rcap⟩⟩ vs { (s : Sy) with tasks := s.tasks.set k NT }) := A8.task (tb := tb) rfl Hk.out NT
  clear z1 z2 y0 A8 K8 hb0 hc0 ht0 F1 F2 hHeld
  change Exit.then _ _ _ _ (putC w8 tb (k * 14) (tc NT).toList)
  generalize putC w8 tb (k * 14) (tc NT).toList = X9 at *
  have AE := AN.out
  obtain ⟨_, o1, o2⟩ := AE.g.var.box
  dsimp only [syc] at o1
  obtain ⟨_, r1, r2⟩ := AE.r
  go_wp2
  exact AE.ret HN.out (fun _ => HC.out) rfl (fun Q D => by simp [results, Tryz.results79, go_sem, D])
end Go.Proofs.YtpikopdfkhagmaaGreatDoor
