/-
  Drawn systems: a task's number, and what is asked next.
  Drawn systems: a new system, what is asked of it, and what it is then.
-/
import Derived.Test.YthpdlbcdbncnhaaGCall1
import Derived.Test.YthpdlbcdbncnhaaGSum1
import Derived.Test.YthpdlbcdbncnhaaGLock4
import Derived.Deep.Cut
import Derived.Test.YthpdlbcdbncnhaaGCall3
import Derived.Test.YthpdlbcdbncnhaaGSys4
import Derived.Test.YthpdlbcdbncnhaaGDraw2
namespace Go.Proofs.Ythpdlbcdbncnhaa
open Go.RowKit
attribute [local go_sem] KeepsBut.refl KeepsBut.alloc KeepsBut.drew KeepsBut.drewN

set_option maxRecDepth 100000 in
set_option linter.unusedSimpArgs false in
set_option maxHeartbeats 8000000 in
theorem l11Some_any {w : World} {g lo : Nat} {v : Sv} {vs : List Lv} {s : Sy} (hc : Cur w g) (h : OwnS w lo v vs s) (hg : g < lo) (ht : s.tasks.length ≤ 256) :
    Calls Try.prog 34 #[.pointer (some ⟨g, 0, none⟩), .agg (syc s v)] w (DrewI g w) := by
  obtain ⟨⟨ta, tn, tcap⟩, ⟨la, ln, lcap⟩, ⟨ga, gn, gcap⟩, ⟨fa, fn, fcap⟩, ⟨ra, rn, rcap⟩⟩ := v
  have hgl := hc.lt
  have Hn : Hid (s.tasks.length = tn) := (h.t.row tc_size).1
  have htn : tn ≤ 256 := by rw [← Hn.out]; exact ht
  have kZ : Keeps w (w.alloc (.cells (syc s ⟨⟨ta, tn, tcap⟩, ⟨la, ln, lcap⟩, ⟨ga, gn, gcap⟩, ⟨fa, fn, fcap⟩, ⟨ra, rn, rcap⟩⟩) 57)) := (Keeps.refl w).alloc _
  have B0 : Hid (Blk (w.alloc (.cells (syc s ⟨⟨ta, tn, tcap⟩, ⟨la, ln, lcap⟩, ⟨ga, gn, gcap⟩, ⟨fa, fn, fcap⟩, ⟨ra, rn, rcap⟩⟩) 57)) w.heap.size (syc s ⟨⟨ta, tn, tcap⟩, ⟨la, ln, lcap⟩, ⟨ga, gn, gcap⟩, ⟨fa, fn, fcap⟩, ⟨ra, rn, rcap⟩⟩)) := Blk.new _ _ _
  have HC : Cur (w.alloc (.cells (syc s ⟨⟨ta, tn, tcap⟩, ⟨la, ln, lcap⟩, ⟨ga, gn, gcap⟩, ⟨fa, fn, fcap⟩, ⟨ra, rn, rcap⟩⟩) 57)) g := hc.keeps kZ
  have HO : Hid (OwnS (w.alloc (.cells (syc s ⟨⟨ta, tn, tcap⟩, ⟨la, ln, lcap⟩, ⟨ga, gn, gcap⟩, ⟨fa, fn, fcap⟩, ⟨ra, rn, rcap⟩⟩) 57)) lo ⟨⟨ta, tn, tcap⟩, ⟨la, ln, lcap⟩, ⟨ga, gn, gcap⟩, ⟨fa, fn, fcap⟩, ⟨ra, rn, rcap⟩⟩ vs s) := h.keeps kZ
  clear hc h
  go_enter Try.func34, Try.ntmps34
  go_upto_region 1 with fail
  change Code.wp _ _ _ _ (w.alloc (.cells (syc s ⟨⟨ta, tn, tcap⟩, ⟨la, ln, lcap⟩, ⟨ga, gn, gcap⟩, ⟨fa, fn, fcap⟩, ⟨ra, rn, rcap⟩⟩) 57))
  generalize w.alloc (.cells (syc s ⟨⟨ta, tn, tcap⟩, ⟨la, ln, lcap⟩, ⟨ga, gn, gcap⟩, ⟨fa, fn, fcap⟩, ⟨ra, rn, rcap⟩⟩) 57) = Z at *
  have K0 : KeepsBut g Z Z := KeepsBut.refl g Z
  have hob : w.heap.size ≠ g := by omega
  have hb0 : ∀ w', KeepsBut g Z w' → ∀ q, w'.cell? ⟨w.heap.size, q, none⟩ = (syc s ⟨⟨ta, tn, tcap⟩, ⟨la, ln, lcap⟩, ⟨ga, gn, gcap⟩, ⟨fa, fn, fcap⟩, ⟨ra, rn, rcap⟩⟩)[q]? := fun w' k => (B0.out.but k hob).cells
  dsimp only [syc] at hb0
  by_cases h0 : tn = 0
  · have h0' : ((tn : Int) == 0) = true := by simp [h0]
    go_wp2_with (go_at_call 19; refine (l1Below_any g _ _ HC (by omega) (by omega)).mono ?_; rintro e w2 ⟨m2, rfl, m20, m21, hc2, k2⟩; have K2 : KeepsBut g Z w2 := K0.trans k2)
    have hw : IntKind.i64.wrap (1 + m2) = 1 + m2 := Go.IntWalk.i64_in _ (by omega)
    go_wp2
    go_ret
    exact ⟨_, rfl, hc2, (KeepsBut.of kZ).trans K2⟩
  have h0' : ((tn : Int) == 0) = false := by simp; omega
  go_upto_if 12 with (go_at_call 28; refine (l1Once_any g _ _ HC (by omega) (by omega)).mono ?_; rintro e w1 ⟨b1, rfl, hc1, k1⟩; have K1 : KeepsBut g Z w1 := K0.trans k1)
  cases b1
  rotate_left
  · go_wp2_with (go_at_call 19; refine (l1Below_any g _ _ hc1 (by omega) (by omega)).mono ?_; rintro e w2 ⟨m2, rfl, m20, m21, hc2, k2⟩; have K2 : KeepsBut g Z w2 := K1.trans k2)
    have hw : IntKind.i64.wrap (1 + m2) = 1 + m2 := Go.IntWalk.i64_in _ (by omega)
    go_wp2
    go_ret
    exact ⟨_, rfl, hc2, (KeepsBut.of kZ).trans K2⟩
  go_upto_region 3 with fail
  obtain ⟨tb, htb⟩ := HO.out.tasksAt (k := 0) (by rw [Hn.out]; omega)
  dsimp only at htb
  subst htb
  have T0 : Hid (∀ (i : Nat) (x : Tsk), s.tasks[i]? = some x → ∀ w', KeepsBut g Z w' → w'.cell? ⟨tb, i * 14, none⟩ = some (.int .i64 x.no)) := fun i x hi w' kk => by
    have h1 := (HO.out.taskCells (rb := tb) rfl hi).1 0 (by omega)
    have h2 := HO.out.blkLt (i := 0) (b := tb) rfl
    exact (kk.cells tb _ h2.2 (by omega)).trans h1
  have htn1 : 1 ≤ (tn : Int) := by omega
  have htn2 : (tn : Int) ≤ 256 := by omega
  refine wp_region_held_drew (S := (fun w' => KeepsBut g Z w')) (by kernel_rfl) ?_ (fun hHeld => ?_)
  · exact K1.drew
  refine Plan.go [0, 1, 2, 3, 4, 5] ?_
  iterate 6 (refine takeL (by simp only [opsAt]; rfl) (by kernel_rfl) (by exact fun _ _ _ h => h) (by rfl) (by assumption) (fun w _ => by go_simp; try (with_reducible rfl)) ?_; try simp only [putAtH])
  refine Plan.nil ?_
  refine callH 6 (by kernel_rfl) (by simp only [opsAt]; rfl) (fun K hK => ?_)
  go_simp
  (go_at_call 19; refine (l1Below_any g _ _ (hc1.keeps (Keeps.refl _).drew) htn1 htn2).mono ?_; rintro e w3 ⟨m3, rfl, m30, m31, hc3, k3⟩; obtain ⟨j, rfl⟩ : ∃ j : Nat, m3 = (j : Int) := ⟨m3.toNat, by omega⟩; obtain ⟨x, hx⟩ := some_in (xs := s.tasks) (k := j) (by rw [Hn.out]; omega); have r0 := T0.out j x hx)
  try go_wp2_with fail
  refine hK.out _ _ ?_ (fun hHeld => ?_)
  · first | assumption | exact KeepsBut.trans (by assumption) (by assumption)
  clear hK K
  try simp only [putAtH]
  refine Plan.go [7, 8, 9, 10] ?_
  iterate 4 (refine takeL (by simp only [opsAt]; rfl) (by kernel_rfl) (by exact fun _ _ _ h => h) (by rfl) (by assumption) (fun w _ => by go_simp; try (with_reducible rfl)) ?_; try simp only [putAtH])
  refine Plan.nil ?_
  refine wpAnyH_done (by kernel_rfl) ?_ _
  go_wp2
  go_ret
  exact ⟨_, rfl, hc3, (KeepsBut.of kZ).trans (by assumption)⟩
set_option maxRecDepth 100000 in
set_option linter.unusedSimpArgs false in
set_option maxHeartbeats 8000000 in
theorem l11DrawNext_any {w : World} {g lo : Nat} {v : Sv} {vs : List Lv} {s : Sy} (hc : Cur w g) (h : OwnS w lo v vs s) (hg : g < lo) (ht : s.tasks.length ≤ 256) (hcp : s.cpus ≤ 256) :
    Calls Try.prog 31 #[.pointer (some ⟨g, 0, none⟩), .agg (syc s v)] w (DrewC g w) := by
  obtain ⟨⟨ta, tn, tcap⟩, ⟨la, ln, lcap⟩, ⟨ga, gn, gcap⟩, ⟨fa, fn, fcap⟩, ⟨ra, rn, rcap⟩⟩ := v
  have hgl := hc.lt
  have Hn : Hid (s.tasks.length = tn) := (h.t.row tc_size).1
  have htn : tn ≤ 256 := by rw [← Hn.out]; exact ht
  have kZ : Keeps w ((w.alloc (.cells (syc s ⟨⟨ta, tn, tcap⟩, ⟨la, ln, lcap⟩, ⟨ga, gn, gcap⟩, ⟨fa, fn, fcap⟩, ⟨ra, rn, rcap⟩⟩) 57)).alloc (.cells cc0 68)) := ((Keeps.refl w).alloc _).alloc _
  have B0 : Hid (Blk ((w.alloc (.cells (syc s ⟨⟨ta, tn, tcap⟩, ⟨la, ln, lcap⟩, ⟨ga, gn, gcap⟩, ⟨fa, fn, fcap⟩, ⟨ra, rn, rcap⟩⟩) 57)).alloc (.cells cc0 68)) w.heap.size (syc s ⟨⟨ta, tn, tcap⟩, ⟨la, ln, lcap⟩, ⟨ga, gn, gcap⟩, ⟨fa, fn, fcap⟩, ⟨ra, rn, rcap⟩⟩)) := (Blk.new _ _ _).alloc _
  have HC : Cur ((w.alloc (.cells (syc s ⟨⟨ta, tn, tcap⟩, ⟨la, ln, lcap⟩, ⟨ga, gn, gcap⟩, ⟨fa, fn, fcap⟩, ⟨ra, rn, rcap⟩⟩) 57)).alloc (.cells cc0 68)) g := hc.keeps kZ
  have HO : Hid (OwnS ((w.alloc (.cells (syc s ⟨⟨ta, tn, tcap⟩, ⟨la, ln, lcap⟩, ⟨ga, gn, gcap⟩, ⟨fa, fn, fcap⟩, ⟨ra, rn, rcap⟩⟩) 57)).alloc (.cells cc0 68)) lo ⟨⟨ta, tn, tcap⟩, ⟨la, ln, lcap⟩, ⟨ga, gn, gcap⟩, ⟨fa, fn, fcap⟩, ⟨ra, rn, rcap⟩⟩ vs s) := h.keeps kZ
  have R0 : Hid (Blk ((w.alloc (.cells (syc s ⟨⟨ta, tn, tcap⟩, ⟨la, ln, lcap⟩, ⟨ga, gn, gcap⟩, ⟨fa, fn, fcap⟩, ⟨ra, rn, rcap⟩⟩) 57)).alloc (.cells cc0 68)) (w.heap.size + 1) cc0) := by
    have := Blk.new (w.alloc (.cells (syc s ⟨⟨ta, tn, tcap⟩, ⟨la, ln, lcap⟩, ⟨ga, gn, gcap⟩, ⟨fa, fn, fcap⟩, ⟨ra, rn, rcap⟩⟩) 57)) cc0 68
    show Blk _ _ _
    simpa using this
  clear hc h
  have hmax1 : 1 ≤ max s.cpus 1 := by omega
  have hmax2 : max s.cpus 1 ≤ 256 := by omega
  go_enter Try.func31, Try.ntmps31
  go_upto_region 1 with fail
  change Code.wp _ _ _ _ ((w.alloc (.cells (syc s ⟨⟨ta, tn, tcap⟩, ⟨la, ln, lcap⟩, ⟨ga, gn, gcap⟩, ⟨fa, fn, fcap⟩, ⟨ra, rn, rcap⟩⟩) 57)).alloc (.cells cc0 68))
  generalize (w.alloc (.cells (syc s ⟨⟨ta, tn, tcap⟩, ⟨la, ln, lcap⟩, ⟨ga, gn, gcap⟩, ⟨fa, fn, fcap⟩, ⟨ra, rn, rcap⟩⟩) 57)).alloc (.cells cc0 68) = Z at *
  have K0 : KeepsBut g Z Z := KeepsBut.refl g Z
  have hob : w.heap.size ≠ g := by omega
  have hrb : w.heap.size + 1 ≠ g := by omega
  have hb0 : ∀ w', KeepsBut g Z w' → ∀ q, w'.cell? ⟨w.heap.size, q, none⟩ = (syc s ⟨⟨ta, tn, tcap⟩, ⟨la, ln, lcap⟩, ⟨ga, gn, gcap⟩, ⟨fa, fn, fcap⟩, ⟨ra, rn, rcap⟩⟩)[q]? := fun w' k => (B0.out.but k hob).cells
  dsimp only [syc] at hb0
  go_upto_region 2 with (go_at_call 34; refine (l11Some_any HC HO.out hg ht).mono ?_; rintro e w1 ⟨no, rfl, hc1, k1⟩; have K1 : KeepsBut g Z w1 := K0.trans k1)
  go_upto_region 3 with first
    | (go_at_call 35; refine (l1Max_anyG _ _ _).mono ?_; rintro e w' ⟨rfl, hw'⟩; have hw2 := hw'.symm; subst hw2)
    | (go_at_call 19; refine (l1Below_any g _ _ hc1 hmax1 hmax2).mono ?_; rintro e w2 ⟨cpu, rfl, m20, m21, hc2, k2⟩; have K2 : KeepsBut g Z w2 := K1.trans k2)
  clear k1 k2 K1 hc1
  go_upto_region 3 with fail
  go_cut [25] (fun b wx => ∃ t : Bool, b = .bool t ∧ Cur wx g ∧ KeepsBut g Z wx)
  case first =>
    by_cases h3 : (tn : Int) < 3
    · have h3' : decide ((tn : Int) < 3) = true := by simpa using h3
      go_wp2
      go_meet
      exact ⟨true, rfl, hc2, K2⟩
    · have h3' : decide ((tn : Int) < 3) = false := by simpa using h3
      go_wp2_with (go_at_call 28; refine (l1Once_any g _ _ hc2 (by omega) (by omega)).mono ?_; rintro e w4 ⟨b4, rfl, hc4, k4⟩; have K4 : KeepsBut g Z w4 := K2.trans k4)
      go_meet
      exact ⟨b4, rfl, hc4, K4⟩
  case rest =>
  obtain ⟨tst, rfl, hc5, K5⟩ := hcut
  generalize wc = w5 at *
  clear hc2 K2 m20 m21
  cases tst
  rotate_left
  · go_upto_region 5 with (go_at_call 19; refine (l1Below_any g _ _ hc5 (by omega) (by omega)).mono ?_; rintro e w6 ⟨m6, rfl, m60, m61, hc6, k6⟩; have K6 : KeepsBut g Z w6 := K5.trans k6)
    have hw6 : IntKind.i64.wrap (1 + m6) = 1 + m6 := Go.IntWalk.i64_in _ (by omega)
    go_upto_region 6 with (go_at_call 19; refine (l1Below_any g _ _ hc6 (by omega) (by omega)).mono ?_; rintro e w7 ⟨m7, rfl, m70, m71, hc7, k7⟩; have K7 : KeepsBut g Z w7 := K6.trans k7)
    have few : 1 ≤ 1 + m6 ∧ 1 + m6 ≤ 12 := by omega
    cases a0 : (m7 == 0)
    · cases a1 : (m7 == 1)
      · cases a2 : (m7 == 2)
        · go_wp2_with (go_at_call 19; refine (l1Below_any g _ _ hc7 (by omega) (by omega)).mono ?_; rintro e w8 ⟨m8, rfl, m80, m81, hc8, k8⟩; have K8 : KeepsBut g Z w8 := K7.trans k8; obtain ⟨_, d1, d2⟩ := R0.out.but K8 hrb)
          obtain ⟨D, CQ, KQ⟩ := drewC_end R0.out hgl (by omega) (KeepsBut.of kZ) hc8 K8 ⟨3, 1 + m6, cpu, m8 - 4, 0⟩
          change bodyPost _ _ _ _ _ (putC w8 (w.heap.size + 1) 0 (cc ⟨3, 1 + m6, cpu, m8 - 4, 0⟩).toList)
          generalize putC w8 (w.heap.size + 1) 0 (cc ⟨3, 1 + m6, cpu, m8 - 4, 0⟩).toList = Q at D CQ KQ ⊢
          exact bodyPost_ret (v := ck ⟨3, 1 + m6, cpu, m8 - 4, 0⟩) (by simp [results, Try.results31, go_sem, D.cells]) rfl ⟨⟨3, 1 + m6, cpu, m8 - 4, 0⟩, rfl, fun _ => few, CQ, KQ⟩
        · go_wp2_with (go_at_call 19; refine (l1Below_any g _ _ hc7 (by omega) (by omega)).mono ?_; rintro e w8 ⟨m8, rfl, m80, m81, hc8, k8⟩; have K8 : KeepsBut g Z w8 := K7.trans k8; clear hc7)
          go_wp2_with (go_at_call 19; refine (l1Below_any g _ _ hc8 (by omega) (by omega)).mono ?_; rintro e w9 ⟨m9, rfl, m90, m91, hc9, k9⟩; have K9 : KeepsBut g Z w9 := K8.trans k9; obtain ⟨_, d1, d2⟩ := R0.out.but K9 hrb)
          obtain ⟨D, CQ, KQ⟩ := drewC_end R0.out hgl (by omega) (KeepsBut.of kZ) hc9 K9 ⟨2, 1 + m6, cpu, 1 + m8, m9⟩
          change bodyPost _ _ _ _ _ (putC w9 (w.heap.size + 1) 0 (cc ⟨2, 1 + m6, cpu, 1 + m8, m9⟩).toList)
          generalize putC w9 (w.heap.size + 1) 0 (cc ⟨2, 1 + m6, cpu, 1 + m8, m9⟩).toList = Q at D CQ KQ ⊢
          exact bodyPost_ret (v := ck ⟨2, 1 + m6, cpu, 1 + m8, m9⟩) (by simp [results, Try.results31, go_sem, D.cells]) rfl ⟨⟨2, 1 + m6, cpu, 1 + m8, m9⟩, rfl, fun _ => few, CQ, KQ⟩
      · go_upto_region 9 with (go_at_call 19; refine (l1Below_any g _ _ hc7 (by omega) (by omega)).mono ?_; rintro e w8 ⟨m8, rfl, m80, m81, hc8, k8⟩; have K8 : KeepsBut g Z w8 := K7.trans k8)
        have hq : (2 + m8).tdiv 2 = (2 + m8) / 2 := Int.tdiv_eq_ediv_of_nonneg (by omega)
        have hq1 : 1 ≤ (2 + m8).tdiv 2 := by rw [hq]; omega
        have hq2 : (2 + m8).tdiv 2 ≤ 256 := by rw [hq]; omega
        clear hq
        go_wp2_with (go_at_call 19; refine (l1Below_any g _ _ hc8 hq1 hq2).mono ?_; rintro e w9 ⟨m9, rfl, m90, m91, hc9, k9⟩; have K9 : KeepsBut g Z w9 := K8.trans k9; have m9b : m9 < 256 := Int.lt_of_lt_of_le m91 hq2; obtain ⟨_, d1, d2⟩ := R0.out.but K9 hrb)
        obtain ⟨D, CQ, KQ⟩ := drewC_end R0.out hgl (by omega) (KeepsBut.of kZ) hc9 K9 ⟨1, 1 + m6, cpu, 1 + m9, 2 + m8⟩
        change bodyPost _ _ _ _ _ (putC w9 (w.heap.size + 1) 0 (cc ⟨1, 1 + m6, cpu, 1 + m9, 2 + m8⟩).toList)
        generalize putC w9 (w.heap.size + 1) 0 (cc ⟨1, 1 + m6, cpu, 1 + m9, 2 + m8⟩).toList = Q at D CQ KQ ⊢
        exact bodyPost_ret (v := ck ⟨1, 1 + m6, cpu, 1 + m9, 2 + m8⟩) (by simp [results, Try.results31, go_sem, D.cells]) rfl ⟨⟨1, 1 + m6, cpu, 1 + m9, 2 + m8⟩, rfl, fun _ => few, CQ, KQ⟩
    · go_upto_region 9 with (go_at_call 19; refine (l1Below_any g _ _ hc7 (by omega) (by omega)).mono ?_; rintro e w8 ⟨m8, rfl, m80, m81, hc8, k8⟩; have K8 : KeepsBut g Z w8 := K7.trans k8)
      have hq : (2 + m8).tdiv 2 = (2 + m8) / 2 := Int.tdiv_eq_ediv_of_nonneg (by omega)
      have hq1 : 1 ≤ (2 + m8).tdiv 2 := by rw [hq]; omega
      have hq2 : (2 + m8).tdiv 2 ≤ 256 := by rw [hq]; omega
      clear hq
      go_wp2_with (go_at_call 19; refine (l1Below_any g _ _ hc8 hq1 hq2).mono ?_; rintro e w9 ⟨m9, rfl, m90, m91, hc9, k9⟩; have K9 : KeepsBut g Z w9 := K8.trans k9; have m9b : m9 < 256 := Int.lt_of_lt_of_le m91 hq2; obtain ⟨_, d1, d2⟩ := R0.out.but K9 hrb)
      obtain ⟨D, CQ, KQ⟩ := drewC_end R0.out hgl (by omega) (KeepsBut.of kZ) hc9 K9 ⟨1, 1 + m6, cpu, 1 + m9, 2 + m8⟩
      change bodyPost _ _ _ _ _ (putC w9 (w.heap.size + 1) 0 (cc ⟨1, 1 + m6, cpu, 1 + m9, 2 + m8⟩).toList)
      generalize putC w9 (w.heap.size + 1) 0 (cc ⟨1, 1 + m6, cpu, 1 + m9, 2 + m8⟩).toList = Q at D CQ KQ ⊢
      exact bodyPost_ret (v := ck ⟨1, 1 + m6, cpu, 1 + m9, 2 + m8⟩) (by simp [results, Try.results31, go_sem, D.cells]) rfl ⟨⟨1, 1 + m6, cpu, 1 + m9, 2 + m8⟩, rfl, fun _ => few, CQ, KQ⟩
  have HLn : Hid (s.locks.length = ln) := by
    obtain ⟨a, cap, e, -, -, -⟩ := HO.out.l.args
    simp only [Rw.val, Value.slice.injEq] at e
    exact e.2.1.symm
  go_wp2_with fail
  go_loopw [8] (fun i wr => ∃ k : Nat, k ≤ tn ∧ i = .int .i64 k ∧ Cur wr g ∧ KeepsBut g Z wr) (fun i _ => tn - (intOf i).toNat)
  case atStart => exact ⟨0, Nat.zero_le _, rfl, hc5, K5⟩
  case round =>
    obtain ⟨k, hk, rfl, hcr, Kr⟩ := hrel
    clear hc5 K5
    by_cases hlt : k < tn
    · have hlt' : (k : Int) < (tn : Int) := by omega
      obtain ⟨t, hkt⟩ := some_in (xs := s.tasks) (k := k) (by rw [Hn.out]; exact hlt)
      obtain ⟨tb, htb⟩ := HO.out.tasksAt (k := k) (by rw [Hn.out]; exact hlt)
      dsimp only at htb
      subst htb
      have T3 : ∀ w', KeepsBut g Z w' → w'.cell? ⟨tb, k * 14 + 3, none⟩ = some (.int .i64 t.st) := fun w' kk => (kk.cells tb _ (HO.out.blkLt (i := 0) (b := tb) rfl).2 (by have := (HO.out.blkLt (i := 0) (b := tb) rfl).1; omega)).trans ((HO.out.taskCells (rb := tb) rfl hkt).1 3 (by omega))
      have T0 : ∀ w', KeepsBut g Z w' → w'.cell? ⟨tb, k * 14, none⟩ = some (.int .i64 t.no) := fun w' kk => (kk.cells tb _ (HO.out.blkLt (i := 0) (b := tb) rfl).2 (by have := (HO.out.blkLt (i := 0) (b := tb) rfl).1; omega)).trans ((HO.out.taskCells (rb := tb) rfl hkt).1 0 (by omega))
      clear hkt
      cases d1 : (t.st == 2)
      · go_wp2
        exact ⟨⟨k + 1, by omega, by go_num, hcr, Kr⟩, by simp only [intOf]; omega⟩
      go_upto_if 79 with (go_at_call 28; refine (l1Once_any g _ _ hcr (by omega) (by omega)).mono ?_; rintro e w11 ⟨b11, rfl, hc11, k11⟩; have K11 : KeepsBut g Z w11 := Kr.trans k11)
      cases b11
      · go_wp2
        exact ⟨⟨k + 1, by omega, by go_num, hc11, K11⟩, by simp only [intOf]; omega⟩
      obtain ⟨_, d1, d2⟩ := R0.out.but K11 hrb
      go_wp2
      obtain ⟨D, CQ, KQ⟩ := drewC_end R0.out hgl (by omega) (KeepsBut.of kZ) hc11 K11 ⟨5, t.no, 0, 0, 0⟩
      change bodyPost _ _ _ _ _ (putC w11 (w.heap.size + 1) 0 (cc ⟨5, t.no, 0, 0, 0⟩).toList)
      generalize putC w11 (w.heap.size + 1) 0 (cc ⟨5, t.no, 0, 0, 0⟩).toList = Q at D CQ KQ ⊢
      exact bodyPost_ret (v := ck ⟨5, t.no, 0, 0, 0⟩) (by simp [results, Try.results31, go_sem, D.cells]) rfl ⟨⟨5, t.no, 0, 0, 0⟩, rfl, (fun h => by dsimp only at h; omega), CQ, KQ⟩
    · have hlt' : decide ((k : Int) < (tn : Int)) = false := by simp; omega
      go_upto_region 19 with (go_at_call 19; refine (l1Below_any g _ _ hcr (by omega) (by omega)).mono ?_; rintro e w12 ⟨m12, rfl, m120, m121, hc12, k12⟩; have K12 : KeepsBut g Z w12 := Kr.trans k12)
      cases q0 : (m12 == 0)
      rotate_left
      · obtain ⟨_, d1, d2⟩ := R0.out.but K12 hrb
        go_wp2
        obtain ⟨D, CQ, KQ⟩ := drewC_end R0.out hgl (by omega) (KeepsBut.of kZ) hc12 K12 ⟨4, no, 0, 0, 0⟩
        change bodyPost _ _ _ _ _ (putC w12 (w.heap.size + 1) 0 (cc ⟨4, no, 0, 0, 0⟩).toList)
        generalize putC w12 (w.heap.size + 1) 0 (cc ⟨4, no, 0, 0, 0⟩).toList = Q at D CQ KQ ⊢
        exact bodyPost_ret (v := ck ⟨4, no, 0, 0, 0⟩) (by simp [results, Try.results31, go_sem, D.cells]) rfl ⟨⟨4, no, 0, 0, 0⟩, rfl, (fun h => by dsimp only at h; omega), CQ, KQ⟩
      cases q1 : (m12 == 1)
      rotate_left
      · obtain ⟨_, d1, d2⟩ := R0.out.but K12 hrb
        go_wp2
        obtain ⟨D, CQ, KQ⟩ := drewC_end R0.out hgl (by omega) (KeepsBut.of kZ) hc12 K12 ⟨4, no, 0, 0, 0⟩
        change bodyPost _ _ _ _ _ (putC w12 (w.heap.size + 1) 0 (cc ⟨4, no, 0, 0, 0⟩).toList)
        generalize putC w12 (w.heap.size + 1) 0 (cc ⟨4, no, 0, 0, 0⟩).toList = Q at D CQ KQ ⊢
        exact bodyPost_ret (v := ck ⟨4, no, 0, 0, 0⟩) (by simp [results, Try.results31, go_sem, D.cells]) rfl ⟨⟨4, no, 0, 0, 0⟩, rfl, (fun h => by dsimp only at h; omega), CQ, KQ⟩
      cases q2 : (m12 == 2)
      rotate_left
      · obtain ⟨_, d1, d2⟩ := R0.out.but K12 hrb
        go_wp2
        obtain ⟨D, CQ, KQ⟩ := drewC_end R0.out hgl (by omega) (KeepsBut.of kZ) hc12 K12 ⟨5, no, 0, 0, 0⟩
        change bodyPost _ _ _ _ _ (putC w12 (w.heap.size + 1) 0 (cc ⟨5, no, 0, 0, 0⟩).toList)
        generalize putC w12 (w.heap.size + 1) 0 (cc ⟨5, no, 0, 0, 0⟩).toList = Q at D CQ KQ ⊢
        exact bodyPost_ret (v := ck ⟨5, no, 0, 0, 0⟩) (by simp [results, Try.results31, go_sem, D.cells]) rfl ⟨⟨5, no, 0, 0, 0⟩, rfl, (fun h => by dsimp only at h; omega), CQ, KQ⟩
      cases q3 : (m12 == 3)
      rotate_left
      · obtain ⟨_, d1, d2⟩ := R0.out.but K12 hrb
        go_wp2
        obtain ⟨D, CQ, KQ⟩ := drewC_end R0.out hgl (by omega) (KeepsBut.of kZ) hc12 K12 ⟨6, no, 0, 0, 0⟩
        change bodyPost _ _ _ _ _ (putC w12 (w.heap.size + 1) 0 (cc ⟨6, no, 0, 0, 0⟩).toList)
        generalize putC w12 (w.heap.size + 1) 0 (cc ⟨6, no, 0, 0, 0⟩).toList = Q at D CQ KQ ⊢
        exact bodyPost_ret (v := ck ⟨6, no, 0, 0, 0⟩) (by simp [results, Try.results31, go_sem, D.cells]) rfl ⟨⟨6, no, 0, 0, 0⟩, rfl, (fun h => by dsimp only at h; omega), CQ, KQ⟩
      cases q4 : (m12 == 4)
      rotate_left
      · go_wp2_with (go_at_call 19; refine (l1Below_any g _ _ hc12 (by omega) (by omega)).mono ?_; rintro e w13 ⟨m13, rfl, m130, m131, hc13, k13⟩; have K13 : KeepsBut g Z w13 := K12.trans k13; obtain ⟨_, d1, d2⟩ := R0.out.but K13 hrb)
        obtain ⟨D, CQ, KQ⟩ := drewC_end R0.out hgl (by omega) (KeepsBut.of kZ) hc13 K13 ⟨7, no, 0, m13, 0⟩
        change bodyPost _ _ _ _ _ (putC w13 (w.heap.size + 1) 0 (cc ⟨7, no, 0, m13, 0⟩).toList)
        generalize putC w13 (w.heap.size + 1) 0 (cc ⟨7, no, 0, m13, 0⟩).toList = Q at D CQ KQ ⊢
        exact bodyPost_ret (v := ck ⟨7, no, 0, m13, 0⟩) (by simp [results, Try.results31, go_sem, D.cells]) rfl ⟨⟨7, no, 0, m13, 0⟩, rfl, (fun h => by dsimp only at h; omega), CQ, KQ⟩
      cases q5 : (m12 == 5)
      rotate_left
      · go_wp2_with (go_at_call 19; refine (l1Below_any g _ _ hc12 (by omega) (by omega)).mono ?_; rintro e w13 ⟨m13, rfl, m130, m131, hc13, k13⟩; have K13 : KeepsBut g Z w13 := K12.trans k13; obtain ⟨_, d1, d2⟩ := R0.out.but K13 hrb)
        obtain ⟨D, CQ, KQ⟩ := drewC_end R0.out hgl (by omega) (KeepsBut.of kZ) hc13 K13 ⟨7, no, 0, m13, 0⟩
        change bodyPost _ _ _ _ _ (putC w13 (w.heap.size + 1) 0 (cc ⟨7, no, 0, m13, 0⟩).toList)
        generalize putC w13 (w.heap.size + 1) 0 (cc ⟨7, no, 0, m13, 0⟩).toList = Q at D CQ KQ ⊢
        exact bodyPost_ret (v := ck ⟨7, no, 0, m13, 0⟩) (by simp [results, Try.results31, go_sem, D.cells]) rfl ⟨⟨7, no, 0, m13, 0⟩, rfl, (fun h => by dsimp only at h; omega), CQ, KQ⟩
      cases q6 : (m12 == 6)
      rotate_left
      · go_wp2_with (go_at_call 19; refine (l1Below_any g _ _ hc12 (by omega) (by omega)).mono ?_; rintro e w13 ⟨m13, rfl, m130, m131, hc13, k13⟩; have K13 : KeepsBut g Z w13 := K12.trans k13; obtain ⟨_, d1, d2⟩ := R0.out.but K13 hrb)
        obtain ⟨D, CQ, KQ⟩ := drewC_end R0.out hgl (by omega) (KeepsBut.of kZ) hc13 K13 ⟨7, no, 0, m13, 0⟩
        change bodyPost _ _ _ _ _ (putC w13 (w.heap.size + 1) 0 (cc ⟨7, no, 0, m13, 0⟩).toList)
        generalize putC w13 (w.heap.size + 1) 0 (cc ⟨7, no, 0, m13, 0⟩).toList = Q at D CQ KQ ⊢
        exact bodyPost_ret (v := ck ⟨7, no, 0, m13, 0⟩) (by simp [results, Try.results31, go_sem, D.cells]) rfl ⟨⟨7, no, 0, m13, 0⟩, rfl, (fun h => by dsimp only at h; omega), CQ, KQ⟩
      cases q7 : (m12 == 7)
      rotate_left
      · go_upto_region 33 with (go_at_call 19; refine (l1Below_any g _ _ hc12 (by omega) (by omega)).mono ?_; rintro e w13 ⟨m13, rfl, m130, m131, hc13, k13⟩; have K13 : KeepsBut g Z w13 := K12.trans k13)
        obtain ⟨_, d1, d2⟩ := R0.out.but K13 hrb
        obtain ⟨j, rfl⟩ : ∃ j : Nat, m13 = (j : Int) := ⟨m13.toNat, by omega⟩
        by_cases hl3 : (3 : Int) < (ln : Int)
        · obtain ⟨l, hli⟩ := some_in (xs := s.locks) (k := j) (by rw [HLn.out]; omega)
          obtain ⟨lb, hlb, LC⟩ := HO.out.lockAt hli
          dsimp only at hlb
          subst hlb
          have LB : ∀ w', KeepsBut g Z w' → w'.cell? ⟨lb, j * 2, none⟩ = some (.int .i64 l.owner) := fun w' kk => (kk.cells lb _ LC.2.2 (by have := LC.2.1; omega)).trans LC.1
          have hjl : (j : Int) < (ln : Int) := by omega
          clear LC hli
          by_cases hlo : 0 < l.owner
          · go_wp2
            obtain ⟨D, CQ, KQ⟩ := drewC_end R0.out hgl (by omega) (KeepsBut.of kZ) hc13 K13 ⟨8, l.owner, 0, j, 0⟩
            change bodyPost _ _ _ _ _ (putC w13 (w.heap.size + 1) 0 (cc ⟨8, l.owner, 0, j, 0⟩).toList)
            generalize putC w13 (w.heap.size + 1) 0 (cc ⟨8, l.owner, 0, j, 0⟩).toList = Q at D CQ KQ ⊢
            exact bodyPost_ret (v := ck ⟨8, l.owner, 0, j, 0⟩) (by simp [results, Try.results31, go_sem, D.cells]) rfl ⟨⟨8, l.owner, 0, j, 0⟩, rfl, (fun h => by dsimp only at h; omega), CQ, KQ⟩
          · go_wp2
            obtain ⟨D, CQ, KQ⟩ := drewC_end R0.out hgl (by omega) (KeepsBut.of kZ) hc13 K13 ⟨8, no, 0, j, 0⟩
            change bodyPost _ _ _ _ _ (putC w13 (w.heap.size + 1) 0 (cc ⟨8, no, 0, j, 0⟩).toList)
            generalize putC w13 (w.heap.size + 1) 0 (cc ⟨8, no, 0, j, 0⟩).toList = Q at D CQ KQ ⊢
            exact bodyPost_ret (v := ck ⟨8, no, 0, j, 0⟩) (by simp [results, Try.results31, go_sem, D.cells]) rfl ⟨⟨8, no, 0, j, 0⟩, rfl, (fun h => by dsimp only at h; omega), CQ, KQ⟩
        · go_wp2
          obtain ⟨D, CQ, KQ⟩ := drewC_end R0.out hgl (by omega) (KeepsBut.of kZ) hc13 K13 ⟨8, no, 0, j, 0⟩
          change bodyPost _ _ _ _ _ (putC w13 (w.heap.size + 1) 0 (cc ⟨8, no, 0, j, 0⟩).toList)
          generalize putC w13 (w.heap.size + 1) 0 (cc ⟨8, no, 0, j, 0⟩).toList = Q at D CQ KQ ⊢
          exact bodyPost_ret (v := ck ⟨8, no, 0, j, 0⟩) (by simp [results, Try.results31, go_sem, D.cells]) rfl ⟨⟨8, no, 0, j, 0⟩, rfl, (fun h => by dsimp only at h; omega), CQ, KQ⟩
      cases q8 : (m12 == 8)
      rotate_left
      · go_upto_region 33 with (go_at_call 19; refine (l1Below_any g _ _ hc12 (by omega) (by omega)).mono ?_; rintro e w13 ⟨m13, rfl, m130, m131, hc13, k13⟩; have K13 : KeepsBut g Z w13 := K12.trans k13)
        obtain ⟨_, d1, d2⟩ := R0.out.but K13 hrb
        obtain ⟨j, rfl⟩ : ∃ j : Nat, m13 = (j : Int) := ⟨m13.toNat, by omega⟩
        by_cases hl3 : (3 : Int) < (ln : Int)
        · obtain ⟨l, hli⟩ := some_in (xs := s.locks) (k := j) (by rw [HLn.out]; omega)
          obtain ⟨lb, hlb, LC⟩ := HO.out.lockAt hli
          dsimp only at hlb
          subst hlb
          have LB : ∀ w', KeepsBut g Z w' → w'.cell? ⟨lb, j * 2, none⟩ = some (.int .i64 l.owner) := fun w' kk => (kk.cells lb _ LC.2.2 (by have := LC.2.1; omega)).trans LC.1
          have hjl : (j : Int) < (ln : Int) := by omega
          clear LC hli
          by_cases hlo : 0 < l.owner
          · go_wp2
            obtain ⟨D, CQ, KQ⟩ := drewC_end R0.out hgl (by omega) (KeepsBut.of kZ) hc13 K13 ⟨8, l.owner, 0, j, 0⟩
            change bodyPost _ _ _ _ _ (putC w13 (w.heap.size + 1) 0 (cc ⟨8, l.owner, 0, j, 0⟩).toList)
            generalize putC w13 (w.heap.size + 1) 0 (cc ⟨8, l.owner, 0, j, 0⟩).toList = Q at D CQ KQ ⊢
            exact bodyPost_ret (v := ck ⟨8, l.owner, 0, j, 0⟩) (by simp [results, Try.results31, go_sem, D.cells]) rfl ⟨⟨8, l.owner, 0, j, 0⟩, rfl, (fun h => by dsimp only at h; omega), CQ, KQ⟩
          · go_wp2
            obtain ⟨D, CQ, KQ⟩ := drewC_end R0.out hgl (by omega) (KeepsBut.of kZ) hc13 K13 ⟨8, no, 0, j, 0⟩
            change bodyPost _ _ _ _ _ (putC w13 (w.heap.size + 1) 0 (cc ⟨8, no, 0, j, 0⟩).toList)
            generalize putC w13 (w.heap.size + 1) 0 (cc ⟨8, no, 0, j, 0⟩).toList = Q at D CQ KQ ⊢
            exact bodyPost_ret (v := ck ⟨8, no, 0, j, 0⟩) (by simp [results, Try.results31, go_sem, D.cells]) rfl ⟨⟨8, no, 0, j, 0⟩, rfl, (fun h => by dsimp only at h; omega), CQ, KQ⟩
        · go_wp2
          obtain ⟨D, CQ, KQ⟩ := drewC_end R0.out hgl (by omega) (KeepsBut.of kZ) hc13 K13 ⟨8, no, 0, j, 0⟩
          change bodyPost _ _ _ _ _ (putC w13 (w.heap.size + 1) 0 (cc ⟨8, no, 0, j, 0⟩).toList)
          generalize putC w13 (w.heap.size + 1) 0 (cc ⟨8, no, 0, j, 0⟩).toList = Q at D CQ KQ ⊢
          exact bodyPost_ret (v := ck ⟨8, no, 0, j, 0⟩) (by simp [results, Try.results31, go_sem, D.cells]) rfl ⟨⟨8, no, 0, j, 0⟩, rfl, (fun h => by dsimp only at h; omega), CQ, KQ⟩
      cases q9 : (m12 == 9)
      rotate_left
      · go_wp2_with (go_at_call 19; refine (l1Below_any g _ _ hc12 (by omega) (by omega)).mono ?_; rintro e w13 ⟨m13, rfl, m130, m131, hc13, k13⟩; have K13 : KeepsBut g Z w13 := K12.trans k13; obtain ⟨_, d1, d2⟩ := R0.out.but K13 hrb)
        obtain ⟨D, CQ, KQ⟩ := drewC_end R0.out hgl (by omega) (KeepsBut.of kZ) hc13 K13 ⟨9, no, 0, m13 - 4, 0⟩
        change bodyPost _ _ _ _ _ (putC w13 (w.heap.size + 1) 0 (cc ⟨9, no, 0, m13 - 4, 0⟩).toList)
        generalize putC w13 (w.heap.size + 1) 0 (cc ⟨9, no, 0, m13 - 4, 0⟩).toList = Q at D CQ KQ ⊢
        exact bodyPost_ret (v := ck ⟨9, no, 0, m13 - 4, 0⟩) (by simp [results, Try.results31, go_sem, D.cells]) rfl ⟨⟨9, no, 0, m13 - 4, 0⟩, rfl, (fun h => by dsimp only at h; omega), CQ, KQ⟩
      cases q10 : (m12 == 10)
      rotate_left
      · obtain ⟨_, d1, d2⟩ := R0.out.but K12 hrb
        go_wp2
        obtain ⟨D, CQ, KQ⟩ := drewC_end R0.out hgl (by omega) (KeepsBut.of kZ) hc12 K12 ⟨10, no, cpu, 0, 0⟩
        change bodyPost _ _ _ _ _ (putC w12 (w.heap.size + 1) 0 (cc ⟨10, no, cpu, 0, 0⟩).toList)
        generalize putC w12 (w.heap.size + 1) 0 (cc ⟨10, no, cpu, 0, 0⟩).toList = Q at D CQ KQ ⊢
        exact bodyPost_ret (v := ck ⟨10, no, cpu, 0, 0⟩) (by simp [results, Try.results31, go_sem, D.cells]) rfl ⟨⟨10, no, cpu, 0, 0⟩, rfl, (fun h => by dsimp only at h; omega), CQ, KQ⟩
      go_wp2_with (go_at_call 19; refine (l1Below_any g _ _ hc12 (by omega) (by omega)).mono ?_; rintro e w13 ⟨m13, rfl, m130, m131, hc13, k13⟩; have K13 : KeepsBut g Z w13 := K12.trans k13; obtain ⟨_, d1, d2⟩ := R0.out.but K13 hrb)
      obtain ⟨D, CQ, KQ⟩ := drewC_end R0.out hgl (by omega) (KeepsBut.of kZ) hc13 K13 ⟨11, 0, 0, 1 + m13, 0⟩
      change bodyPost _ _ _ _ _ (putC w13 (w.heap.size + 1) 0 (cc ⟨11, 0, 0, 1 + m13, 0⟩).toList)
      generalize putC w13 (w.heap.size + 1) 0 (cc ⟨11, 0, 0, 1 + m13, 0⟩).toList = Q at D CQ KQ ⊢
      exact bodyPost_ret (v := ck ⟨11, 0, 0, 1 + m13, 0⟩) (by simp [results, Try.results31, go_sem, D.cells]) rfl ⟨⟨11, 0, 0, 1 + m13, 0⟩, rfl, (fun h => by dsimp only at h; omega), CQ, KQ⟩
end Go.Proofs.Ythpdlbcdbncnhaa
namespace Go.Proofs.Ythpdlbcdbncnhaa
open Go.RowKit

theorem cc_one (c : Cl) : ∀ u ∈ (cc c).toList, u.oneCell' = true := by
  intro u hu
  simp at hu
  rcases hu with rfl | rfl | rfl | rfl | rfl <;> rfl
/-- While a run is drawn: the cursor in block g, cells for what is told, the new system (its box in block sb), what it is now (its box in block ob), and the row of what was asked. -/
structure DV (w wr : World) (g lb sb ob : Nat) (v0 : Sv) (vs0 : List Lv) (s0 : Sy) (v : Sv) (vs : List Lv) (s : Sy) (u : Value) (cs : List Cl) : Prop where
  cur : Cur wr g
  kb : KeepsBut g w wr
  gl : g < w.heap.size
  r1 : Blk wr w.heap.size zc
  r2 : Blk wr (w.heap.size + 1) zc
  st : OwnS wr (w.heap.size + 2) v0 vs0 s0
  sbx : Blk wr sb (syc s0 v0)
  own : OwnS wr (w.heap.size + 2) v vs s
  box : Blk wr ob (syc s v)
  row : Own 68 5 cc wr lb u cs
  stl : ∀ i b, ofKind v0 vs0 i b → b < sb
  ord : w.heap.size + 2 ≤ sb ∧ sb < ob ∧ ob < lb
  far : ∀ i, ¬ ofKind v vs i ob
  ap : ∀ i b, ofKind v vs i b → u.ownBlock ≠ some b
  lbs : lb ≤ wr.heap.size
section
variable {w wr : World} {g lb sb ob : Nat} {v0 : Sv} {vs0 : List Lv} {s0 : Sy} {v : Sv} {vs : List Lv} {s : Sy} {u : Value} {cs : List Cl}
theorem DV.but (h : DV w wr g lb sb ob v0 vs0 s0 v vs s u cs) {wr' : World} (hc : Cur wr' g) (k : KeepsBut g wr wr') : DV w wr' g lb sb ob v0 vs0 s0 v vs s u cs := by
  have hg := h.gl
  have ho := h.ord
  exact ⟨hc, h.kb.trans k, hg, h.r1.but k (by omega), h.r2.but k (by omega), h.st.butG k (by omega), h.sbx.but k (by omega), h.own.butG k (by omega), h.box.but k (by omega), h.row.butG k (by omega), h.stl, ho, h.far, h.ap, Nat.le_trans h.lbs k.size⟩
theorem DV.keeps (h : DV w wr g lb sb ob v0 vs0 s0 v vs s u cs) {wr' : World} (k : Keeps wr wr') : DV w wr' g lb sb ob v0 vs0 s0 v vs s u cs := h.but (h.cur.keeps k) (.of k)
/-- What is asked next is laid behind the others. -/
theorem DV.push (h : DV w wr g lb sb ob v0 vs0 s0 v vs s u cs) {w2 : World} {u' : Value} {cs' : List Cl} (O : Own 68 5 cc w2 lb u' cs') (G : wr.grownBy w2 u.ownBlock) (f : ∀ q, u'.ownBlock = some q → u.ownBlock = some q ∨ q = wr.heap.size) : DV w w2 g lb sb ob v0 vs0 s0 v vs s u' cs' := by
  have hg := h.gl
  have ho := h.ord
  have hb : ∀ q, u.ownBlock = some q → lb ≤ q := fun q hq => (h.row.ltb q hq).1
  refine ⟨h.cur.grown G (fun k hk => by have := hb k hk; omega), h.kb.grown G (fun k hk => by have := hb k hk; omega), hg, h.r1.grown G (fun q e e2 => by have := hb q e; omega), h.r2.grown G (fun q e e2 => by have := hb q e; omega), ?_, h.sbx.grown G (fun q e e2 => by have := hb q e; omega), ?_, h.box.grown G (fun q e e2 => by have := hb q e; omega), O, h.stl, ho, h.far, ?_, Nat.le_trans h.lbs G.size⟩
  · exact h.st.aside G.size fun i b hi => G.block b (h.st.blkLt hi).2 (fun e => by have := hb b e.symm; have := h.stl i b hi; omega)
  · exact h.own.aside G.size fun i b hi => G.block b (h.own.blkLt hi).2 (fun e => h.ap i b hi e.symm)
  · intro i b hi e
    rcases f b e with h1 | h1
    · exact h.ap i b hi h1
    · have := (h.own.blkLt hi).2
      omega
/-- A call is done: the system is another one, of new memory. -/
theorem DV.call (h : DV w wr g lb sb ob v0 vs0 s0 v vs s u cs) {w1 : World} (k : Keeps wr w1) {v' : Sv} {vs' : List Lv} {s' : Sy} (O : OwnS w1 wr.heap.size v' vs' s') : DV w (putC w1 ob 0 (syc s' v').toList) g lb sb ob v0 vs0 s0 v' vs' s' u cs := by
  have hg := h.gl
  have ho := h.ord
  have h1 := h.keeps k
  have hl := h.box.lt
  have far : ∀ i, ¬ ofKind v' vs' i ob := fun i hi => by have := (O.blkLt hi).1; omega
  have hsz := h.kb.size
  have hsb := h.sbx.lt
  refine ⟨Cur.putC (by omega) _ 0 h1.cur, KeepsBut.putN (by omega) _ 0 h1.kb, hg, Blk.farC (by omega) _ _ h1.r1, Blk.farC (by omega) _ _ h1.r2, OwnS.farC (fun i hi => by have := h.stl i ob hi; omega) _ _ h1.st, Blk.farC (by omega) _ _ h1.sbx, OwnS.farC far _ _ (O.base (by omega)), h1.box.putC _ rfl, Own.putFar (by omega) _ _ h1.row, h.stl, ho, far, ?_, Nat.le_trans h1.lbs (TurnsB.putC (P := fun _ => True) trivial _ 0 (TurnsB.refl _ w1)).size⟩
  intro i b hi e
  have h3 := (O.blkLt hi).1
  have h4 := (h.row.ltb b e).2
  omega
/-- What the two boxes hold. -/
structure Pair (sb ob : Nat) (A B : Array Value) (w' : World) : Prop where
  one : Blk w' sb A
  two : Blk w' ob B
/-- The end: both systems are stored as what is told. -/
theorem DV.told (h : DV w wr g lb sb ob v0 vs0 s0 v vs s u cs) :
    Pair sb ob (syc s0 v0) (syc s v) (putC wr w.heap.size 0 (syc s0 v0).toList) ∧ Blk (putC wr w.heap.size 0 (syc s0 v0).toList) (w.heap.size + 1) zc ∧
    Pair sb ob (syc s0 v0) (syc s v) (putC (putC wr w.heap.size 0 (syc s0 v0).toList) (w.heap.size + 1) 0 (syc s v).toList) ∧
    Blk (putC (putC wr w.heap.size 0 (syc s0 v0).toList) (w.heap.size + 1) 0 (syc s v).toList) w.heap.size (syc s0 v0) ∧ Blk (putC (putC wr w.heap.size 0 (syc s0 v0).toList) (w.heap.size + 1) 0 (syc s v).toList) (w.heap.size + 1) (syc s v) ∧
    OwnS (putC (putC wr w.heap.size 0 (syc s0 v0).toList) (w.heap.size + 1) 0 (syc s v).toList) w.heap.size v0 vs0 s0 ∧ OwnS (putC (putC wr w.heap.size 0 (syc s0 v0).toList) (w.heap.size + 1) 0 (syc s v).toList) w.heap.size v vs s ∧
    Own 68 5 cc (putC (putC wr w.heap.size 0 (syc s0 v0).toList) (w.heap.size + 1) 0 (syc s v).toList) lb u cs ∧ Cur (putC (putC wr w.heap.size 0 (syc s0 v0).toList) (w.heap.size + 1) 0 (syc s v).toList) g ∧ KeepsBut g w (putC (putC wr w.heap.size 0 (syc s0 v0).toList) (w.heap.size + 1) 0 (syc s v).toList) := by
  have ho := h.ord
  have hg := h.gl
  have f0 : ∀ c, c < w.heap.size + 2 → ∀ i, ¬ ofKind v0 vs0 i c := fun c hc i hi => by have := (h.st.blkLt hi).1; omega
  have f1 : ∀ c, c < w.heap.size + 2 → ∀ i, ¬ ofKind v vs i c := fun c hc i hi => by have := (h.own.blkLt hi).1; omega
  have P1 : Pair sb ob (syc s0 v0) (syc s v) (putC wr w.heap.size 0 (syc s0 v0).toList) := ⟨Blk.farC (by omega) _ _ h.sbx, Blk.farC (by omega) _ _ h.box⟩
  have B1 : Blk (putC wr w.heap.size 0 (syc s0 v0).toList) (w.heap.size + 1) zc := Blk.farC (by omega) _ _ h.r2
  refine ⟨P1, B1, ⟨Blk.farC (by omega) _ _ P1.one, Blk.farC (by omega) _ _ P1.two⟩, Blk.farC (by omega) _ _ (h.r1.putC _ rfl), B1.putC _ rfl, (OwnS.farC (f0 _ (by omega)) _ _ (OwnS.farC (f0 _ (by omega)) _ _ h.st)).base (by omega), (OwnS.farC (f1 _ (by omega)) _ _ (OwnS.farC (f1 _ (by omega)) _ _ h.own)).base (by omega), Own.putFar (by omega) _ _ (Own.putFar (by omega) _ _ h.row), Cur.putC (by omega) _ 0 (Cur.putC (by omega) _ 0 h.cur), KeepsBut.putN (by omega) _ 0 (KeepsBut.putN (by omega) _ 0 h.kb)⟩
end
/-- A run that is drawn of the cursor in block g. -/
def DrewR (g : Nat) (w : World) (most : Int) (e : Ending) (w' : World) : Prop := ∃ (n : Int) (cs : List Cl) (v0 : Sv) (vs0 : List Lv) (v : Sv) (vs : List Lv) (a : Option Addr) (cap lb : Nat),
  e = .returned (.tuple #[.agg (syc (newS n) v0), .slice a cs.length cap, .agg (syc (runS (newS n) cs) v)]) ∧ inB n 1 3 = true ∧ (∀ c ∈ cs, Few c) ∧ (cs.length : Int) ≤ most ∧ OwnS w' w.heap.size v0 vs0 (newS n) ∧ OwnS w' w.heap.size v vs (runS (newS n) cs) ∧ Small (runS (newS n) cs) ∧
  Own 68 5 cc w' lb (.slice a cs.length cap) cs ∧ (∀ i b, ofKind v0 vs0 i b → b < lb) ∧ w.heap.size ≤ lb ∧ Cur w' g ∧ KeepsBut g w w'
set_option maxRecDepth 100000 in
set_option linter.unusedSimpArgs false in
set_option maxHeartbeats 20000000 in
theorem l11DrawRun_any {w : World} {g : Nat} (hc : Cur w g) (most : Int) (h0 : 0 ≤ most) (h1 : most ≤ 255) :
    Calls Try.prog 26 #[.pointer (some ⟨g, 0, none⟩), .int .i64 most] w (DrewR g w most) := by
  have hgl := hc.lt
  have kZ : Keeps w ((w.alloc (.cells zc 57)).alloc (.cells zc 57)) := ((Keeps.refl w).alloc _).alloc _
  have R1 : Hid (Blk ((w.alloc (.cells zc 57)).alloc (.cells zc 57)) w.heap.size zc) := (Blk.new _ _ _).alloc _
  have R2 : Hid (Blk ((w.alloc (.cells zc 57)).alloc (.cells zc 57)) (w.heap.size + 1) zc) := by
    have := Blk.new (w.alloc (.cells zc 57)) zc 57
    show Blk _ _ _
    simpa using this
  have HC := hc.keeps kZ
  have hz : Hid (((w.alloc (.cells zc 57)).alloc (.cells zc 57)).heap.size = w.heap.size + 2) := by show _ = _; simp
  clear hc
  go_enter Try.func26, Try.ntmps26
  go_upto_region 1 with fail
  change Code.wp _ _ _ _ ((w.alloc (.cells zc 57)).alloc (.cells zc 57))
  generalize (w.alloc (.cells zc 57)).alloc (.cells zc 57) = Z at *
  have K0 : KeepsBut g Z Z := KeepsBut.refl g Z
  go_upto_region 2 with first
    | (go_at_call 19; refine (l1Below_any g _ _ HC (by omega) (by omega)).mono ?_; rintro e w2 ⟨m2, rfl, m20, m21, hc2, k2⟩; have K2 : KeepsBut g Z w2 := K0.trans k2; clear HC; have hw2 : IntKind.i64.wrap (1 + m2) = 1 + m2 := Go.IntWalk.i64_in _ (by omega))
    | (go_at_call 30; refine (specSysNew_any _ _).mono ?_; rintro e w3 ⟨v3, vs3, rfl, o3, k3⟩; obtain ⟨⟨ta3, tn3, tc3⟩, ⟨la3, ln3, lc3⟩, ⟨ga3, gn3, gc3⟩, ⟨fa3, fn3, fc3⟩, ⟨ra3, rn3, rc3⟩⟩ := v3)
  obtain ⟨n, Hn⟩ : ∃ n, Hid (1 + m2 = n) := ⟨_, rfl⟩
  rw [Hn.out] at o3 ⊢
  have hn1 : inB n 1 3 = true := inB_iff.2 (by have := Hn.out; omega)
  have hn4 : inB n 1 4 = true := inB_iff.2 (by have := Hn.out; omega)
  have SM0 : Small (newS n) := new_small hn4
  go_upto_region 4 with fail
  have DV0 : Hid (DV w (((w3.alloc (.cells (syc (newS n) ⟨⟨ta3, tn3, tc3⟩, ⟨la3, ln3, lc3⟩, ⟨ga3, gn3, gc3⟩, ⟨fa3, fn3, fc3⟩, ⟨ra3, rn3, rc3⟩⟩) 57)).alloc (.cells (syc (newS n) ⟨⟨ta3, tn3, tc3⟩, ⟨la3, ln3, lc3⟩, ⟨ga3, gn3, gc3⟩, ⟨fa3, fn3, fc3⟩, ⟨ra3, rn3, rc3⟩⟩) 57)).alloc (.cells #[] 68)) g (w3.heap.size + 2) w3.heap.size (w3.heap.size + 1) ⟨⟨ta3, tn3, tc3⟩, ⟨la3, ln3, lc3⟩, ⟨ga3, gn3, gc3⟩, ⟨fa3, fn3, fc3⟩, ⟨ra3, rn3, rc3⟩⟩ vs3 (newS n) ⟨⟨ta3, tn3, tc3⟩, ⟨la3, ln3, lc3⟩, ⟨ga3, gn3, gc3⟩, ⟨fa3, fn3, fc3⟩, ⟨ra3, rn3, rc3⟩⟩ vs3 (newS n) (.slice (some ⟨w3.heap.size + 2, 0, none⟩) 0 0) []) := by
    have hs2 := K2.size
    have hs3 := k3.size
    have kA : Keeps w3 (((w3.alloc (.cells (syc (newS n) ⟨⟨ta3, tn3, tc3⟩, ⟨la3, ln3, lc3⟩, ⟨ga3, gn3, gc3⟩, ⟨fa3, fn3, fc3⟩, ⟨ra3, rn3, rc3⟩⟩) 57)).alloc (.cells (syc (newS n) ⟨⟨ta3, tn3, tc3⟩, ⟨la3, ln3, lc3⟩, ⟨ga3, gn3, gc3⟩, ⟨fa3, fn3, fc3⟩, ⟨ra3, rn3, rc3⟩⟩) 57)).alloc (.cells #[] 68)) := (((Keeps.refl w3).alloc _).alloc _).alloc _
    have hlo : ∀ i b, ofKind ⟨⟨ta3, tn3, tc3⟩, ⟨la3, ln3, lc3⟩, ⟨ga3, gn3, gc3⟩, ⟨fa3, fn3, fc3⟩, ⟨ra3, rn3, rc3⟩⟩ vs3 i b → w.heap.size + 2 ≤ b ∧ b < w3.heap.size := fun i b hi => by have := o3.blkLt hi; have := hz.out; omega
    refine ⟨(hc2.keeps k3).keeps kA, ((KeepsBut.of kZ).trans K2).trans (.of (k3.trans kA)), hgl, ((R1.out.but K2 (by omega)).keeps k3).keeps kA, ((R2.out.but K2 (by omega)).keeps k3).keeps kA, (o3.base (by have := hz.out; omega)).keeps kA, ((Blk.new _ _ _).alloc _).alloc _, (o3.base (by have := hz.out; omega)).keeps kA, ?_, ?_, fun i b hi => (hlo i b hi).2, by have := hz.out; omega, fun i hi => by have := hlo i _ hi; omega, fun i b hi e => by have := hlo i b hi; simp [Value.ownBlock] at e; omega, by simp⟩
    · have := (Blk.new (w3.alloc (.cells (syc (newS n) ⟨⟨ta3, tn3, tc3⟩, ⟨la3, ln3, lc3⟩, ⟨ga3, gn3, gc3⟩, ⟨fa3, fn3, fc3⟩, ⟨ra3, rn3, rc3⟩⟩) 57)) (syc (newS n) ⟨⟨ta3, tn3, tc3⟩, ⟨la3, ln3, lc3⟩, ⟨ga3, gn3, gc3⟩, ⟨fa3, fn3, fc3⟩, ⟨ra3, rn3, rc3⟩⟩) 57).alloc (.cells #[] 68)
      simpa using this
    · have := Own.new 68 5 cc ((w3.alloc (.cells (syc (newS n) ⟨⟨ta3, tn3, tc3⟩, ⟨la3, ln3, lc3⟩, ⟨ga3, gn3, gc3⟩, ⟨fa3, fn3, fc3⟩, ⟨ra3, rn3, rc3⟩⟩) 57)).alloc (.cells (syc (newS n) ⟨⟨ta3, tn3, tc3⟩, ⟨la3, ln3, lc3⟩, ⟨ga3, gn3, gc3⟩, ⟨fa3, fn3, fc3⟩, ⟨ra3, rn3, rc3⟩⟩) 57)) (Nat.le_refl _)
      simpa using this
  change Code.wp _ _ _ _ (((w3.alloc (.cells (syc (newS n) ⟨⟨ta3, tn3, tc3⟩, ⟨la3, ln3, lc3⟩, ⟨ga3, gn3, gc3⟩, ⟨fa3, fn3, fc3⟩, ⟨ra3, rn3, rc3⟩⟩) 57)).alloc (.cells (syc (newS n) ⟨⟨ta3, tn3, tc3⟩, ⟨la3, ln3, lc3⟩, ⟨ga3, gn3, gc3⟩, ⟨fa3, fn3, fc3⟩, ⟨ra3, rn3, rc3⟩⟩) 57)).alloc (.cells #[] 68))
  clear R1 R2 hc2 K2 K0 kZ hz o3 k3
  generalize (((w3.alloc (.cells (syc (newS n) ⟨⟨ta3, tn3, tc3⟩, ⟨la3, ln3, lc3⟩, ⟨ga3, gn3, gc3⟩, ⟨fa3, fn3, fc3⟩, ⟨ra3, rn3, rc3⟩⟩) 57)).alloc (.cells (syc (newS n) ⟨⟨ta3, tn3, tc3⟩, ⟨la3, ln3, lc3⟩, ⟨ga3, gn3, gc3⟩, ⟨fa3, fn3, fc3⟩, ⟨ra3, rn3, rc3⟩⟩) 57)).alloc (.cells #[] 68)) = X4 at *
  generalize w3.heap.size = n3 at *
  have hwm : IntKind.i64.wrap (most + 1) = most + 1 := Go.IntWalk.i64_in _ (by omega)
  go_wp2_with (go_at_call 19; refine (l1Below_any g _ _ DV0.out.cur (by omega) (by omega)).mono ?_; rintro e w5 ⟨nn, rfl, nn0, nn1, hc5, k5⟩)
  obtain ⟨N, rfl⟩ : ∃ N : Nat, nn = (N : Int) := ⟨nn.toNat, by omega⟩
  have D5 : Hid (DV w w5 g (n3 + 2) n3 (n3 + 1) ⟨⟨ta3, tn3, tc3⟩, ⟨la3, ln3, lc3⟩, ⟨ga3, gn3, gc3⟩, ⟨fa3, fn3, fc3⟩, ⟨ra3, rn3, rc3⟩⟩ vs3 (newS n) ⟨⟨ta3, tn3, tc3⟩, ⟨la3, ln3, lc3⟩, ⟨ga3, gn3, gc3⟩, ⟨fa3, fn3, fc3⟩, ⟨ra3, rn3, rc3⟩⟩ vs3 (newS n) (.slice (some ⟨n3 + 2, 0, none⟩) 0 0) []) := DV0.out.but hc5 k5
  clear DV0 hc5 k5
  go_loopw [10, 12] (fun u i wr => ∃ (k : Nat) (cs : List Cl) (v : Sv) (vs : List Lv), k ≤ N ∧ i = .int .i64 k ∧ Hid (cs.length = k) ∧ Hid (DV w wr g (n3 + 2) n3 (n3 + 1) ⟨⟨ta3, tn3, tc3⟩, ⟨la3, ln3, lc3⟩, ⟨ga3, gn3, gc3⟩, ⟨fa3, fn3, fc3⟩, ⟨ra3, rn3, rc3⟩⟩ vs3 (newS n) v vs (runS (newS n) cs) u cs) ∧ Hid (∀ c ∈ cs, Few c) ∧ Small (runS (newS n) cs)) (fun _ i _ => N - (intOf i).toNat)
  case atStart => exact ⟨0, [], ⟨⟨ta3, tn3, tc3⟩, ⟨la3, ln3, lc3⟩, ⟨ga3, gn3, gc3⟩, ⟨fa3, fn3, fc3⟩, ⟨ra3, rn3, rc3⟩⟩, vs3, Nat.zero_le _, rfl, rfl, D5, fun c hc => by simp at hc, SM0⟩
  case round =>
    obtain ⟨k, cs, v, vs, hk, rfl, HL, D, HF, SM⟩ := hrel
    clear D5
    obtain ⟨⟨ta5, tn5, tc5⟩, ⟨la5, ln5, lc5⟩, ⟨ga5, gn5, gc5⟩, ⟨fa5, fn5, fc5⟩, ⟨ra5, rn5, rc5⟩⟩ := v
    by_cases hlt : k < N
    · have hlt' : (k : Int) < (N : Int) := by omega
      have DD := D.out
      obtain ⟨_, b1, b2⟩ := DD.box
      dsimp only [syc] at b1
      obtain ⟨sm1, sm2, sm3⟩ := SM
      go_upto_region 9 with (go_at_call 31; refine (l11DrawNext_any DD.cur DD.own (by have := DD.gl; omega) (by omega) (by omega)).mono ?_; rintro e w6 ⟨x, rfl, hx, hc6, k6⟩)
      have D6 : Hid (DV w (w6.alloc (.cells (cc x) 68)) g (n3 + 2) n3 (n3 + 1) ⟨⟨ta3, tn3, tc3⟩, ⟨la3, ln3, lc3⟩, ⟨ga3, gn3, gc3⟩, ⟨fa3, fn3, fc3⟩, ⟨ra3, rn3, rc3⟩⟩ vs3 (newS n) ⟨⟨ta5, tn5, tc5⟩, ⟨la5, ln5, lc5⟩, ⟨ga5, gn5, gc5⟩, ⟨fa5, fn5, fc5⟩, ⟨ra5, rn5, rc5⟩⟩ vs (runS (newS n) cs) u10 cs) := (DD.but hc6 k6).keeps ((Keeps.refl w6).alloc _)
      have X6 : Hid (Blk (w6.alloc (.cells (cc x) 68)) w6.heap.size (cc x)) := Blk.new _ _ _
      have Q6 : Hid (∀ q, Value.ownBlock u10 = some q → q < w6.heap.size) := fun q hq => Nat.lt_of_lt_of_le (DD.row.ltb q hq).2 k6.size
      change Code.wp _ _ _ _ (w6.alloc (.cells (cc x) 68))
      clear DD b1 b2 hc6 k6 D
      generalize w6.alloc (.cells (cc x) 68) = Y6 at *
      generalize w6.heap.size = xb at *
      obtain ⟨_, x1, x2⟩ := X6.out
      go_upto_region 10 with (at_builtin; (refine wpList_pushF rfl _ _ 58 rfl (n3 + 2) 68 (.agg cc0) 5 40 cc Try.underlying58 (by kernel_rfl) rfl (by decide) cc_size cc_one _ cs rfl (D6.out.row.keeps ((Keeps.refl _).alloc _)) (by have := D6.out.lbs; simp; omega) x _ 1 (Blk.new _ _ _) rfl (by have := HL.out; unfold maxLen; omega) (by have := HL.out; omega) ?_; intro u7 w7 o7 g7 f7))
      have D7 : Hid (DV w w7 g (n3 + 2) n3 (n3 + 1) ⟨⟨ta3, tn3, tc3⟩, ⟨la3, ln3, lc3⟩, ⟨ga3, gn3, gc3⟩, ⟨fa3, fn3, fc3⟩, ⟨ra3, rn3, rc3⟩⟩ vs3 (newS n) ⟨⟨ta5, tn5, tc5⟩, ⟨la5, ln5, lc5⟩, ⟨ga5, gn5, gc5⟩, ⟨fa5, fn5, fc5⟩, ⟨ra5, rn5, rc5⟩⟩ vs (runS (newS n) cs) u7 (cs ++ [x])) := (D6.out.keeps ((Keeps.refl _).alloc _)).push o7 g7 f7
      have X7 : Hid (Blk w7 xb (cc x)) := (X6.out.keeps ((Keeps.refl _).alloc _)).grown g7 (fun q e e2 => by have := Q6.out q e; omega)
      clear D6 X6 Q6 x1 x2 o7 g7 f7
      have DD := D7.out
      obtain ⟨_, b1, b2⟩ := DD.box
      dsimp only [syc] at b1
      obtain ⟨_, x1, x2⟩ := X7.out
      obtain ⟨cn, Hcn⟩ : ∃ z, Hid (callN (runS (newS n) cs) x = z) := ⟨_, rfl⟩
      obtain ⟨cS, HcS⟩ : ∃ z, Hid (callS (runS (newS n) cs) x = z) := ⟨_, rfl⟩
      have SC : Hid (Calls Try.prog 32 #[.agg (syc (runS (newS n) cs) ⟨⟨ta5, tn5, tc5⟩, ⟨la5, ln5, lc5⟩, ⟨ga5, gn5, gc5⟩, ⟨fa5, fn5, fc5⟩, ⟨ra5, rn5, rc5⟩⟩), ck x] w7 (Told w7 cS cn)) := by
        have := specSysCall_any (DD.own.on (by omega)) x
        rw [Hcn.out, HcS.out] at this
        exact this
      go_upto_region 11 with (go_at_call 32; refine SC.out.mono ?_; rintro e w8 ⟨v8, vs8, rfl, o8, k8⟩; obtain ⟨⟨ta7, tn7, tc7⟩, ⟨la7, ln7, lc7⟩, ⟨ga7, gn7, gc7⟩, ⟨fa7, fn7, fc7⟩, ⟨ra7, rn7, rc7⟩⟩ := v8)
      have KY : Keeps w7 (w8.alloc (.cells (syc (cS : Sy) ⟨⟨ta7, tn7, tc7⟩, ⟨la7, ln7, lc7⟩, ⟨ga7, gn7, gc7⟩, ⟨fa7, fn7, fc7⟩, ⟨ra7, rn7, rc7⟩⟩) 57)) := k8.alloc _
      have O8 : Hid (OwnS (w8.alloc (.cells (syc (cS : Sy) ⟨⟨ta7, tn7, tc7⟩, ⟨la7, ln7, lc7⟩, ⟨ga7, gn7, gc7⟩, ⟨fa7, fn7, fc7⟩, ⟨ra7, rn7, rc7⟩⟩) 57)) w7.heap.size ⟨⟨ta7, tn7, tc7⟩, ⟨la7, ln7, lc7⟩, ⟨ga7, gn7, gc7⟩, ⟨fa7, fn7, fc7⟩, ⟨ra7, rn7, rc7⟩⟩ vs8 cS) := o8.keeps ((Keeps.refl _).alloc _)
      have N8 : Hid (Blk (w8.alloc (.cells (syc (cS : Sy) ⟨⟨ta7, tn7, tc7⟩, ⟨la7, ln7, lc7⟩, ⟨ga7, gn7, gc7⟩, ⟨fa7, fn7, fc7⟩, ⟨ra7, rn7, rc7⟩⟩) 57)) w8.heap.size (syc (cS : Sy) ⟨⟨ta7, tn7, tc7⟩, ⟨la7, ln7, lc7⟩, ⟨ga7, gn7, gc7⟩, ⟨fa7, fn7, fc7⟩, ⟨ra7, rn7, rc7⟩⟩)) := Blk.new _ _ _
      have hn8 : Hid (n3 + 1 ≠ w8.heap.size) := by show _ ≠ _; have := DD.box.lt; have := k8.size; omega
      change Code.wp _ _ _ _ (w8.alloc (.cells (syc (cS : Sy) ⟨⟨ta7, tn7, tc7⟩, ⟨la7, ln7, lc7⟩, ⟨ga7, gn7, gc7⟩, ⟨fa7, fn7, fc7⟩, ⟨ra7, rn7, rc7⟩⟩) 57))
      clear b1 b2 x1 x2 o8 k8 SC
      generalize w8.alloc (.cells (syc (cS : Sy) ⟨⟨ta7, tn7, tc7⟩, ⟨la7, ln7, lc7⟩, ⟨ga7, gn7, gc7⟩, ⟨fa7, fn7, fc7⟩, ⟨ra7, rn7, rc7⟩⟩) 57) = Y8 at *
      generalize w8.heap.size = nb at *
      have HF2 : Hid (∀ c ∈ cs ++ [x], Few c) := fun c hc => by
        rcases List.mem_append.1 hc with h | h
        · exact HF.out c h
        · simp at h; subst h; exact hx
      have HL2 : Hid ((cs ++ [x]).length = k + 1) := by show _ = _; rw [List.length_append, HL.out]; rfl
      cases e0 : (cn == 0)
      · have HR : Hid (runS (newS n) (cs ++ [x]) = runS (newS n) cs) := by show _ = _; rw [runS_snoc, Hcn.out, e0]; rfl
        have D8 : Hid (DV w Y8 g (n3 + 2) n3 (n3 + 1) ⟨⟨ta3, tn3, tc3⟩, ⟨la3, ln3, lc3⟩, ⟨ga3, gn3, gc3⟩, ⟨fa3, fn3, fc3⟩, ⟨ra3, rn3, rc3⟩⟩ vs3 (newS n) ⟨⟨ta5, tn5, tc5⟩, ⟨la5, ln5, lc5⟩, ⟨ga5, gn5, gc5⟩, ⟨fa5, fn5, fc5⟩, ⟨ra5, rn5, rc5⟩⟩ vs (runS (newS n) (cs ++ [x])) u7 (cs ++ [x])) := by rw [HR.out]; exact D7.out.keeps KY
        have SM2 : Small (runS (newS n) (cs ++ [x])) := by rw [HR.out]; exact ⟨sm1, sm2, sm3⟩
        clear DD D7 HR
        go_wp2
        exact ⟨⟨k + 1, cs ++ [x], ⟨⟨ta5, tn5, tc5⟩, ⟨la5, ln5, lc5⟩, ⟨ga5, gn5, gc5⟩, ⟨fa5, fn5, fc5⟩, ⟨ra5, rn5, rc5⟩⟩, vs, by omega, by go_num, HL2, D8, HF2, SM2⟩, by simp only [intOf]; omega⟩
      · have HR : Hid (runS (newS n) (cs ++ [x]) = cS) := by show _ = _; rw [runS_snoc, Hcn.out, e0, HcS.out]; rfl
        have D8 : Hid (DV w (putC Y8 (n3 + 1) 0 (syc (cS : Sy) ⟨⟨ta7, tn7, tc7⟩, ⟨la7, ln7, lc7⟩, ⟨ga7, gn7, gc7⟩, ⟨fa7, fn7, fc7⟩, ⟨ra7, rn7, rc7⟩⟩).toList) g (n3 + 2) n3 (n3 + 1) ⟨⟨ta3, tn3, tc3⟩, ⟨la3, ln3, lc3⟩, ⟨ga3, gn3, gc3⟩, ⟨fa3, fn3, fc3⟩, ⟨ra3, rn3, rc3⟩⟩ vs3 (newS n) ⟨⟨ta7, tn7, tc7⟩, ⟨la7, ln7, lc7⟩, ⟨ga7, gn7, gc7⟩, ⟨fa7, fn7, fc7⟩, ⟨ra7, rn7, rc7⟩⟩ vs8 (runS (newS n) (cs ++ [x])) u7 (cs ++ [x])) := by rw [HR.out]; exact D7.out.call KY O8.out
        have SM2 : Small (runS (newS n) (cs ++ [x])) := by rw [HR.out, ← HcS.out]; exact call_small (by rw [Hcn.out]; simpa using e0)
        obtain ⟨_, b1, b2⟩ := N8.out
        dsimp only [syc] at b1
        have BO := D7.out.box.keeps KY
        obtain ⟨_, c1, c2⟩ := BO
        clear DD D7 HR
        go_upto_region 7 with fail
        change Code.wp _ _ _ _ (putC Y8 (n3 + 1) 0 (syc (cS : Sy) ⟨⟨ta7, tn7, tc7⟩, ⟨la7, ln7, lc7⟩, ⟨ga7, gn7, gc7⟩, ⟨fa7, fn7, fc7⟩, ⟨ra7, rn7, rc7⟩⟩).toList)
        clear b1 b2 c1 c2
        generalize putC Y8 (n3 + 1) 0 (syc (cS : Sy) ⟨⟨ta7, tn7, tc7⟩, ⟨la7, ln7, lc7⟩, ⟨ga7, gn7, gc7⟩, ⟨fa7, fn7, fc7⟩, ⟨ra7, rn7, rc7⟩⟩).toList = X9 at *
        go_wp2
        exact ⟨⟨k + 1, cs ++ [x], ⟨⟨ta7, tn7, tc7⟩, ⟨la7, ln7, lc7⟩, ⟨ga7, gn7, gc7⟩, ⟨fa7, fn7, fc7⟩, ⟨ra7, rn7, rc7⟩⟩, vs8, by omega, by go_num, HL2, D8, HF2, SM2⟩, by simp only [intOf]; omega⟩
    · have hlt' : decide ((k : Int) < (N : Int)) = false := by simp; omega
      go_upto_region 13 with fail
      have DE := D.out
      obtain ⟨P1, B1, P2, E1, E2, O1, O2, O3, C3, K3⟩ := DE.told
      have q1 := B1.cells
      have q2 := B1.frozens
      have e0 : ∀ w', Pair n3 (n3 + 1) (syc (newS n) ⟨⟨ta3, tn3, tc3⟩, ⟨la3, ln3, lc3⟩, ⟨ga3, gn3, gc3⟩, ⟨fa3, fn3, fc3⟩, ⟨ra3, rn3, rc3⟩⟩) (syc (runS (newS n) cs) ⟨⟨ta5, tn5, tc5⟩, ⟨la5, ln5, lc5⟩, ⟨ga5, gn5, gc5⟩, ⟨fa5, fn5, fc5⟩, ⟨ra5, rn5, rc5⟩⟩) w' → ∀ q, w'.cell? ⟨n3, q, none⟩ = (syc (newS n) ⟨⟨ta3, tn3, tc3⟩, ⟨la3, ln3, lc3⟩, ⟨ga3, gn3, gc3⟩, ⟨fa3, fn3, fc3⟩, ⟨ra3, rn3, rc3⟩⟩)[q]? := fun w' hh => hh.one.cells
      have e1 : ∀ w', Pair n3 (n3 + 1) (syc (newS n) ⟨⟨ta3, tn3, tc3⟩, ⟨la3, ln3, lc3⟩, ⟨ga3, gn3, gc3⟩, ⟨fa3, fn3, fc3⟩, ⟨ra3, rn3, rc3⟩⟩) (syc (runS (newS n) cs) ⟨⟨ta5, tn5, tc5⟩, ⟨la5, ln5, lc5⟩, ⟨ga5, gn5, gc5⟩, ⟨fa5, fn5, fc5⟩, ⟨ra5, rn5, rc5⟩⟩) w' → ∀ q, w'.cell? ⟨n3 + 1, q, none⟩ = (syc (runS (newS n) cs) ⟨⟨ta5, tn5, tc5⟩, ⟨la5, ln5, lc5⟩, ⟨ga5, gn5, gc5⟩, ⟨fa5, fn5, fc5⟩, ⟨ra5, rn5, rc5⟩⟩)[q]? := fun w' hh => hh.two.cells
      dsimp only [syc] at e0 e1
      refine wp_region_held_drew (S := fun w' => Pair n3 (n3 + 1) (syc (newS n) ⟨⟨ta3, tn3, tc3⟩, ⟨la3, ln3, lc3⟩, ⟨ga3, gn3, gc3⟩, ⟨fa3, fn3, fc3⟩, ⟨ra3, rn3, rc3⟩⟩) (syc (runS (newS n) cs) ⟨⟨ta5, tn5, tc5⟩, ⟨la5, ln5, lc5⟩, ⟨ga5, gn5, gc5⟩, ⟨fa5, fn5, fc5⟩, ⟨ra5, rn5, rc5⟩⟩) w') (by kernel_rfl) ?_ (fun hHeld => ?_)
      · exact ⟨DE.sbx.keeps (Keeps.refl _).drew, DE.box.keeps (Keeps.refl _).drew⟩
      refine Plan.go [0, 1, 2] ?_
      iterate 3 (refine takeL (by simp only [opsAt]; rfl) (by kernel_rfl) (by exact fun _ _ _ h => h) (by rfl) (by assumption) (fun w _ => by go_simp; try (with_reducible rfl)) ?_; try simp only [putAtH])
      refine Plan.nil ?_
      refine callH 3 (by kernel_rfl) (by simp only [opsAt]; rfl) (fun K hK => ?_)
      obtain ⟨_, r1, r2⟩ := DE.r1
      go_simp
      try go_wp2_with fail
      refine hK.out _ ((putC wr w.heap.size 0 (syc (newS n) ⟨⟨ta3, tn3, tc3⟩, ⟨la3, ln3, lc3⟩, ⟨ga3, gn3, gc3⟩, ⟨fa3, fn3, fc3⟩, ⟨ra3, rn3, rc3⟩⟩).toList).drew) ?_ (fun hHeld => ?_)
      · exact ⟨P1.one.keeps (Keeps.refl _).drew, P1.two.keeps (Keeps.refl _).drew⟩
      clear hK K
      try simp only [putAtH]
      clear r1 r2
      generalize putC wr w.heap.size 0 (syc (newS n) ⟨⟨ta3, tn3, tc3⟩, ⟨la3, ln3, lc3⟩, ⟨ga3, gn3, gc3⟩, ⟨fa3, fn3, fc3⟩, ⟨ra3, rn3, rc3⟩⟩).toList = X1 at *
      refine takeH 4 (v := ?_) (by simp only [opsAt]; rfl) (by kernel_rfl) (by exact fun _ _ _ h => h) (by rfl) (by assumption) ?_ ?_
      rotate_left
      · (intro w _; go_simp; try (with_reducible rfl))
      try simp only [putAtH]
      refine callH 5 (by kernel_rfl) (by simp only [opsAt]; rfl) (fun K hK => ?_)
      go_simp
      try go_wp2_with fail
      refine hK.out _ ((putC X1 (w.heap.size + 1) 0 (syc (runS (newS n) cs) ⟨⟨ta5, tn5, tc5⟩, ⟨la5, ln5, lc5⟩, ⟨ga5, gn5, gc5⟩, ⟨fa5, fn5, fc5⟩, ⟨ra5, rn5, rc5⟩⟩).toList).drew) ?_ (fun hHeld => ?_)
      · exact ⟨P2.one.keeps (Keeps.refl _).drew, P2.two.keeps (Keeps.refl _).drew⟩
      clear hK K
      try simp only [putAtH]
      refine wpAnyH_done (by kernel_rfl) ?_ _
      clear q1 q2 e0 e1 hHeld
      generalize putC X1 (w.heap.size + 1) 0 (syc (runS (newS n) cs) ⟨⟨ta5, tn5, tc5⟩, ⟨la5, ln5, lc5⟩, ⟨ga5, gn5, gc5⟩, ⟨fa5, fn5, fc5⟩, ⟨ra5, rn5, rc5⟩⟩).toList = Q at *
      replace E1 := E1.keeps (Keeps.refl _).drew
      replace E2 := E2.keeps (Keeps.refl _).drew
      replace O1 := O1.keeps (Keeps.refl _).drew
      replace O2 := O2.keeps (Keeps.refl _).drew
      replace O3 := O3.keeps (Keeps.refl _).drew
      replace C3 := C3.keeps (Keeps.refl _).drew
      replace K3 := K3.drew
      generalize Q.drew = Q2 at *
      go_wp2
      obtain ⟨a9, c9, e9⟩ := O3.form cc_size
      subst e9
      have ho := DE.ord
      exact bodyPost_ret (v := .tuple #[.agg (syc (newS n) ⟨⟨ta3, tn3, tc3⟩, ⟨la3, ln3, lc3⟩, ⟨ga3, gn3, gc3⟩, ⟨fa3, fn3, fc3⟩, ⟨ra3, rn3, rc3⟩⟩), .slice a9 cs.length c9, .agg (syc (runS (newS n) cs) ⟨⟨ta5, tn5, tc5⟩, ⟨la5, ln5, lc5⟩, ⟨ga5, gn5, gc5⟩, ⟨fa5, fn5, fc5⟩, ⟨ra5, rn5, rc5⟩⟩)]) (by simp [results, Try.results26, go_sem, E1.cells, E2.cells]) rfl ⟨n, cs, ⟨⟨ta3, tn3, tc3⟩, ⟨la3, ln3, lc3⟩, ⟨ga3, gn3, gc3⟩, ⟨fa3, fn3, fc3⟩, ⟨ra3, rn3, rc3⟩⟩, vs3, ⟨⟨ta5, tn5, tc5⟩, ⟨la5, ln5, lc5⟩, ⟨ga5, gn5, gc5⟩, ⟨fa5, fn5, fc5⟩, ⟨ra5, rn5, rc5⟩⟩, vs, a9, c9, n3 + 2, rfl, hn1, HF.out, by have := HL.out; omega, O1, O2, SM, O3, fun i b hi => by have := DE.stl i b hi; omega, by omega, C3, K3⟩
end Go.Proofs.Ythpdlbcdbncnhaa
