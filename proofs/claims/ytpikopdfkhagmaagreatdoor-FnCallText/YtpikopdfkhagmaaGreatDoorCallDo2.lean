/-
  Calls: what is done of a right call: sleep, waking, a new nice.
-/
import Derived.Test.YtpikopdfkhagmaaGreatDoorTracePure
import Derived.Test.YtpikopdfkhagmaaGreatDoorLate2
import Derived.Deep.Cut
namespace Go.Proofs.YtpikopdfkhagmaaGreatDoor
open Go.RowKit
attribute [local go_sem] Keeps.refl Keeps.alloc Keeps.drew Keeps.drewN

set_option maxRecDepth 100000 in
set_option linter.unusedSimpArgs false in
set_option maxHeartbeats 8000000 in
theorem l11Do_sleep {w : World} {lo : Nat} {v : Sv} {vs : List Lv} {s : Sy} (h : OwnS w lo v vs s) (hl : lo ≤ w.heap.size) (R : SysR s) (cn cp ca cb : Int) (hth : thereB s.tasks cn = true) :
    Calls Tryz.prog 62 #[.agg (syc s v), ck ⟨4, cn, cp, ca, cb⟩] w (Did w lo v vs (doN s ⟨4, cn, cp, ca, cb⟩) (doC s ⟨4, cn, cp, ca, cb⟩)) := by
  obtain ⟨⟨ta, tn, tcap⟩, ⟨la, ln, lcap⟩, ⟨ga, gn, gcap⟩, ⟨fa, fn, fcap⟩, ⟨ra, rn, rcap⟩⟩ := v
  obtain ⟨k, ek, ht, Hta⟩ := there_at hth
  have Hpa : Hid (atFrom s.tasks cn = (k : Int)) := ek
  obtain ⟨t, ht⟩ := ht
  have Htt : tAt s.tasks cn = t := Hta t ht
  have HNt : doN s ⟨4, cn, cp, ca, cb⟩ = ofTaskN s ⟨4, cn, cp, ca, cb⟩ t := by rw [doN_task (by rfl) (by rfl) hth, Htt]
  have HCt : doC s ⟨4, cn, cp, ca, cb⟩ = ofTaskC s ⟨4, cn, cp, ca, cb⟩ k t := by rw [doC_task (by rfl) (by rfl), ek, Htt, Int.toNat_natCast]
  have hk : k < s.tasks.length := lt_of_some ht
  obtain ⟨tb, htb⟩ := h.tasksAt hk
  dsimp only at htb
  subst htb
  have HK : Hid (s.tasks[k]? = some t) := ht
  have Hk : Hid (k < s.tasks.length) := hk
  have hkn : (k : Int) < (tn : Int) := by have := (h.t.row tc_size).1; dsimp only at this; omega
  have T0 : ∀ w', Keeps w w' → ∀ i, i < 14 → w'.cell? ⟨tb, k * 14 + i, none⟩ = (tc t)[i]? := fun w' kk i hi => (kk.cells tb _ (h.blkLt (i := 0) (b := tb) rfl).2).trans ((h.taskCells (rb := tb) rfl ht).1 i hi)
  clear ek Hta Htt hth
  obtain ⟨A0', C0', kZ⟩ := ask3 h hl ⟨4, cn, cp, ca, cb⟩
  have C0 : Hid (Blk _ (w.heap.size + 1) (cc ⟨4, cn, cp, ca, cb⟩)) := C0'
  have A0 : Hid (AskR w lo _ vs _ w.heap.size (w.heap.size + 2) _ vs s) := A0'
  have HS : Hid (SysOn _ _ s) := (h.on (by have := R.small; omega)).keeps kZ
  clear A0' C0' h
  have TC : ∀ w', Keeps _ w' → ∀ i, i < 14 → w'.cell? ⟨tb, k * 14 + i, none⟩ = (tc t)[i]? := fun w' kk => T0 w' (kZ.trans kk)
  have TC0 : ∀ w', Keeps _ w' → w'.cell? ⟨tb, k * 14, none⟩ = some (.int .i64 t.no) := fun w' kk => T0 w' (kZ.trans kk) 0 (by omega)
  clear T0
  go_enter Tryz.func62, Tryz.ntmps62
  go_wp2_with fail
  change Calls _ _ _ (boxes3 w ⟨⟨some ⟨tb, 0, none⟩, tn, tcap⟩, ⟨la, ln, lcap⟩, ⟨ga, gn, gcap⟩, ⟨fa, fn, fcap⟩, ⟨ra, rn, rcap⟩⟩ s ⟨4, cn, cp, ca, cb⟩) _
  generalize boxes3 w ⟨⟨some ⟨tb, 0, none⟩, tn, tcap⟩, ⟨la, ln, lcap⟩, ⟨ga, gn, gcap⟩, ⟨fa, fn, fcap⟩, ⟨ra, rn, rcap⟩⟩ s ⟨4, cn, cp, ca, cb⟩ = Z at *
  have hb0 : ∀ w', Keeps Z w' → ∀ q, w'.cell? ⟨w.heap.size, q, none⟩ = (syc s ⟨⟨some ⟨tb, 0, none⟩, tn, tcap⟩, ⟨la, ln, lcap⟩, ⟨ga, gn, gcap⟩, ⟨fa, fn, fcap⟩, ⟨ra, rn, rcap⟩⟩)[q]? := fun w' k => (A0.out.g.var.box.keeps k).cells
  dsimp only [syc] at hb0
  have hc0 : ∀ w', Keeps Z w' → ∀ q, w'.cell? ⟨w.heap.size + 1, q, none⟩ = (cc ⟨4, cn, cp, ca, cb⟩)[q]? := fun w' k => (C0.out.keeps k).cells
  refine (HS.out.onT.sTaskAt cn Hpa.out (Keeps.refl _)).mono ?_
  rintro e w1 ⟨rfl, k1⟩
  go_upto_region 14 with fail
  have KY : Keeps Z (w1.alloc (.cells (tc t) 90)) := k1.alloc _
  have TB : Hid (Blk (w1.alloc (.cells (tc t) 90)) w1.heap.size (tc t)) := Blk.new _ _ _
  have AY : Hid (AskR w lo _ vs _ w.heap.size (w.heap.size + 2) _ vs s) := A0.out.keeps KY
  have SY : Hid (SysOn _ _ s) := HS.out.keeps KY
  change Code.wp _ _ _ _ (w1.alloc (.cells (tc t) 90))
  generalize w1.alloc (.cells (tc t) 90) = Y at *
  generalize w1.heap.size = tbx at *
  have hbY : ∀ w', Keeps Y w' → ∀ q, w'.cell? ⟨w.heap.size, q, none⟩ = _ := fun w' kk => hb0 w' (KY.trans kk)
  have hcY : ∀ w', Keeps Y w' → ∀ q, w'.cell? ⟨w.heap.size + 1, q, none⟩ = _ := fun w' kk => hc0 w' (KY.trans kk)
  have htY : ∀ w', Keeps Y w' → ∀ q, w'.cell? ⟨tbx, q, none⟩ = (tc t)[q]? := fun w' kk => (TB.out.keeps kk).cells
  clear hb0 hc0 TC TC0 A0 HS k1
  obtain ⟨za, Hz⟩ : ∃ z, Hid (waitAt s.locks cn = z) := ⟨_, rfl⟩
  have e1 : (!decide (za < 0)) = decide (0 ≤ za) := by rw [Bool.eq_iff_iff]; simp
  have HN0 : Hid (doN s ⟨4, cn, cp, ca, cb⟩ = if t.st == 2 || decide (0 ≤ za) then 5 else 0) := by
    show _ = _
    rw [HNt, ← e1, ← Hz.out]
    rfl
  have HC : Hid ({ (s : Sy) with tasks := s.tasks.set k { t with st := 2 } } = doC s ⟨4, cn, cp, ca, cb⟩) := by show _ = _; rw [HCt]; rfl
  clear HNt HCt e1
  have WA : Hid (∀ w', Keeps Y w' → Calls Tryz.prog 74 #[.slice la ln lcap, .int .i64 cn] w' fun e w'' => e = .returned (.int .i64 za) ∧ Keeps w' w'') := fun w' kk => SY.out.onL.sWaitAt cn Hz.out kk
  cases d1 : (t.st == 2)
  rotate_left
  · have HN : Hid (doN s ⟨4, cn, cp, ca, cb⟩ = 5) := by show _ = _; rw [HN0.out, d1]; rfl
    have AE := AY.out
    obtain ⟨_, o1, o2⟩ := AE.g.var.box
    dsimp only [syc] at o1
    obtain ⟨_, r1, r2⟩ := AE.r
    go_wp2
    exact AE.ret HN.out (fun h => absurd h (by decide)) rfl (fun Q D => by simp [results, Tryz.results62, go_sem, D])
  go_upto_if 66 with (go_at_call 74; refine (WA.out _ (Keeps.refl _)).mono ?_; rintro e w6 ⟨rfl, k6⟩)
  cases d2 : decide (0 ≤ za)
  rotate_left
  · have HN : Hid (doN s ⟨4, cn, cp, ca, cb⟩ = 5) := by show _ = _; rw [HN0.out, d1, d2]; rfl
    have AE := AY.out.keeps k6
    obtain ⟨_, o1, o2⟩ := AE.g.var.box
    dsimp only [syc] at o1
    obtain ⟨_, r1, r2⟩ := AE.r
    go_wp2
    exact AE.ret HN.out (fun h => absurd h (by decide)) rfl (fun Q D => by simp [results, Tryz.results62, go_sem, D])
  have HN : Hid (doN s ⟨4, cn, cp, ca, cb⟩ = 0) := by show _ = _; rw [HN0.out, d1, d2]; rfl
  have AS := AY.out.keeps k6
  obtain ⟨z1, z2⟩ := AS.g.var.own.taskCells (rb := tb) rfl (k := k) HK.out
  have zc1 : w6.cell? ⟨tb, k * 14 + 3, none⟩ = (tc t)[3]? := z1 3 (by omega)
  have hor : tb ≠ w.heap.size := AS.neT rfl
  have hrr : tb ≠ w.heap.size + 2 := AS.neR rfl
  obtain ⟨_, p1, p2⟩ := AS.g.var.box
  dsimp only [syc] at p1
  obtain ⟨_, q1, q2⟩ := AS.r
  have AN : Hid (AskR w lo _ vs (w6.setCell ⟨tb, k * 14 + 3, none⟩ (.int .i64 2)) w.heap.size (w.heap.size + 2) _ vs { (s : Sy) with tasks := s.tasks.set k { t with st := 2 } }) := AS.taskCell (tb := tb) rfl HK.out (y := { t with st := 2 }) (j := 3) (by omega) rfl
  clear z1
  have AE := AN.out
  obtain ⟨_, o1, o2⟩ := AE.g.var.box
  dsimp only [syc] at o1
  obtain ⟨_, r1, r2⟩ := AE.r
  go_wp2
  exact AE.ret HN.out (fun _ => HC.out) rfl (fun Q D => by simp [results, Tryz.results62, go_sem, D])
set_option maxRecDepth 100000 in
set_option linter.unusedSimpArgs false in
set_option maxHeartbeats 8000000 in
theorem l11Do_wake {w : World} {lo : Nat} {v : Sv} {vs : List Lv} {s : Sy} (h : OwnS w lo v vs s) (hl : lo ≤ w.heap.size) (R : SysR s) (cn cp ca cb : Int) (hth : thereB s.tasks cn = true) :
    Calls Tryz.prog 62 #[.agg (syc s v), ck ⟨5, cn, cp, ca, cb⟩] w (Did w lo v vs (doN s ⟨5, cn, cp, ca, cb⟩) (doC s ⟨5, cn, cp, ca, cb⟩)) := by
  obtain ⟨⟨ta, tn, tcap⟩, ⟨la, ln, lcap⟩, ⟨ga, gn, gcap⟩, ⟨fa, fn, fcap⟩, ⟨ra, rn, rcap⟩⟩ := v
  obtain ⟨k, ek, ht, Hta⟩ := there_at hth
  have Hpa : Hid (atFrom s.tasks cn = (k : Int)) := ek
  obtain ⟨t, ht⟩ := ht
  have Htt : tAt s.tasks cn = t := Hta t ht
  have HNt : doN s ⟨5, cn, cp, ca, cb⟩ = ofTaskN s ⟨5, cn, cp, ca, cb⟩ t := by rw [doN_task (by rfl) (by rfl) hth, Htt]
  have HCt : doC s ⟨5, cn, cp, ca, cb⟩ = ofTaskC s ⟨5, cn, cp, ca, cb⟩ k t := by rw [doC_task (by rfl) (by rfl), ek, Htt, Int.toNat_natCast]
  have hk : k < s.tasks.length := lt_of_some ht
  obtain ⟨tb, htb⟩ := h.tasksAt hk
  dsimp only at htb
  subst htb
  have HK : Hid (s.tasks[k]? = some t) := ht
  have Hk : Hid (k < s.tasks.length) := hk
  have hkn : (k : Int) < (tn : Int) := by have := (h.t.row tc_size).1; dsimp only at this; omega
  have T0 : ∀ w', Keeps w w' → ∀ i, i < 14 → w'.cell? ⟨tb, k * 14 + i, none⟩ = (tc t)[i]? := fun w' kk i hi => (kk.cells tb _ (h.blkLt (i := 0) (b := tb) rfl).2).trans ((h.taskCells (rb := tb) rfl ht).1 i hi)
  clear ek Hta Htt hth
  obtain ⟨A0', C0', kZ⟩ := ask3 h hl ⟨5, cn, cp, ca, cb⟩
  have C0 : Hid (Blk _ (w.heap.size + 1) (cc ⟨5, cn, cp, ca, cb⟩)) := C0'
  have A0 : Hid (AskR w lo _ vs _ w.heap.size (w.heap.size + 2) _ vs s) := A0'
  have HS : Hid (SysOn _ _ s) := (h.on (by have := R.small; omega)).keeps kZ
  clear A0' C0' h
  have TC : ∀ w', Keeps _ w' → ∀ i, i < 14 → w'.cell? ⟨tb, k * 14 + i, none⟩ = (tc t)[i]? := fun w' kk => T0 w' (kZ.trans kk)
  have TC0 : ∀ w', Keeps _ w' → w'.cell? ⟨tb, k * 14, none⟩ = some (.int .i64 t.no) := fun w' kk => T0 w' (kZ.trans kk) 0 (by omega)
  clear T0
  go_enter Tryz.func62, Tryz.ntmps62
  go_wp2_with fail
  change Calls _ _ _ (boxes3 w ⟨⟨some ⟨tb, 0, none⟩, tn, tcap⟩, ⟨la, ln, lcap⟩, ⟨ga, gn, gcap⟩, ⟨fa, fn, fcap⟩, ⟨ra, rn, rcap⟩⟩ s ⟨5, cn, cp, ca, cb⟩) _
  generalize boxes3 w ⟨⟨some ⟨tb, 0, none⟩, tn, tcap⟩, ⟨la, ln, lcap⟩, ⟨ga, gn, gcap⟩, ⟨fa, fn, fcap⟩, ⟨ra, rn, rcap⟩⟩ s ⟨5, cn, cp, ca, cb⟩ = Z at *
  have hb0 : ∀ w', Keeps Z w' → ∀ q, w'.cell? ⟨w.heap.size, q, none⟩ = (syc s ⟨⟨some ⟨tb, 0, none⟩, tn, tcap⟩, ⟨la, ln, lcap⟩, ⟨ga, gn, gcap⟩, ⟨fa, fn, fcap⟩, ⟨ra, rn, rcap⟩⟩)[q]? := fun w' k => (A0.out.g.var.box.keeps k).cells
  dsimp only [syc] at hb0
  have hc0 : ∀ w', Keeps Z w' → ∀ q, w'.cell? ⟨w.heap.size + 1, q, none⟩ = (cc ⟨5, cn, cp, ca, cb⟩)[q]? := fun w' k => (C0.out.keeps k).cells
  refine (HS.out.onT.sTaskAt cn Hpa.out (Keeps.refl _)).mono ?_
  rintro e w1 ⟨rfl, k1⟩
  go_upto_region 14 with fail
  have KY : Keeps Z (w1.alloc (.cells (tc t) 90)) := k1.alloc _
  have TB : Hid (Blk (w1.alloc (.cells (tc t) 90)) w1.heap.size (tc t)) := Blk.new _ _ _
  have AY : Hid (AskR w lo _ vs _ w.heap.size (w.heap.size + 2) _ vs s) := A0.out.keeps KY
  have SY : Hid (SysOn _ _ s) := HS.out.keeps KY
  change Code.wp _ _ _ _ (w1.alloc (.cells (tc t) 90))
  generalize w1.alloc (.cells (tc t) 90) = Y at *
  generalize w1.heap.size = tbx at *
  have hbY : ∀ w', Keeps Y w' → ∀ q, w'.cell? ⟨w.heap.size, q, none⟩ = _ := fun w' kk => hb0 w' (KY.trans kk)
  have hcY : ∀ w', Keeps Y w' → ∀ q, w'.cell? ⟨w.heap.size + 1, q, none⟩ = _ := fun w' kk => hc0 w' (KY.trans kk)
  have htY : ∀ w', Keeps Y w' → ∀ q, w'.cell? ⟨tbx, q, none⟩ = (tc t)[q]? := fun w' kk => (TB.out.keeps kk).cells
  clear hb0 hc0 TC TC0 A0 HS k1
  have HN0 : Hid (doN s ⟨5, cn, cp, ca, cb⟩ = if t.st != 2 then 5 else 0) := by show _ = _; rw [HNt]; rfl
  have HC : Hid ({ (s : Sy) with tasks := s.tasks.set k { t with st := 1 } } = doC s ⟨5, cn, cp, ca, cb⟩) := by show _ = _; rw [HCt]; rfl
  clear HNt HCt
  cases d1 : (t.st != 2)
  rotate_left
  · have HN : Hid (doN s ⟨5, cn, cp, ca, cb⟩ = 5) := by show _ = _; rw [HN0.out, d1]; rfl
    have AE := AY.out
    obtain ⟨_, o1, o2⟩ := AE.g.var.box
    dsimp only [syc] at o1
    obtain ⟨_, r1, r2⟩ := AE.r
    go_wp2
    exact AE.ret HN.out (fun h => absurd h (by decide)) rfl (fun Q D => by simp [results, Tryz.results62, go_sem, D])
  have HN : Hid (doN s ⟨5, cn, cp, ca, cb⟩ = 0) := by show _ = _; rw [HN0.out, d1]; rfl
  have AS := AY.out
  obtain ⟨z1, z2⟩ := AS.g.var.own.taskCells (rb := tb) rfl (k := k) HK.out
  have zc1 : Y.cell? ⟨tb, k * 14 + 3, none⟩ = (tc t)[3]? := z1 3 (by omega)
  have hor : tb ≠ w.heap.size := AS.neT rfl
  have hrr : tb ≠ w.heap.size + 2 := AS.neR rfl
  obtain ⟨_, p1, p2⟩ := AS.g.var.box
  dsimp only [syc] at p1
  obtain ⟨_, q1, q2⟩ := AS.r
  have AN : Hid (AskR w lo _ vs (Y.setCell ⟨tb, k * 14 + 3, none⟩ (.int .i64 1)) w.heap.size (w.heap.size + 2) _ vs { (s : Sy) with tasks := s.tasks.set k { t with st := 1 } }) := AS.taskCell (tb := tb) rfl HK.out (y := { t with st := 1 }) (j := 3) (by omega) rfl
  clear z1
  have AE := AN.out
  obtain ⟨_, o1, o2⟩ := AE.g.var.box
  dsimp only [syc] at o1
  obtain ⟨_, r1, r2⟩ := AE.r
  go_wp2
  exact AE.ret HN.out (fun _ => HC.out) rfl (fun Q D => by simp [results, Tryz.results62, go_sem, D])
set_option maxRecDepth 100000 in
set_option linter.unusedSimpArgs false in
set_option maxHeartbeats 8000000 in
theorem l11Do_nice {w : World} {lo : Nat} {v : Sv} {vs : List Lv} {s : Sy} (h : OwnS w lo v vs s) (hl : lo ≤ w.heap.size) (R : SysR s) (cn cp ca cb : Int) (hth : thereB s.tasks cn = true) :
    Calls Tryz.prog 62 #[.agg (syc s v), ck ⟨9, cn, cp, ca, cb⟩] w (Did w lo v vs (doN s ⟨9, cn, cp, ca, cb⟩) (doC s ⟨9, cn, cp, ca, cb⟩)) := by
  obtain ⟨⟨ta, tn, tcap⟩, ⟨la, ln, lcap⟩, ⟨ga, gn, gcap⟩, ⟨fa, fn, fcap⟩, ⟨ra, rn, rcap⟩⟩ := v
  obtain ⟨k, ek, ht, Hta⟩ := there_at hth
  have Hpa : Hid (atFrom s.tasks cn = (k : Int)) := ek
  obtain ⟨t, ht⟩ := ht
  have Htt : tAt s.tasks cn = t := Hta t ht
  have HNt : doN s ⟨9, cn, cp, ca, cb⟩ = ofTaskN s ⟨9, cn, cp, ca, cb⟩ t := by rw [doN_task (by rfl) (by rfl) hth, Htt]
  have HCt : doC s ⟨9, cn, cp, ca, cb⟩ = ofTaskC s ⟨9, cn, cp, ca, cb⟩ k t := by rw [doC_task (by rfl) (by rfl), ek, Htt, Int.toNat_natCast]
  have hk : k < s.tasks.length := lt_of_some ht
  obtain ⟨tb, htb⟩ := h.tasksAt hk
  dsimp only at htb
  subst htb
  have HK : Hid (s.tasks[k]? = some t) := ht
  have Hk : Hid (k < s.tasks.length) := hk
  have hkn : (k : Int) < (tn : Int) := by have := (h.t.row tc_size).1; dsimp only at this; omega
  have T0 : ∀ w', Keeps w w' → ∀ i, i < 14 → w'.cell? ⟨tb, k * 14 + i, none⟩ = (tc t)[i]? := fun w' kk i hi => (kk.cells tb _ (h.blkLt (i := 0) (b := tb) rfl).2).trans ((h.taskCells (rb := tb) rfl ht).1 i hi)
  clear ek Hta Htt hth
  obtain ⟨A0', C0', kZ⟩ := ask3 h hl ⟨9, cn, cp, ca, cb⟩
  have C0 : Hid (Blk _ (w.heap.size + 1) (cc ⟨9, cn, cp, ca, cb⟩)) := C0'
  have A0 : Hid (AskR w lo _ vs _ w.heap.size (w.heap.size + 2) _ vs s) := A0'
  have HS : Hid (SysOn _ _ s) := (h.on (by have := R.small; omega)).keeps kZ
  clear A0' C0' h
  have TC : ∀ w', Keeps _ w' → ∀ i, i < 14 → w'.cell? ⟨tb, k * 14 + i, none⟩ = (tc t)[i]? := fun w' kk => T0 w' (kZ.trans kk)
  have TC0 : ∀ w', Keeps _ w' → w'.cell? ⟨tb, k * 14, none⟩ = some (.int .i64 t.no) := fun w' kk => T0 w' (kZ.trans kk) 0 (by omega)
  clear T0
  go_enter Tryz.func62, Tryz.ntmps62
  go_wp2_with fail
  change Calls _ _ _ (boxes3 w ⟨⟨some ⟨tb, 0, none⟩, tn, tcap⟩, ⟨la, ln, lcap⟩, ⟨ga, gn, gcap⟩, ⟨fa, fn, fcap⟩, ⟨ra, rn, rcap⟩⟩ s ⟨9, cn, cp, ca, cb⟩) _
  generalize boxes3 w ⟨⟨some ⟨tb, 0, none⟩, tn, tcap⟩, ⟨la, ln, lcap⟩, ⟨ga, gn, gcap⟩, ⟨fa, fn, fcap⟩, ⟨ra, rn, rcap⟩⟩ s ⟨9, cn, cp, ca, cb⟩ = Z at *
  have hb0 : ∀ w', Keeps Z w' → ∀ q, w'.cell? ⟨w.heap.size, q, none⟩ = (syc s ⟨⟨some ⟨tb, 0, none⟩, tn, tcap⟩, ⟨la, ln, lcap⟩, ⟨ga, gn, gcap⟩, ⟨fa, fn, fcap⟩, ⟨ra, rn, rcap⟩⟩)[q]? := fun w' k => (A0.out.g.var.box.keeps k).cells
  dsimp only [syc] at hb0
  have hc0 : ∀ w', Keeps Z w' → ∀ q, w'.cell? ⟨w.heap.size + 1, q, none⟩ = (cc ⟨9, cn, cp, ca, cb⟩)[q]? := fun w' k => (C0.out.keeps k).cells
  refine (HS.out.onT.sTaskAt cn Hpa.out (Keeps.refl _)).mono ?_
  rintro e w1 ⟨rfl, k1⟩
  go_upto_region 14 with fail
  have KY : Keeps Z (w1.alloc (.cells (tc t) 90)) := k1.alloc _
  have TB : Hid (Blk (w1.alloc (.cells (tc t) 90)) w1.heap.size (tc t)) := Blk.new _ _ _
  have AY : Hid (AskR w lo _ vs _ w.heap.size (w.heap.size + 2) _ vs s) := A0.out.keeps KY
  have SY : Hid (SysOn _ _ s) := HS.out.keeps KY
  change Code.wp _ _ _ _ (w1.alloc (.cells (tc t) 90))
  generalize w1.alloc (.cells (tc t) 90) = Y at *
  generalize w1.heap.size = tbx at *
  have hbY : ∀ w', Keeps Y w' → ∀ q, w'.cell? ⟨w.heap.size, q, none⟩ = _ := fun w' kk => hb0 w' (KY.trans kk)
  have hcY : ∀ w', Keeps Y w' → ∀ q, w'.cell? ⟨w.heap.size + 1, q, none⟩ = _ := fun w' kk => hc0 w' (KY.trans kk)
  have htY : ∀ w', Keeps Y w' → ∀ q, w'.cell? ⟨tbx, q, none⟩ = (tc t)[q]? := fun w' kk => (TB.out.keeps kk).cells
  clear hb0 hc0 TC TC0 A0 HS k1
  have HN0 : Hid (doN s ⟨9, cn, cp, ca, cb⟩ = if t.cls != 3 then 5 else if !inB ca (-4) 4 then 1 else 0) := by show _ = _; rw [HNt]; rfl
  have HC : Hid ({ (s : Sy) with tasks := s.tasks.set k { t with nice := ca } } = doC s ⟨9, cn, cp, ca, cb⟩) := by show _ = _; rw [HCt]; rfl
  clear HNt HCt
  cases d1 : (t.cls != 3)
  rotate_left
  · have HN : Hid (doN s ⟨9, cn, cp, ca, cb⟩ = 5) := by show _ = _; rw [HN0.out, d1]; rfl
    have AE := AY.out
    obtain ⟨_, o1, o2⟩ := AE.g.var.box
    dsimp only [syc] at o1
    obtain ⟨_, r1, r2⟩ := AE.r
    go_wp2
    exact AE.ret HN.out (fun h => absurd h (by decide)) rfl (fun Q D => by simp [results, Tryz.results62, go_sem, D])
  go_upto_if 116 with (go_at_call 78; refine (specNiceOk_any _ _).mono ?_; rintro e w' ⟨rfl, hw'⟩; have hw2 := hw'.symm; subst hw2)
  cases d2 : inB ca (-4) 4
  · have HN : Hid (doN s ⟨9, cn, cp, ca, cb⟩ = 1) := by show _ = _; rw [HN0.out, d1, d2]; rfl
    have AE := AY.out
    obtain ⟨_, o1, o2⟩ := AE.g.var.box
    dsimp only [syc] at o1
    obtain ⟨_, r1, r2⟩ := AE.r
    go_wp2
    exact AE.ret HN.out (fun h => absurd h (by decide)) rfl (fun Q D => by simp [results, Tryz.results62, go_sem, D])
  have HN : Hid (doN s ⟨9, cn, cp, ca, cb⟩ = 0) := by show _ = _; rw [HN0.out, d1, d2]; rfl
  have AS := AY.out
  obtain ⟨z1, z2⟩ := AS.g.var.own.taskCells (rb := tb) rfl (k := k) HK.out
  have zc1 : Y.cell? ⟨tb, k * 14 + 12, none⟩ = (tc t)[12]? := z1 12 (by omega)
  have hor : tb ≠ w.heap.size := AS.neT rfl
  have hrr : tb ≠ w.heap.size + 2 := AS.neR rfl
  obtain ⟨_, p1, p2⟩ := AS.g.var.box
  dsimp only [syc] at p1
  obtain ⟨_, q1, q2⟩ := AS.r
  have AN : Hid (AskR w lo _ vs (Y.setCell ⟨tb, k * 14 + 12, none⟩ (.int .i64 ca)) w.heap.size (w.heap.size + 2) _ vs { (s : Sy) with tasks := s.tasks.set k { t with nice := ca } }) := AS.taskCell (tb := tb) rfl HK.out (y := { t with nice := ca }) (j := 12) (by omega) rfl
  clear z1
  have AE := AN.out
  obtain ⟨_, o1, o2⟩ := AE.g.var.box
  dsimp only [syc] at o1
  obtain ⟨_, r1, r2⟩ := AE.r
  go_wp2
  exact AE.ret HN.out (fun _ => HC.out) rfl (fun Q D => by simp [results, Tryz.results62, go_sem, D])
end Go.Proofs.YtpikopdfkhagmaaGreatDoor
