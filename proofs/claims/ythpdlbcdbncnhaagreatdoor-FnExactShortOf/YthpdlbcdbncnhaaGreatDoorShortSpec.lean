/-
  The model's ShortOf and SpreadOn.
-/
import Derived.Test.YthpdlbcdbncnhaaGreatDoorShortPure
import Derived.Test.YthpdlbcdbncnhaaGreatDoorGSys5
import Derived.Test.YthpdlbcdbncnhaaGreatDoorGSys2
import Derived.Test.YthpdlbcdbncnhaaGreatDoorGDff1
import Derived.Deep.RegionHeld3
namespace Go.Proofs.YthpdlbcdbncnhaaGreatDoor
open Go.RowKit
attribute [local go_sem] Keeps.refl Keeps.alloc Keeps.drew Keeps.drewN

theorem atFrom_no {ts : List Tsk} {no : Int} (h : ts.findIdx? (fun t => t.no == no) = none) : atFrom ts no = -1 := by unfold atFrom; rw [h]
theorem atFrom_yes {ts : List Tsk} {no : Int} {i : Nat} (h : ts.findIdx? (fun t => t.no == no) = some i) : atFrom ts no = i := by unfold atFrom; rw [h]
set_option maxRecDepth 100000 in
set_option maxHeartbeats 4000000 in
theorem specShortOf_any {w : World} {v : Sv} {s : Sy} (h : SysOn w v s) (no : Int) :
    Calls Tryz.prog 8 #[.agg (syc s v), .int .i64 no] w fun e w' => e = .returned (.tuple #[.int .i64 (shortI s no), .bool (shortOk s no)]) ∧ Keeps w w' := by
  obtain ⟨⟨ta, tn, tcap⟩, vl, vg, vf, vr⟩ := v
  have hm : tn ≤ 2000000 := by have h1 := h.size; have h2 : s.tasks.length = tn := h.lay.tl; unfold sizeS at h1; omega
  have Hn : Hid (s.tasks.length = tn) := h.lay.tl
  have kW : Keeps w (w.alloc (.cells (syc s ⟨⟨ta, tn, tcap⟩, vl, vg, vf, vr⟩) 37)) := (Keeps.refl w).alloc _
  have hb : ∀ w', Keeps (w.alloc (.cells (syc s ⟨⟨ta, tn, tcap⟩, vl, vg, vf, vr⟩) 37)) w' → ∀ j, w'.cell? ⟨w.heap.size, j, none⟩ = (syc s ⟨⟨ta, tn, tcap⟩, vl, vg, vf, vr⟩)[j]? := fun w' k => ((Blk.new w (syc s ⟨⟨ta, tn, tcap⟩, vl, vg, vf, vr⟩) 37).keeps k).cells
  have hS : Hid (SysOn (w.alloc (.cells (syc s ⟨⟨ta, tn, tcap⟩, vl, vg, vf, vr⟩) 37)) ⟨⟨ta, tn, tcap⟩, vl, vg, vf, vr⟩ s) := h.keeps kW
  have hs1 : Hid (Ts (w.alloc (.cells (syc s ⟨⟨ta, tn, tcap⟩, vl, vg, vf, vr⟩) 37)) ta s.tasks) := hS.out.lay.t
  clear h
  have c1 : ∀ w', Keeps (w.alloc (.cells (syc s ⟨⟨ta, tn, tcap⟩, vl, vg, vf, vr⟩) 37)) w' → Calls Tryz.prog 36 #[.slice ta tn tcap, .int .i64 no] w' fun e w'' => e = .returned (.int .i64 (atFrom s.tasks no)) ∧ Keeps w' w'' := fun w' k => by
    have := specTaskAt_any ta tcap s.tasks no w' (by rw [Hn.out]; unfold maxLen; omega) (hs1.out.keeps k)
    rw [Hn.out] at this
    exact this
  have c2 : ∀ w', Keeps (w.alloc (.cells (syc s ⟨⟨ta, tn, tcap⟩, vl, vg, vf, vr⟩) 37)) w' → Calls Tryz.prog 29 #[.agg (syc s ⟨⟨ta, tn, tcap⟩, vl, vg, vf, vr⟩)] w' fun e w'' => e = .returned (.bool (sysB s)) ∧ Keeps w' w'' := fun w' k => specSysOk_any (hS.out.keeps k)
  go_enter Tryz.func8, Tryz.ntmps8
  go_wp2_with fail
  generalize w.alloc (.cells (syc s ⟨⟨ta, tn, tcap⟩, vl, vg, vf, vr⟩) 37) = W at *
  refine (c1 W (Keeps.refl _)).mono ?_
  rintro e w1 ⟨rfl, k1⟩
  clear c1
  go_wp2_with fail
  refine (c2 w1 k1).mono ?_
  rintro e w2 ⟨rfl, k2⟩
  have K2 : Keeps W w2 := k1.trans k2
  clear c2 k1 k2
  cases hsb : sysB s
  · have H1 : Hid (shortOk s no = false ∧ shortI s no = 0) := short_bad hsb
    go_wp2
    go_ret2
    exact ⟨by rw [H1.out.1, H1.out.2]; rfl, kW.trans K2⟩
  cases hf : s.tasks.findIdx? (fun t => t.no == no) with
  | none =>
    have H1 : Hid (shortOk s no = false ∧ shortI s no = 0) := short_none hf
    rw [atFrom_no hf]
    clear hf
    go_wp2
    go_ret2
    exact ⟨by rw [H1.out.1, H1.out.2]; rfl, kW.trans K2⟩
  | some i =>
    obtain ⟨t, ht, -⟩ := find_at hf
    have H1 := short_at hf ht hsb
    have hi : i < tn := by have := lt_of_some ht; have := Hn.out; omega
    rw [atFrom_yes hf]
    obtain ⟨b, off, rfl, r0, r1⟩ := (hs1.out.keeps K2).at ht (by omega)
    have HR : SysR s := sysB_iff.1 hsb
    have hi' : decide ((i : Int) < 0) = false := by simp
    have hib : (i : Int) < (tn : Int) := by omega
    cases hc : (t.cls == 1)
    · have H2 : Hid (shortOk s no = false ∧ shortI s no = 0) := ⟨by rw [H1.1, hc], H1.2.2 hc⟩
      have hc' : (t.cls != 1) = true := by simp [bne, hc]
      have hb2 := fun w' (k : Keeps w2 w') => hb w' (K2.trans k)
      clear H1 ht hf HR hS hs1 hb
      go_wp2
      go_ret2
      exact ⟨by rw [H2.out.1, H2.out.2]; rfl, kW.trans K2⟩
    · obtain ⟨⟨l0, l1⟩, d0, d1⟩ := due_small (tasksB_task HR.tasks ht) hc
      obtain ⟨n0, n1⟩ := HR.now
      have H2 : Hid (shortOk s no = true ∧ shortI s no = t.left - (t.due - s.now)) := ⟨by rw [H1.1, hc], H1.2.1 hc⟩
      have hc' : (t.cls != 1) = false := by simp [bne, hc]
      have hb2 := fun w' (k : Keeps w2 w') => hb w' (K2.trans k)
      clear H1 ht hf HR hS hs1 hb hc
      go_wp2
      go_ret2
      exact ⟨by rw [H2.out.1, H2.out.2]; rfl, (kW.trans K2).alloc _⟩
set_option maxRecDepth 100000 in
set_option maxHeartbeats 4000000 in
theorem specSpreadOn_any {w : World} {v : Sv} {s : Sy} (h : SysOn w v s) (cpu : Int) :
    Calls Tryz.prog 12 #[.agg (syc s v), .int .i64 cpu] w fun e w' => e = .returned (.int .i64 (spreadOnI s cpu)) ∧ Keeps w w' := by
  have kW : Keeps w (w.alloc (.cells (syc s v) 37)) := (Keeps.refl w).alloc _
  have hb : ∀ w', Keeps (w.alloc (.cells (syc s v) 37)) w' → ∀ j, w'.cell? ⟨w.heap.size, j, none⟩ = (syc s v)[j]? := fun w' k => ((Blk.new w (syc s v) 37).keeps k).cells
  have hS : Hid (SysOn (w.alloc (.cells (syc s v) 37)) v s) := h.keeps kW
  have Hsz : Hid ((awakeL s cpu).length ≤ 2000000) := by
    have h1 := h.size
    have h2 : (awakeL s cpu).length ≤ s.tasks.length := List.length_filter_le _ _
    show _ ≤ _
    unfold sizeS at h1
    omega
  clear h
  go_enter Tryz.func12, Tryz.ntmps12
  go_wp2_with fail
  generalize w.alloc (.cells (syc s v) 37) = W at *
  refine (specSysOk_any hS.out).mono ?_
  rintro e w1 ⟨rfl, k1⟩
  cases hsb : sysB s
  · have H1 : Hid (spreadOnI s cpu = 0) := by show _ = _; unfold spreadOnI; rw [hsb]; rfl
    go_wp2
    go_ret
    exact ⟨by rw [H1.out]; rfl, kW.trans k1⟩
  have H1 : Hid (spreadOnI s cpu = fairSpreadI (awakeL s cpu)) := by show _ = _; unfold spreadOnI; rw [hsb]; rfl
  go_wp2_with fail
  refine (l10Awake_any (hS.out.keeps k1) cpu).mono ?_
  rintro e w2 ⟨u, rfl, o2, k2⟩
  obtain ⟨ua, uc, rfl⟩ := o2.form tc_size
  have R2 : Hid (Ts w2 ua (awakeL s cpu)) := (Own.row (x := ⟨ua, _, uc⟩) o2 tc_size).2.1
  obtain ⟨m, Hm⟩ : ∃ m, Hid ((awakeL s cpu).length = m) := ⟨_, rfl⟩
  have c3 := specFairSpread_any ua uc (awakeL s cpu) w2 (by have := Hsz.out; unfold maxLen; omega) R2.out
  rw [Hm.out] at c3 ⊢
  clear o2
  go_wp2_with (go_at_call 50; refine c3.mono ?_; rintro e w3 ⟨rfl, k3⟩)
  go_ret
  exact ⟨by rw [H1.out]; rfl, ((kW.trans k1).trans k2).trans k3⟩
end Go.Proofs.YthpdlbcdbncnhaaGreatDoor
