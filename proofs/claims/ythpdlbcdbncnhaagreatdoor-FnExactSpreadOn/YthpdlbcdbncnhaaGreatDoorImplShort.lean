/-
  The program's ShortOf and SpreadOn.
-/
import Derived.Test.YthpdlbcdbncnhaaGreatDoorShortSpec
import Derived.Test.YthpdlbcdbncnhaaGreatDoorImplSysOk
import Derived.Test.YthpdlbcdbncnhaaGreatDoorGIdue1
import Derived.Test.YthpdlbcdbncnhaaGreatDoorGItask2
import Derived.Test.YthpdlbcdbncnhaaGreatDoorGIfair3
import Derived.Deep.RegionHeld3
namespace Go.Proofs.YthpdlbcdbncnhaaGreatDoor
open Go.RowKit
attribute [local go_sem] Keeps.refl Keeps.alloc Keeps.drew Keeps.drewN

theorem blk_second (w : World) (o : Obj) (C : Array Value) (t : TypeId) : Blk ((w.alloc o).alloc (.cells C t)) (w.heap.size + 1) C := by
  have := Blk.new (w.alloc o) C t
  simpa using this
set_option maxRecDepth 100000 in
set_option maxHeartbeats 4000000 in
theorem awakeOn_any {w : World} {v : Sv} {s : Sy} (h : SysOn w v s) (xb : Nat) (B : Blk w xb (syc s v)) (cpu : Int) :
    Calls Tryz.prog 53 #[.pointer (some ⟨xb, 0, none⟩), .int .i64 cpu] w fun e w' => ∃ u, e = .returned u ∧ Own 47 14 tc w' w.heap.size u (awakeL s cpu) ∧ Keeps w w' := by
  obtain ⟨⟨ta, tn, tcap⟩, vl, vg, vf, vr⟩ := v
  have hm : tn ≤ 2000000 := by have h1 := h.size; have h2 : s.tasks.length = tn := h.lay.tl; unfold sizeS at h1; omega
  have Hn : Hid (s.tasks.length = tn) := h.lay.tl
  have hb : ∀ w', Keeps w w' → ∀ j, w'.cell? ⟨xb, j, none⟩ = (syc s ⟨⟨ta, tn, tcap⟩, vl, vg, vf, vr⟩)[j]? := fun w' k => (B.keeps k).cells
  have hs1 : Hid (Ts w ta s.tasks) := h.lay.t
  clear h B
  have HE : Hid (awakeL s cpu = s.tasks.filter (awakeB cpu)) := rfl
  go_enter Tryz.func53, Tryz.ntmps53
  go_wp2
  clear hb
  go_loopw [5, 13] (fun o i wr => ∃ (k : Nat) (xs : List Tsk), k ≤ tn ∧ i = .int .i64 k ∧ xs.length ≤ k ∧ Hid (xs = (s.tasks.take k).filter (awakeB cpu)) ∧ Hid (Own 47 14 tc wr w.heap.size o xs) ∧ Keeps w wr) (fun _ i _ => tn - (intOf i).toNat)
  case atStart => exact ⟨0, [], Nat.zero_le _, rfl, by simp, by show _ = _; simp, World.ownsRow_nil _ _ _ _, Keeps.refl _⟩
  case round =>
    obtain ⟨k, xs, hk, rfl, hxl, HX, O, hK⟩ := hrel
    by_cases hlt : k < tn
    · obtain ⟨t, ht⟩ := some_in (xs := s.tasks) (k := k) (by rw [Hn.out]; exact hlt)
      obtain ⟨b, off, rfl, r0, r1⟩ := hs1.out.at ht (by omega)
      have hlt' : (k : Int) < (tn : Int) := by omega
      have Hstep := filter_step (awakeB cpu) ht
      rw [← HX.out] at Hstep
      have HS : Hid ((s.tasks.take (k + 1)).filter (awakeB cpu) = xs ++ (if awakeB cpu t then [t] else [])) := Hstep
      clear ht Hstep
      cases c1 : (t.cpu == cpu)
      · have Hx : Hid (xs = (s.tasks.take (k + 1)).filter (awakeB cpu)) := by show _ = _; rw [HS.out]; simp [awakeB, c1]
        go_wp2
        exact ⟨⟨k + 1, xs, by omega, by go_num, by omega, Hx, O.out.keeps ((Keeps.refl _).alloc _), hK.alloc _⟩, by simp only [intOf]; omega⟩
      cases c2 : t.idle
      rotate_left
      · have Hx : Hid (xs = (s.tasks.take (k + 1)).filter (awakeB cpu)) := by show _ = _; rw [HS.out]; simp [awakeB, c1, c2]
        go_wp2
        exact ⟨⟨k + 1, xs, by omega, by go_num, by omega, Hx, O.out.keeps ((Keeps.refl _).alloc _), hK.alloc _⟩, by simp only [intOf]; omega⟩
      have Hx : Hid (xs ++ [t] = (s.tasks.take (k + 1)).filter (awakeB cpu)) := by show _ = _; rw [HS.out]; simp [awakeB, c1, c2]
      obtain ⟨u, rfl⟩ : ∃ u : Tsk, t = { u with idle := false } := ⟨t, by rw [← c2]⟩
      clear HS c2
      go_wp2_with (at_builtin; (refine wpList_push rfl _ _ 32 rfl w 47 (.agg (tc Tsk.zero)) 14 112 tc Tryz.underlying32 (by kernel_rfl) rfl (by decide) tc_size tc_one _ xs rfl wr O.out hK (((Keeps.refl _).alloc _).alloc _) { u with idle := false } (wr.heap.size + 1) 1 (blk_second _ _ _ _) rfl ?c1 ?c2 ?_))
      case c1 => unfold maxLen; omega
      case c2 => omega
      intro v' w5 own5 k5 _
      have HO : Hid (Own 47 14 tc w5 w.heap.size v' (xs ++ [{ u with idle := false }])) := own5
      clear own5 O
      go_wp2
      exact ⟨⟨k + 1, xs ++ [{ u with idle := false }], by omega, by go_num, by simp; omega, Hx, HO, k5⟩, by simp only [intOf]; omega⟩
    · have hlt' : decide ((k : Int) < (tn : Int)) = false := by simp; omega
      have HP : Hid (awakeL s cpu = xs) := by
        have h1 := HX.out
        rw [List.take_of_length_le (by have := Hn.out; omega)] at h1
        show _ = _
        rw [HE.out, h1]
      clear HX
      go_wp2
      go_ret
      exact ⟨_, rfl, by rw [HP.out]; exact O.out, hK⟩
def SaysShortOf : Prop := ∀ (w : World) (v : Sv) (s : Sy) (no : Int), GlobE w → SysOn w v s → Calls Tryz.prog 10 #[.agg (syc s v), .int .i64 no] w fun e w' => e = .returned (.tuple #[.int .i64 (shortI s no), .bool (shortOk s no)]) ∧ Keeps w w'
def SaysSpreadOn : Prop := ∀ (w : World) (v : Sv) (s : Sy) (cpu : Int), GlobE w → SysOn w v s → Calls Tryz.prog 13 #[.agg (syc s v), .int .i64 cpu] w fun e w' => e = .returned (.int .i64 (spreadOnI s cpu)) ∧ Keeps w w'
set_option maxRecDepth 100000 in
set_option maxHeartbeats 4000000 in
theorem implShortOf_says : SaysShortOf := by
  intro w v s no hg h
  obtain ⟨⟨ta, tn, tcap⟩, vl, vg, vf, vr⟩ := v
  have hm : tn ≤ 2000000 := by have h1 := h.size; have h2 : s.tasks.length = tn := h.lay.tl; unfold sizeS at h1; omega
  have Hn : Hid (s.tasks.length = tn) := h.lay.tl
  have kW : Keeps w (w.alloc (.cells (syc s ⟨⟨ta, tn, tcap⟩, vl, vg, vf, vr⟩) 37)) := (Keeps.refl w).alloc _
  have hb : ∀ w', Keeps (w.alloc (.cells (syc s ⟨⟨ta, tn, tcap⟩, vl, vg, vf, vr⟩) 37)) w' → ∀ j, w'.cell? ⟨w.heap.size, j, none⟩ = (syc s ⟨⟨ta, tn, tcap⟩, vl, vg, vf, vr⟩)[j]? := fun w' k => ((Blk.new w (syc s ⟨⟨ta, tn, tcap⟩, vl, vg, vf, vr⟩) 37).keeps k).cells
  have hS : Hid (SysOn (w.alloc (.cells (syc s ⟨⟨ta, tn, tcap⟩, vl, vg, vf, vr⟩) 37)) ⟨⟨ta, tn, tcap⟩, vl, vg, vf, vr⟩ s) := h.keeps kW
  have hs1 : Hid (Ts (w.alloc (.cells (syc s ⟨⟨ta, tn, tcap⟩, vl, vg, vf, vr⟩) 37)) ta s.tasks) := hS.out.lay.t
  have HG : Hid (GlobE (w.alloc (.cells (syc s ⟨⟨ta, tn, tcap⟩, vl, vg, vf, vr⟩) 37))) := hg.keeps kW
  clear h hg
  have c1 : ∀ w', Keeps (w.alloc (.cells (syc s ⟨⟨ta, tn, tcap⟩, vl, vg, vf, vr⟩) 37)) w' → Calls Tryz.prog 17 #[.slice ta tn tcap, .int .i64 no] w' fun e w'' => e = .returned (.int .i64 (atFrom s.tasks no)) ∧ Keeps w' w'' := fun w' k => by
    have := implTaskAt_says ta tcap s.tasks no w' (by rw [Hn.out]; unfold maxLen; omega) (hs1.out.keeps k)
    rw [Hn.out] at this
    exact this
  have c2 : ∀ w', Keeps (w.alloc (.cells (syc s ⟨⟨ta, tn, tcap⟩, vl, vg, vf, vr⟩) 37)) w' → Calls Tryz.prog 42 #[.agg (syc s ⟨⟨ta, tn, tcap⟩, vl, vg, vf, vr⟩)] w' fun e w'' => e = .returned (.bool (sysB s)) ∧ Keeps w' w'' := fun w' k => implSysOk_says w' _ s (HG.out.keeps k) (hS.out.keeps k)
  go_enter Tryz.func10, Tryz.ntmps10
  go_wp2_with fail
  generalize w.alloc (.cells (syc s ⟨⟨ta, tn, tcap⟩, vl, vg, vf, vr⟩) 37) = W at *
  refine (c1 W (Keeps.refl _)).mono ?_
  rintro e w1 ⟨rfl, k1⟩
  clear c1
  cases hf : s.tasks.findIdx? (fun t => t.no == no) with
  | none =>
    have H1 : Hid (shortOk s no = false ∧ shortI s no = 0) := short_none hf
    rw [atFrom_no hf]
    clear hf c2
    go_wp2
    go_ret2
    exact ⟨by rw [H1.out.1, H1.out.2]; rfl, kW.trans k1⟩
  | some i =>
    obtain ⟨t, ht, -⟩ := find_at hf
    have hi : i < tn := by have := lt_of_some ht; have := Hn.out; omega
    rw [atFrom_yes hf]
    have hi' : decide ((i : Int) < 0) = false := by simp
    go_wp2_with fail
    refine (c2 w1 k1).mono ?_
    rintro e w2 ⟨rfl, k2⟩
    have K2 : Keeps W w2 := k1.trans k2
    clear c2 k1 k2
    cases hsb : sysB s
    · have H1 : Hid (shortOk s no = false ∧ shortI s no = 0) := short_bad hsb
      clear hf ht
      go_wp2
      go_ret2
      exact ⟨by rw [H1.out.1, H1.out.2]; rfl, kW.trans K2⟩
    have H1 := short_at hf ht hsb
    obtain ⟨b, off, rfl, r0, r1⟩ := (hs1.out.keeps K2).at ht (by omega)
    have HR : SysR s := sysB_iff.1 hsb
    have hib : (i : Int) < (tn : Int) := by omega
    have hdb : dueB t = (t.cls == 1) := by unfold dueB; rw [tasksB_task HR.tasks ht, Bool.true_and]
    have hb2 := fun w' (k : Keeps w2 w') => hb w' (K2.trans k)
    cases hc : (t.cls == 1)
    · have H2 : Hid (shortOk s no = false ∧ shortI s no = 0) := ⟨by rw [H1.1, hc], H1.2.2 hc⟩
      rw [hc] at hdb
      clear H1 ht hf HR hS hs1 hb
      go_wp2_with (go_at_call 43; refine (isDue_any t _).mono ?_; rintro e w3 ⟨rfl, k3⟩; rw [hdb])
      go_ret2
      exact ⟨by rw [H2.out.1, H2.out.2]; rfl, (kW.trans K2).trans k3⟩
    · obtain ⟨⟨l0, l1⟩, d0, d1⟩ := due_small (tasksB_task HR.tasks ht) hc
      obtain ⟨n0, n1⟩ := HR.now
      have H2 : Hid (shortOk s no = true ∧ shortI s no = t.left - (t.due - s.now)) := ⟨by rw [H1.1, hc], H1.2.1 hc⟩
      rw [hc] at hdb
      clear H1 ht hf HR hS hs1 hb hc
      go_wp2_with (first
        | (go_at_call 43; refine (isDue_any t _).mono ?_; rintro e w3 ⟨rfl, k3⟩; rw [hdb])
        | (go_at_call 44; refine (dueTaskOf_any t _).mono ?_; rintro e w4 ⟨rfl, k4⟩; have K4 : Keeps w2 w4 := k3.trans k4; have hb4 := fun w' (k : Keeps w4 w') => hb2 w' (K4.trans k); clear hb2 r0 r1))
      go_ret2
      exact ⟨by rw [H2.out.1, H2.out.2]; rfl, (((kW.trans K2).trans K4).alloc _)⟩
set_option maxRecDepth 100000 in
set_option maxHeartbeats 4000000 in
theorem implSpreadOn_says : SaysSpreadOn := by
  intro w v s cpu hg h
  have kW : Keeps w (w.alloc (.cells (syc s v) 37)) := (Keeps.refl w).alloc _
  have hb : ∀ w', Keeps (w.alloc (.cells (syc s v) 37)) w' → ∀ j, w'.cell? ⟨w.heap.size, j, none⟩ = (syc s v)[j]? := fun w' k => ((Blk.new w (syc s v) 37).keeps k).cells
  have hS : Hid (SysOn (w.alloc (.cells (syc s v) 37)) v s) := h.keeps kW
  have HG : Hid (GlobE (w.alloc (.cells (syc s v) 37))) := hg.keeps kW
  have HB : Hid (Blk (w.alloc (.cells (syc s v) 37)) w.heap.size (syc s v)) := Blk.new _ _ _
  clear h hg
  go_enter Tryz.func13, Tryz.ntmps13
  go_wp2_with fail
  generalize w.alloc (.cells (syc s v) 37) = W at *
  refine (implSysOk_says W v s HG.out hS.out).mono ?_
  rintro e w1 ⟨rfl, k1⟩
  cases hsb : sysB s
  · have H1 : Hid (spreadOnI s cpu = 0) := by show _ = _; unfold spreadOnI; rw [hsb]; rfl
    go_wp2
    go_ret
    exact ⟨by rw [H1.out]; rfl, kW.trans k1⟩
  have H1 : Hid (spreadOnI s cpu = fairSpreadI (awakeL s cpu)) := by show _ = _; unfold spreadOnI; rw [hsb]; rfl
  have hfew : (awakeL s cpu).length ≤ 12 := Nat.le_trans (List.length_filter_le _ _) (sysB_iff.1 hsb).few.1
  go_wp2_with fail
  refine (awakeOn_any (hS.out.keeps k1) w.heap.size (HB.out.keeps k1) cpu).mono ?_
  rintro e w2 ⟨u, rfl, o2, k2⟩
  obtain ⟨ua, uc, rfl⟩ := o2.form tc_size
  have R2 : Hid (Ts w2 ua (awakeL s cpu)) := (Own.row (x := ⟨ua, _, uc⟩) o2 tc_size).2.1
  obtain ⟨m, Hm⟩ : ∃ m, Hid ((awakeL s cpu).length = m) := ⟨_, rfl⟩
  have c3 := implFairSpread_says ua uc (awakeL s cpu) w2 (by omega) R2.out
  rw [Hm.out] at c3 ⊢
  clear o2 hfew
  go_wp2_with (go_at_call 52; refine c3.mono ?_; rintro e w3 ⟨rfl, k3⟩)
  go_ret
  exact ⟨by rw [H1.out]; rfl, ((kW.trans k1).trans k2).trans k3⟩
end Go.Proofs.YthpdlbcdbncnhaaGreatDoor
