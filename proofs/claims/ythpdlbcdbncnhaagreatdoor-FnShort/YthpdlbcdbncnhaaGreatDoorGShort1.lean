/-
  Deadlines, the program's side: what its functions are made
  How short a task with a deadline is; how far apart those ar
-/
import Derived.Test.YthpdlbcdbncnhaaGreatDoorGItask2
import Derived.Test.YthpdlbcdbncnhaaGreatDoorGDff1
import Derived.Test.YthpdlbcdbncnhaaGreatDoorGBase2
import Derived.Test.YthpdlbcdbncnhaaGreatDoorGPure2
import Derived.Test.YthpdlbcdbncnhaaGreatDoorGTask2
import Derived.Test.YthpdlbcdbncnhaaGreatDoorGSys4
import Derived.Test.YthpdlbcdbncnhaaGreatDoorGTask3
import Derived.Test.YthpdlbcdbncnhaaGreatDoorGSys5
import Derived.Test.YthpdlbcdbncnhaaGreatDoorGSys2
import Derived.Deep.RegionHeld3
import Derived.Test.YthpdlbcdbncnhaaGreatDoorImplSysOk
import Derived.Test.YthpdlbcdbncnhaaGreatDoorGIfair3
namespace Go.Proofs.YthpdlbcdbncnhaaGreatDoor
open Go.RowKit
attribute [local go_sem] Keeps.refl Keeps.alloc Keeps.drew Keeps.drewN
set_option maxRecDepth 100000 in
theorem qf2 (t : Tsk) (w : World) :
  Calls Tryz.prog 43 #[tk t] w fun e w' => e = .returned (.bool (dueB t)) /\ Keeps w w' := by
 cases c1 : (t.cls == 1)
 ·have Hr : Hid (dueB t = false) := by show _ = _; simp [dueB, c1]
  go_enter Tryz.func43, Tryz.ntmps43
  go_wp2
  go_ret
  exact ⟨by rw [Hr.out]; rfl, (Keeps.refl _).alloc _⟩
 ·have Hr : Hid (dueB t = qaf t) := by show _ = _; simp [dueB, c1]
  go_enter Tryz.func43, Tryz.ntmps43
  go_wp2_with (go_at_call 83; refine (qds t _).mono ?_; rintro e w1 ⟨rfl, k1⟩)
  go_ret
  exact ⟨by rw [Hr.out]; rfl, ((Keeps.refl w).alloc _).trans k1⟩
end Go.Proofs.YthpdlbcdbncnhaaGreatDoor
namespace Go.Proofs.YthpdlbcdbncnhaaGreatDoor
open Go.RowKit
def qa4 (s : Sy) (no : Int) : Bool := sysB s && match s.tasks.findIdx? (fun t => t.no == no) with
 | some i => (s.tasks.getD i Tsk.zero).cls == 1
 | none => false
def qa9 (s : Sy) (no : Int) : Int := if qa4 s no then (match s.tasks.findIdx? (fun t => t.no == no) with
 | some i => (s.tasks.getD i Tsk.zero).left - ((s.tasks.getD i Tsk.zero).due - s.now)
 | none => 0) else 0
def qbV (s : Sy) (cpu : Int) : Int := if sysB s then qbw (qaZ s cpu) else 0
theorem qfe {s : Sy} {no : Int} (h : s.tasks.findIdx? (fun t => t.no == no) = none) : qa4 s no = false /\ qa9 s no = 0 := by
 have e : qa4 s no = false := by unfold qa4; rw [h]; simp
 exact ⟨e, by unfold qa9; rw [e]; rfl⟩
theorem qff {s : Sy} {no : Int} (h : sysB s = false) : qa4 s no = false /\ qa9 s no = 0 := by
 have e : qa4 s no = false := by unfold qa4; rw [h]; rfl
 exact ⟨e, by unfold qa9; rw [e]; rfl⟩
theorem qfg {s : Sy} {no : Int} {i : Nat} {t : Tsk} (h : s.tasks.findIdx? (fun t => t.no == no) = some i) (ht : s.tasks[i]? = some t) (hs : sysB s = true) :
  qa4 s no = (t.cls == 1) /\ ((t.cls == 1) = true -> qa9 s no = t.left - (t.due - s.now)) /\ ((t.cls == 1) = false -> qa9 s no = 0) := by
 have e0 : s.tasks.getD i Tsk.zero = t := by rw [List.getD_eq_getElem?_getD, ht]; rfl
 have e : qa4 s no = (t.cls == 1) := by unfold qa4; rw [h, hs]; simp only [e0, Bool.true_and]
 refine ⟨e, fun c => ?_, fun c => ?_⟩
 ·unfold qa9; rw [e, c, h]; simp only [e0, if_true]
 ·unfold qa9; rw [e, c]; rfl
theorem qfh {α : Type} {p : α -> Bool} : ∀ {xs : List α} {i : Nat}, xs.findIdx? p = some i -> ∃ x, xs[i]? = some x /\ p x = true := by
 intro xs i h
 obtain ⟨h1, h2, _⟩ := List.findIdx?_eq_some_iff_getElem.1 h
 exact ⟨xs[i], by simp [h1], h2⟩
theorem qfi {t : Tsk} (h : qaf t = true) (c : (t.cls == 1) = true) : (0 <= t.left /\ t.left <= 40) /\ 0 <= t.due /\ t.due <= 100040 := by
 unfold qaf at h
 simp only [Bool.and_eq_true] at h
 have h1 := h.2
 unfold qa0 at h1
 rw [c, if_pos rfl] at h1
 simp only [Bool.and_eq_true, okB, qau] at h1
 omega
end Go.Proofs.YthpdlbcdbncnhaaGreatDoor
namespace Go.Proofs.YthpdlbcdbncnhaaGreatDoor
open Go.RowKit
attribute [local go_sem] Keeps.refl Keeps.alloc Keeps.drew Keeps.drewN
theorem qgR {ts : List Tsk} {no : Int} (h : ts.findIdx? (fun t => t.no == no) = none) : qav ts no = -1 := by unfold qav; rw [h]
theorem qfj {ts : List Tsk} {no : Int} {i : Nat} (h : ts.findIdx? (fun t => t.no == no) = some i) : qav ts no = i := by unfold qav; rw [h]
set_option maxRecDepth 100000 in
set_option maxHeartbeats 4000000 in
theorem qks {w : World} {v : Sv} {s : Sy} (h : SysOn w v s) (no : Int) :
  Calls Tryz.prog 8 #[.agg (syc s v), .int .i64 no] w fun e w' => e = .returned (.tuple #[.int .i64 (qa9 s no), .bool (qa4 s no)]) /\ Keeps w w' := by
 obtain ⟨⟨ta, tn, tcap⟩, vl, vg, vf, vr⟩ := v
 have hm : tn <= 2000000 := by have h1 := h.size; have h2 : s.tasks.length = tn := h.lay.tl; unfold qah at h1; omega
 have Hn : Hid (s.tasks.length = tn) := h.lay.tl
 have kW : Keeps w (w.alloc (.cells (syc s ⟨⟨ta, tn, tcap⟩, vl, vg, vf, vr⟩) 37)) := (Keeps.refl w).alloc _
 have hb : ∀ w', Keeps (w.alloc (.cells (syc s ⟨⟨ta, tn, tcap⟩, vl, vg, vf, vr⟩) 37)) w' -> ∀ j, w'.cell? ⟨w.heap.size, j, none⟩ = (syc s ⟨⟨ta, tn, tcap⟩, vl, vg, vf, vr⟩)[j]? := fun w' k => ((Blk.new w (syc s ⟨⟨ta, tn, tcap⟩, vl, vg, vf, vr⟩) 37).keeps k).cells
 have hS : Hid (SysOn (w.alloc (.cells (syc s ⟨⟨ta, tn, tcap⟩, vl, vg, vf, vr⟩) 37)) ⟨⟨ta, tn, tcap⟩, vl, vg, vf, vr⟩ s) := h.keeps kW
 have hs1 : Hid (Ts (w.alloc (.cells (syc s ⟨⟨ta, tn, tcap⟩, vl, vg, vf, vr⟩) 37)) ta s.tasks) := hS.out.lay.t
 clear h
 have c1 : ∀ w', Keeps (w.alloc (.cells (syc s ⟨⟨ta, tn, tcap⟩, vl, vg, vf, vr⟩) 37)) w' -> Calls Tryz.prog 36 #[.slice ta tn tcap, .int .i64 no] w' fun e w'' => e = .returned (.int .i64 (qav s.tasks no)) /\ Keeps w' w'' := fun w' k => by
  have := qhf ta tcap s.tasks no w' (by rw [Hn.out]; unfold maxLen; omega) (hs1.out.keeps k)
  rw [Hn.out] at this
  exact this
 have c2 : ∀ w', Keeps (w.alloc (.cells (syc s ⟨⟨ta, tn, tcap⟩, vl, vg, vf, vr⟩) 37)) w' -> Calls Tryz.prog 29 #[.agg (syc s ⟨⟨ta, tn, tcap⟩, vl, vg, vf, vr⟩)] w' fun e w'' => e = .returned (.bool (sysB s)) /\ Keeps w' w'' := fun w' k => qd6 (hS.out.keeps k)
 go_enter Tryz.func8, Tryz.ntmps8
 go_wp2_with fail
 generalize w.alloc (.cells (syc s ⟨⟨ta, tn, tcap⟩, vl, vg, vf, vr⟩) 37) = W at *
 refine (c1 W (Keeps.refl _)).mono ?_
 rintro e w1 ⟨rfl, k1⟩
 clear c1
 go_wp2_with fail
 refine (c2 w1 k1).mono ?_
 rintro e w2 ⟨rfl, k2⟩
 have K2 : Keeps W w2 := k1.trans k2
 clear c2 k1 k2
 cases hsb : sysB s
 ·have H1 : Hid (qa4 s no = false /\ qa9 s no = 0) := qff hsb
  go_wp2
  go_ret2
  exact ⟨by rw [H1.out.1, H1.out.2]; rfl, kW.trans K2⟩
 cases hf : s.tasks.findIdx? (fun t => t.no == no) with
 | none =>
  have H1 : Hid (qa4 s no = false /\ qa9 s no = 0) := qfe hf
  rw [qgR hf]
  clear hf
  go_wp2
  go_ret2
  exact ⟨by rw [H1.out.1, H1.out.2]; rfl, kW.trans K2⟩
 | some i =>
  obtain ⟨t, ht, -⟩ := qfh hf
  have H1 := qfg hf ht hsb
  have hi : i < tn := by have := qat ht; have := Hn.out; omega
  rw [qfj hf]
  obtain ⟨b, off, rfl, r0, r1⟩ := (hs1.out.keeps K2).at ht (by omega)
  have HR : SysR s := qb9.1 hsb
  have hi' : decide ((i : Int) < 0) = false := by simp
  have hib : (i : Int) < (tn : Int) := by omega
  cases hc : (t.cls == 1)
  ·have H2 : Hid (qa4 s no = false /\ qa9 s no = 0) := ⟨by rw [H1.1, hc], H1.2.2 hc⟩
   have hc' : (t.cls != 1) = true := by simp [bne, hc]
   have hb2 := fun w' (k : Keeps w2 w') => hb w' (K2.trans k)
   clear H1 ht hf HR hS hs1 hb
   go_wp2
   go_ret2
   exact ⟨by rw [H2.out.1, H2.out.2]; rfl, kW.trans K2⟩
  ·obtain ⟨⟨l0, l1⟩, d0, d1⟩ := qfi (qdI HR.tasks ht) hc
   obtain ⟨n0, n1⟩ := HR.now
   have H2 : Hid (qa4 s no = true /\ qa9 s no = t.left - (t.due - s.now)) := ⟨by rw [H1.1, hc], H1.2.1 hc⟩
   have hc' : (t.cls != 1) = false := by simp [bne, hc]
   have hb2 := fun w' (k : Keeps w2 w') => hb w' (K2.trans k)
   clear H1 ht hf HR hS hs1 hb hc
   go_wp2
   go_ret2
   exact ⟨by rw [H2.out.1, H2.out.2]; rfl, (kW.trans K2).alloc _⟩
set_option maxRecDepth 100000 in
set_option maxHeartbeats 4000000 in
theorem qkt {w : World} {v : Sv} {s : Sy} (h : SysOn w v s) (cpu : Int) :
  Calls Tryz.prog 12 #[.agg (syc s v), .int .i64 cpu] w fun e w' => e = .returned (.int .i64 (qbV s cpu)) /\ Keeps w w' := by
 have kW : Keeps w (w.alloc (.cells (syc s v) 37)) := (Keeps.refl w).alloc _
 have hb : ∀ w', Keeps (w.alloc (.cells (syc s v) 37)) w' -> ∀ j, w'.cell? ⟨w.heap.size, j, none⟩ = (syc s v)[j]? := fun w' k => ((Blk.new w (syc s v) 37).keeps k).cells
 have hS : Hid (SysOn (w.alloc (.cells (syc s v) 37)) v s) := h.keeps kW
 have Hsz : Hid ((qaZ s cpu).length <= 2000000) := by
  have h1 := h.size
  have h2 : (qaZ s cpu).length <= s.tasks.length := List.length_filter_le _ _
  show _ <= _
  unfold qah at h1
  omega
 clear h
 go_enter Tryz.func12, Tryz.ntmps12
 go_wp2_with fail
 generalize w.alloc (.cells (syc s v) 37) = W at *
 refine (qd6 hS.out).mono ?_
 rintro e w1 ⟨rfl, k1⟩
 cases hsb : sysB s
 ·have H1 : Hid (qbV s cpu = 0) := by show _ = _; unfold qbV; rw [hsb]; rfl
  go_wp2
  go_ret
  exact ⟨by rw [H1.out]; rfl, kW.trans k1⟩
 have H1 : Hid (qbV s cpu = qbw (qaZ s cpu)) := by show _ = _; unfold qbV; rw [hsb]; rfl
 go_wp2_with fail
 refine (qg7 (hS.out.keeps k1) cpu).mono ?_
 rintro e w2 ⟨u, rfl, o2, k2⟩
 obtain ⟨ua, uc, rfl⟩ := o2.form qar
 have R2 : Hid (Ts w2 ua (qaZ s cpu)) := (Own.row (x := ⟨ua, _, uc⟩) o2 qar).2.1
 obtain ⟨m, Hm⟩ : ∃ m, Hid ((qaZ s cpu).length = m) := ⟨_, rfl⟩
 have c3 := qiT ua uc (qaZ s cpu) w2 (by have := Hsz.out; unfold maxLen; omega) R2.out
 rw [Hm.out] at c3 ⊢
 clear o2
 go_wp2_with (go_at_call 50; refine c3.mono ?_; rintro e w3 ⟨rfl, k3⟩)
 go_ret
 exact ⟨by rw [H1.out]; rfl, ((kW.trans k1).trans k2).trans k3⟩
theorem qku (w : World) (o : Obj) (C : Array Value) (t : TypeId) : Blk ((w.alloc o).alloc (.cells C t)) (w.heap.size + 1) C := by
 have := Blk.new (w.alloc o) C t
 simpa using this
set_option maxRecDepth 100000 in
set_option maxHeartbeats 4000000 in
theorem qkv {w : World} {v : Sv} {s : Sy} (h : SysOn w v s) (xb : Nat) (B : Blk w xb (syc s v)) (cpu : Int) :
  Calls Tryz.prog 53 #[.pointer (some ⟨xb, 0, none⟩), .int .i64 cpu] w fun e w' => ∃ u, e = .returned u /\ Own 47 14 tc w' w.heap.size u (qaZ s cpu) /\ Keeps w w' := by
 obtain ⟨⟨ta, tn, tcap⟩, vl, vg, vf, vr⟩ := v
 have hm : tn <= 2000000 := by have h1 := h.size; have h2 : s.tasks.length = tn := h.lay.tl; unfold qah at h1; omega
 have Hn : Hid (s.tasks.length = tn) := h.lay.tl
 have hb : ∀ w', Keeps w w' -> ∀ j, w'.cell? ⟨xb, j, none⟩ = (syc s ⟨⟨ta, tn, tcap⟩, vl, vg, vf, vr⟩)[j]? := fun w' k => (B.keeps k).cells
 have hs1 : Hid (Ts w ta s.tasks) := h.lay.t
 clear h B
 have HE : Hid (qaZ s cpu = s.tasks.filter (qaY cpu)) := rfl
 go_enter Tryz.func53, Tryz.ntmps53
 go_wp2
 clear hb
 go_loopw [5, 13] (fun o i wr => ∃ (k : Nat) (xs : List Tsk), k <= tn /\ i = .int .i64 k /\ xs.length <= k /\ Hid (xs = (s.tasks.take k).filter (qaY cpu)) /\ Hid (Own 47 14 tc wr w.heap.size o xs) /\ Keeps w wr) (fun _ i _ => tn - (intOf i).toNat)
 case atStart => exact ⟨0, [], Nat.zero_le _, rfl, by simp, by show _ = _; simp, World.ownsRow_nil _ _ _ _, Keeps.refl _⟩
 case round =>
  obtain ⟨k, xs, hk, rfl, hxl, HX, O, hK⟩ := hrel
  by_cases hlt : k < tn
  ·obtain ⟨t, ht⟩ := qak (xs := s.tasks) (k := k) (by rw [Hn.out]; exact hlt)
   obtain ⟨b, off, rfl, r0, r1⟩ := hs1.out.at ht (by omega)
   have hlt' : (k : Int) < (tn : Int) := by omega
   have Hstep := qez (qaY cpu) ht
   rw [<- HX.out] at Hstep
   have HS : Hid ((s.tasks.take (k + 1)).filter (qaY cpu) = xs ++ (if qaY cpu t then [t] else [])) := Hstep
   clear ht Hstep
   cases c1 : (t.cpu == cpu)
   ·have Hx : Hid (xs = (s.tasks.take (k + 1)).filter (qaY cpu)) := by show _ = _; rw [HS.out]; simp [qaY, c1]
    go_wp2
    exact ⟨⟨k + 1, xs, by omega, by go_num, by omega, Hx, O.out.keeps ((Keeps.refl _).alloc _), hK.alloc _⟩, by simp only [intOf]; omega⟩
   cases c2 : t.idle
   rotate_left
   ·have Hx : Hid (xs = (s.tasks.take (k + 1)).filter (qaY cpu)) := by show _ = _; rw [HS.out]; simp [qaY, c1, c2]
    go_wp2
    exact ⟨⟨k + 1, xs, by omega, by go_num, by omega, Hx, O.out.keeps ((Keeps.refl _).alloc _), hK.alloc _⟩, by simp only [intOf]; omega⟩
   have Hx : Hid (xs ++ [t] = (s.tasks.take (k + 1)).filter (qaY cpu)) := by show _ = _; rw [HS.out]; simp [qaY, c1, c2]
   obtain ⟨u, rfl⟩ : ∃ u : Tsk, t = { u with idle := false } := ⟨t, by rw [<- c2]⟩
   clear HS c2
   go_wp2_with (at_builtin; (refine qbk rfl _ _ 32 rfl w 47 (.agg (tc Tsk.zero)) 14 112 tc Tryz.underlying32 (by kernel_rfl) rfl (by decide) qar qbI _ xs rfl wr O.out hK (((Keeps.refl _).alloc _).alloc _) { u with idle := false } (wr.heap.size + 1) 1 (qku _ _ _ _) rfl ?c1 ?c2 ?_))
   case c1 => unfold maxLen; omega
   case c2 => omega
   intro v' w5 own5 k5 _
   have HO : Hid (Own 47 14 tc w5 w.heap.size v' (xs ++ [{ u with idle := false }])) := own5
   clear own5 O
   go_wp2
   exact ⟨⟨k + 1, xs ++ [{ u with idle := false }], by omega, by go_num, by simp; omega, Hx, HO, k5⟩, by simp only [intOf]; omega⟩
  ·have hlt' : decide ((k : Int) < (tn : Int)) = false := by simp; omega
   have HP : Hid (qaZ s cpu = xs) := by
    have h1 := HX.out
    rw [List.take_of_length_le (by have := Hn.out; omega)] at h1
    show _ = _
    rw [HE.out, h1]
   clear HX
   go_wp2
   go_ret
   exact ⟨_, rfl, by rw [HP.out]; exact O.out, hK⟩
def qfk : Prop := ∀ (w : World) (v : Sv) (s : Sy) (no : Int), GlobE w -> SysOn w v s -> Calls Tryz.prog 10 #[.agg (syc s v), .int .i64 no] w fun e w' => e = .returned (.tuple #[.int .i64 (qa9 s no), .bool (qa4 s no)]) /\ Keeps w w'
def qfl : Prop := ∀ (w : World) (v : Sv) (s : Sy) (cpu : Int), GlobE w -> SysOn w v s -> Calls Tryz.prog 13 #[.agg (syc s v), .int .i64 cpu] w fun e w' => e = .returned (.int .i64 (qbV s cpu)) /\ Keeps w w'
set_option maxRecDepth 100000 in
set_option maxHeartbeats 4000000 in
theorem qkw : qfk := by
 intro w v s no hg h
 obtain ⟨⟨ta, tn, tcap⟩, vl, vg, vf, vr⟩ := v
 have hm : tn <= 2000000 := by have h1 := h.size; have h2 : s.tasks.length = tn := h.lay.tl; unfold qah at h1; omega
 have Hn : Hid (s.tasks.length = tn) := h.lay.tl
 have kW : Keeps w (w.alloc (.cells (syc s ⟨⟨ta, tn, tcap⟩, vl, vg, vf, vr⟩) 37)) := (Keeps.refl w).alloc _
 have hb : ∀ w', Keeps (w.alloc (.cells (syc s ⟨⟨ta, tn, tcap⟩, vl, vg, vf, vr⟩) 37)) w' -> ∀ j, w'.cell? ⟨w.heap.size, j, none⟩ = (syc s ⟨⟨ta, tn, tcap⟩, vl, vg, vf, vr⟩)[j]? := fun w' k => ((Blk.new w (syc s ⟨⟨ta, tn, tcap⟩, vl, vg, vf, vr⟩) 37).keeps k).cells
 have hS : Hid (SysOn (w.alloc (.cells (syc s ⟨⟨ta, tn, tcap⟩, vl, vg, vf, vr⟩) 37)) ⟨⟨ta, tn, tcap⟩, vl, vg, vf, vr⟩ s) := h.keeps kW
 have hs1 : Hid (Ts (w.alloc (.cells (syc s ⟨⟨ta, tn, tcap⟩, vl, vg, vf, vr⟩) 37)) ta s.tasks) := hS.out.lay.t
 have HG : Hid (GlobE (w.alloc (.cells (syc s ⟨⟨ta, tn, tcap⟩, vl, vg, vf, vr⟩) 37))) := hg.keeps kW
 clear h hg
 have c1 : ∀ w', Keeps (w.alloc (.cells (syc s ⟨⟨ta, tn, tcap⟩, vl, vg, vf, vr⟩) 37)) w' -> Calls Tryz.prog 17 #[.slice ta tn tcap, .int .i64 no] w' fun e w'' => e = .returned (.int .i64 (qav s.tasks no)) /\ Keeps w' w'' := fun w' k => by
  have := qeW ta tcap s.tasks no w' (by rw [Hn.out]; unfold maxLen; omega) (hs1.out.keeps k)
  rw [Hn.out] at this
  exact this
 have c2 : ∀ w', Keeps (w.alloc (.cells (syc s ⟨⟨ta, tn, tcap⟩, vl, vg, vf, vr⟩) 37)) w' -> Calls Tryz.prog 42 #[.agg (syc s ⟨⟨ta, tn, tcap⟩, vl, vg, vf, vr⟩)] w' fun e w'' => e = .returned (.bool (sysB s)) /\ Keeps w' w'' := fun w' k => qhr w' _ s (HG.out.keeps k) (hS.out.keeps k)
 go_enter Tryz.func10, Tryz.ntmps10
 go_wp2_with fail
 generalize w.alloc (.cells (syc s ⟨⟨ta, tn, tcap⟩, vl, vg, vf, vr⟩) 37) = W at *
 refine (c1 W (Keeps.refl _)).mono ?_
 rintro e w1 ⟨rfl, k1⟩
 clear c1
 cases hf : s.tasks.findIdx? (fun t => t.no == no) with
 | none =>
  have H1 : Hid (qa4 s no = false /\ qa9 s no = 0) := qfe hf
  rw [qgR hf]
  clear hf c2
  go_wp2
  go_ret2
  exact ⟨by rw [H1.out.1, H1.out.2]; rfl, kW.trans k1⟩
 | some i =>
  obtain ⟨t, ht, -⟩ := qfh hf
  have hi : i < tn := by have := qat ht; have := Hn.out; omega
  rw [qfj hf]
  have hi' : decide ((i : Int) < 0) = false := by simp
  go_wp2_with fail
  refine (c2 w1 k1).mono ?_
  rintro e w2 ⟨rfl, k2⟩
  have K2 : Keeps W w2 := k1.trans k2
  clear c2 k1 k2
  cases hsb : sysB s
  ·have H1 : Hid (qa4 s no = false /\ qa9 s no = 0) := qff hsb
   clear hf ht
   go_wp2
   go_ret2
   exact ⟨by rw [H1.out.1, H1.out.2]; rfl, kW.trans K2⟩
  have H1 := qfg hf ht hsb
  obtain ⟨b, off, rfl, r0, r1⟩ := (hs1.out.keeps K2).at ht (by omega)
  have HR : SysR s := qb9.1 hsb
  have hib : (i : Int) < (tn : Int) := by omega
  have hdb : dueB t = (t.cls == 1) := by unfold dueB; rw [qdI HR.tasks ht, Bool.true_and]
  have hb2 := fun w' (k : Keeps w2 w') => hb w' (K2.trans k)
  cases hc : (t.cls == 1)
  ·have H2 : Hid (qa4 s no = false /\ qa9 s no = 0) := ⟨by rw [H1.1, hc], H1.2.2 hc⟩
   rw [hc] at hdb
   clear H1 ht hf HR hS hs1 hb
   go_wp2_with (go_at_call 43; refine (qf2 t _).mono ?_; rintro e w3 ⟨rfl, k3⟩; rw [hdb])
   go_ret2
   exact ⟨by rw [H2.out.1, H2.out.2]; rfl, (kW.trans K2).trans k3⟩
  ·obtain ⟨⟨l0, l1⟩, d0, d1⟩ := qfi (qdI HR.tasks ht) hc
   obtain ⟨n0, n1⟩ := HR.now
   have H2 : Hid (qa4 s no = true /\ qa9 s no = t.left - (t.due - s.now)) := ⟨by rw [H1.1, hc], H1.2.1 hc⟩
   rw [hc] at hdb
   clear H1 ht hf HR hS hs1 hb hc
   go_wp2_with (first
    | (go_at_call 43; refine (qf2 t _).mono ?_; rintro e w3 ⟨rfl, k3⟩; rw [hdb])
    | (go_at_call 44; refine (qeU t _).mono ?_; rintro e w4 ⟨rfl, k4⟩; have K4 : Keeps w2 w4 := k3.trans k4; have hb4 := fun w' (k : Keeps w4 w') => hb2 w' (K4.trans k); clear hb2 r0 r1))
   go_ret2
   exact ⟨by rw [H2.out.1, H2.out.2]; rfl, (((kW.trans K2).trans K4).alloc _)⟩
set_option maxRecDepth 100000 in
set_option maxHeartbeats 4000000 in
theorem qkx : qfl := by
 intro w v s cpu hg h
 have kW : Keeps w (w.alloc (.cells (syc s v) 37)) := (Keeps.refl w).alloc _
 have hb : ∀ w', Keeps (w.alloc (.cells (syc s v) 37)) w' -> ∀ j, w'.cell? ⟨w.heap.size, j, none⟩ = (syc s v)[j]? := fun w' k => ((Blk.new w (syc s v) 37).keeps k).cells
 have hS : Hid (SysOn (w.alloc (.cells (syc s v) 37)) v s) := h.keeps kW
 have HG : Hid (GlobE (w.alloc (.cells (syc s v) 37))) := hg.keeps kW
 have HB : Hid (Blk (w.alloc (.cells (syc s v) 37)) w.heap.size (syc s v)) := Blk.new _ _ _
 clear h hg
 go_enter Tryz.func13, Tryz.ntmps13
 go_wp2_with fail
 generalize w.alloc (.cells (syc s v) 37) = W at *
 refine (qhr W v s HG.out hS.out).mono ?_
 rintro e w1 ⟨rfl, k1⟩
 cases hsb : sysB s
 ·have H1 : Hid (qbV s cpu = 0) := by show _ = _; unfold qbV; rw [hsb]; rfl
  go_wp2
  go_ret
  exact ⟨by rw [H1.out]; rfl, kW.trans k1⟩
 have H1 : Hid (qbV s cpu = qbw (qaZ s cpu)) := by show _ = _; unfold qbV; rw [hsb]; rfl
 have hfew : (qaZ s cpu).length <= 12 := Nat.le_trans (List.length_filter_le _ _) (qb9.1 hsb).few.1
 go_wp2_with fail
 refine (qkv (hS.out.keeps k1) w.heap.size (HB.out.keeps k1) cpu).mono ?_
 rintro e w2 ⟨u, rfl, o2, k2⟩
 obtain ⟨ua, uc, rfl⟩ := o2.form qar
 have R2 : Hid (Ts w2 ua (qaZ s cpu)) := (Own.row (x := ⟨ua, _, uc⟩) o2 qar).2.1
 obtain ⟨m, Hm⟩ : ∃ m, Hid ((qaZ s cpu).length = m) := ⟨_, rfl⟩
 have c3 := qjg ua uc (qaZ s cpu) w2 (by omega) R2.out
 rw [Hm.out] at c3 ⊢
 clear o2 hfew
 go_wp2_with (go_at_call 52; refine c3.mono ?_; rintro e w3 ⟨rfl, k3⟩)
 go_ret
 exact ⟨by rw [H1.out]; rfl, ((kW.trans k1).trans k2).trans k3⟩
end Go.Proofs.YthpdlbcdbncnhaaGreatDoor
