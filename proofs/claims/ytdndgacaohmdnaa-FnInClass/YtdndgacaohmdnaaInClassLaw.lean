/-
  The law FnInClass: its walk, over contracts of the program's functions.
-/
import Derived.Test.YtdndgacaohmdnaaDueBefLaw
import Derived.Test.YtdndgacaohmdnaaFixLaws
import Derived.Test.YtdndgacaohmdnaaFairLaws
import Derived.Test.YtdndgacaohmdnaaDrawBef
import Derived.Test.YtdndgacaohmdnaaTaskLaws
import Derived.Deep.DeepCutAuto
import Derived.Deep.RegionHeld3
namespace Go.Proofs.Ytdndgacaohmdnaa
open Go.RowKit
attribute [local go_sem] Keeps.refl Keeps.alloc Keeps.drew Keeps.drewN

theorem due_bef {a b : Tsk} (h : dueBefB a b = true) : decide (b.due < a.due) = false ∧ dueBefB b a = false ∧ taskB a = true ∧ (a.cls == 1) = true := by
  simp only [dueBefB, dueB, Bool.and_eq_true, Bool.or_eq_true, decide_eq_true_eq, beq_iff_eq] at h
  obtain ⟨⟨⟨h1, h2⟩, h3, h4⟩, h5⟩ := h
  refine ⟨by simp; omega, ?_, h1, by simp [h2]⟩
  have e1 : decide (b.due < a.due) = false := by simp; omega
  have e2 : (b.due == a.due && decide (b.no < a.no)) = false := by
    rw [Bool.eq_false_iff]; intro e
    simp only [Bool.and_eq_true, decide_eq_true_eq, beq_iff_eq] at e
    omega
  simp only [dueBefB, e1, e2, Bool.or_false, Bool.and_false]
theorem fair_bef {a b : Tsk} (h : fairBefB a b = true) : decide (b.v < a.v) = false ∧ fairBefB b a = false ∧ taskB a = true ∧ (a.cls == 3) = true := by
  simp only [fairBefB, fairB, Bool.and_eq_true, Bool.or_eq_true, decide_eq_true_eq, beq_iff_eq] at h
  obtain ⟨⟨⟨h1, h2⟩, h3, h4⟩, h5⟩ := h
  refine ⟨by simp; omega, ?_, h1, by simp [h2]⟩
  have e1 : decide (b.v < a.v) = false := by simp; omega
  have e2 : (b.v == a.v && decide (b.no < a.no)) = false := by
    rw [Bool.eq_false_iff]; intro e
    simp only [Bool.and_eq_true, decide_eq_true_eq, beq_iff_eq] at e
    omega
  simp only [fairBefB, e1, e2, Bool.or_false, Bool.and_false]
theorem fix_bef {a b : Tsk} (h : fixBefB a b = true) : decide (a.prio < b.prio) = false ∧ fixBefB b a = false ∧ taskB a = true ∧ (a.cls == 2) = true := by
  simp only [fixBefB, fixB, Bool.and_eq_true, beq_iff_eq] at h
  obtain ⟨⟨⟨h1, h2⟩, h3, h4⟩, h5⟩ := h
  have hf : (if b.prio != a.prio then decide (a.prio < b.prio) else if b.seq != a.seq then decide (b.seq < a.seq) else decide (b.no < a.no)) = false ∧ ¬ a.prio < b.prio := by
    by_cases c1 : a.prio = b.prio
    · by_cases c2 : a.seq = b.seq
      · simp [c1, c2] at h5 ⊢; omega
      · have c3 : ¬ b.seq = a.seq := fun e => c2 e.symm
        simp [c1, c2, c3] at h5 ⊢; omega
    · have c3 : ¬ b.prio = a.prio := fun e => c1 e.symm
      simp [c1, c3] at h5 ⊢; omega
  refine ⟨by simpa using hf.2, ?_, h1, by simp [h2]⟩
  simp only [fixBefB, hf.1, Bool.and_false]

set_option maxRecDepth 100000 in
set_option maxHeartbeats 8000000 in
theorem inClass_walk (HT : SaysTaskOk) (HD : SaysDueBefore) (HF : SaysFixedBefore) (HA : SaysFairBefore) (a : Option Addr) (n cap : Nat) (w : World) (hm : n ≤ maxLen) (hb : ∀ g, w.heap.size ≤ g → Bytes g w a n) :
    Calls Try.prog 3 #[.slice a n cap] w fun e w' => e = .returned (.bool true) ∧ Keeps w w' := by
  have hT : Hid SaysTaskOk := HT
  have hD : Hid SaysDueBefore := HD
  have hF : Hid SaysFixedBefore := HF
  have hA : Hid SaysFairBefore := HA
  clear HT HD HF HA
  by_cases hn : n ≤ 1048576
  case neg =>
    have hd : decide (1048576 < (n : Int)) = true := by simp; omega
    go_enter Try.func3, Try.ntmps3
    go_wp2_with (go_at_call 13; refine (big_any _ _ _ _ hm).mono ?_; rintro e w1 ⟨rfl, rfl⟩)
    go_ret
    exact ⟨rfl, Keeps.refl _⟩
  have hd : decide (1048576 < (n : Int)) = false := by simp; omega
  go_enter Try.func3, Try.ntmps3
  go_wp2_with fail
  refine (big_any _ _ _ _ hm).mono ?_
  rintro e w0 ⟨rfl, rfl⟩
  rw [hd]
  go_wp2_with fail
  refine (drawDueBefore_any _ _ _ _ hn hb).mono ?_
  rintro e w1 ⟨a1, b1, rfl, k1⟩
  clear hd
  obtain ⟨X, HX⟩ : ∃ X, Hid (dueBefB a1 b1 = X) := ⟨_, rfl⟩
  go_wp2_with fail
  have KA := k1.alloc (.cells (tc a1) 25) |>.alloc (.cells (tc b1) 25)
  have ra1 : ∀ w', Keeps ((w1.alloc (.cells (tc a1) 25)).alloc (.cells (tc b1) 25)) w' → ∀ k, w'.cell? ⟨w1.heap.size, k, none⟩ = (tc a1)[k]? := fun w' h => (((Blk.new w1 (tc a1) 25).alloc _).keeps h).cells
  have rb1 : ∀ w', Keeps ((w1.alloc (.cells (tc a1) 25)).alloc (.cells (tc b1) 25)) w' → ∀ k, w'.cell? ⟨w1.heap.size + 1, k, none⟩ = (tc b1)[k]? := fun w' h => by
    have := (Blk.new (w1.alloc (.cells (tc a1) 25)) (tc b1) 25).keeps h
    simp only [World.size_alloc] at this
    exact this.cells
  clear k1
  generalize (w1.alloc (.cells (tc a1) 25)).alloc (.cells (tc b1) 25) = WA at *
  generalize w1.heap.size = s1 at *
  refine (drawFixedBefore_any _ _ _ _ hn (fun g hg => (hb g (by have := KA.size; omega)).but (.of KA))).mono ?_
  rintro e w2 ⟨c1, d1, rfl, k2⟩
  obtain ⟨Y, HY⟩ : ∃ Y, Hid (fixBefB c1 d1 = Y) := ⟨_, rfl⟩
  go_wp2_with fail
  have KB := (KA.trans k2).alloc (.cells (tc c1) 25) |>.alloc (.cells (tc d1) 25)
  have rc1 : ∀ w', Keeps ((w2.alloc (.cells (tc c1) 25)).alloc (.cells (tc d1) 25)) w' → ∀ k, w'.cell? ⟨w2.heap.size, k, none⟩ = (tc c1)[k]? := fun w' h => (((Blk.new w2 (tc c1) 25).alloc _).keeps h).cells
  have rd1 : ∀ w', Keeps ((w2.alloc (.cells (tc c1) 25)).alloc (.cells (tc d1) 25)) w' → ∀ k, w'.cell? ⟨w2.heap.size + 1, k, none⟩ = (tc d1)[k]? := fun w' h => by
    have := (Blk.new (w2.alloc (.cells (tc c1) 25)) (tc d1) 25).keeps h
    simp only [World.size_alloc] at this
    exact this.cells
  have ra1' : ∀ w', Keeps ((w2.alloc (.cells (tc c1) 25)).alloc (.cells (tc d1) 25)) w' → ∀ k, w'.cell? ⟨s1, k, none⟩ = (tc a1)[k]? := fun w' h => ra1 w' (((k2.alloc _).alloc _).trans h)
  have rb1' : ∀ w', Keeps ((w2.alloc (.cells (tc c1) 25)).alloc (.cells (tc d1) 25)) w' → ∀ k, w'.cell? ⟨s1 + 1, k, none⟩ = (tc b1)[k]? := fun w' h => rb1 w' (((k2.alloc _).alloc _).trans h)
  clear k2 ra1 rb1 KA
  generalize (w2.alloc (.cells (tc c1) 25)).alloc (.cells (tc d1) 25) = WB at *
  generalize w2.heap.size = s2 at *
  refine (drawFairBefore_any _ _ _ _ hn (fun g hg => (hb g (by have := KB.size; omega)).but (.of KB))).mono ?_
  rintro e w3 ⟨e1, f1, rfl, k3⟩
  clear hb
  obtain ⟨Z, HZ⟩ : ∃ Z, Hid (fairBefB e1 f1 = Z) := ⟨_, rfl⟩
  go_wp2_with fail
  have KX := (KB.trans k3).alloc (.cells (tc e1) 25) |>.alloc (.cells (tc f1) 25)
  have re1 : ∀ w', Keeps ((w3.alloc (.cells (tc e1) 25)).alloc (.cells (tc f1) 25)) w' → ∀ k, w'.cell? ⟨w3.heap.size, k, none⟩ = (tc e1)[k]? := fun w' h => (((Blk.new w3 (tc e1) 25).alloc _).keeps h).cells
  have rf1 : ∀ w', Keeps ((w3.alloc (.cells (tc e1) 25)).alloc (.cells (tc f1) 25)) w' → ∀ k, w'.cell? ⟨w3.heap.size + 1, k, none⟩ = (tc f1)[k]? := fun w' h => by
    have := (Blk.new (w3.alloc (.cells (tc e1) 25)) (tc f1) 25).keeps h
    simp only [World.size_alloc] at this
    exact this.cells
  have rc1' : ∀ w', Keeps ((w3.alloc (.cells (tc e1) 25)).alloc (.cells (tc f1) 25)) w' → ∀ k, w'.cell? ⟨s2, k, none⟩ = (tc c1)[k]? := fun w' h => rc1 w' (((k3.alloc _).alloc _).trans h)
  have rd1' : ∀ w', Keeps ((w3.alloc (.cells (tc e1) 25)).alloc (.cells (tc f1) 25)) w' → ∀ k, w'.cell? ⟨s2 + 1, k, none⟩ = (tc d1)[k]? := fun w' h => rd1 w' (((k3.alloc _).alloc _).trans h)
  have ra1'' : ∀ w', Keeps ((w3.alloc (.cells (tc e1) 25)).alloc (.cells (tc f1) 25)) w' → ∀ k, w'.cell? ⟨s1, k, none⟩ = (tc a1)[k]? := fun w' h => ra1' w' (((k3.alloc _).alloc _).trans h)
  have rb1'' : ∀ w', Keeps ((w3.alloc (.cells (tc e1) 25)).alloc (.cells (tc f1) 25)) w' → ∀ k, w'.cell? ⟨s1 + 1, k, none⟩ = (tc b1)[k]? := fun w' h => rb1' w' (((k3.alloc _).alloc _).trans h)
  clear k3 ra1' rb1' rc1 rd1 KB
  generalize (w3.alloc (.cells (tc e1) 25)).alloc (.cells (tc f1) 25) = WC at *
  generalize w3.heap.size = s3 at *
  have K0 := Keeps.refl WC
  go_region_held3 (fun w' => Keeps WC w') (first | exact Keeps.drew (by assumption) | exact Keeps.trans (by assumption) (by assumption))
    (first
    | (go_at_call 17; refine (hD.out a1 b1 _).mono ?_; rintro e w4 ⟨rfl, k4⟩; rw [HX.out])
    | (go_at_call 18; refine (hF.out c1 d1 _).mono ?_; rintro e w5 ⟨rfl, k5⟩; rw [HY.out])
    | (go_at_call 19; refine (hA.out e1 f1 _).mono ?_; rintro e w6 ⟨rfl, k6⟩; rw [HZ.out]))
  have nXX : (X != X) = false := by simp
  have nYY : (Y != Y) = false := by simp
  have nZZ : (Z != Z) = false := by simp
  go_upto_region 9 with (first
    | (go_at_call 20; refine (specDueBefore_any a1 b1 _).mono ?_; rintro e w7 ⟨rfl, k7⟩; have kk7 : Keeps WC w7 := Keeps.trans (by assumption) k7; rw [HX.out])
    | (go_at_call 21; refine (specFixedBefore_any c1 d1 _).mono ?_; rintro e w8 ⟨rfl, k8⟩; have kk8 : Keeps WC w8 := Keeps.trans (by assumption) k8; rw [HY.out])
    | (go_at_call 22; refine (specFairBefore_any e1 f1 _).mono ?_; rintro e w9 ⟨rfl, k9⟩; have kk9 : Keeps WC w9 := Keeps.trans (by assumption) k9; rw [HZ.out]))
  clear nXX nYY nZZ K0
  go_cut [9, 10, 11, 99] (fun x y z c wx => x = .bool X ∧ y = .bool Y ∧ z = .bool Z ∧ c = .bool false ∧ Keeps WC wx)
  case first =>
    cases X
    · as_aux_lemma =>
        cases Y
        · skip
          cases Z
          · skip
            go_wp2_with (first
              | (go_at_call 17; refine (hD.out b1 a1 _).mono ?_; rintro e w10 ⟨rfl, k10⟩; have kk10 : Keeps WC w10 := Keeps.trans (by assumption) k10; rw [Hx2.out])
              | (go_at_call 18; refine (hF.out d1 c1 _).mono ?_; rintro e w11 ⟨rfl, k11⟩; have kk11 : Keeps WC w11 := Keeps.trans (by assumption) k11; rw [Hy2.out])
              | (go_at_call 19; refine (hA.out f1 e1 _).mono ?_; rintro e w12 ⟨rfl, k12⟩; have kk12 : Keeps WC w12 := Keeps.trans (by assumption) k12; rw [Hz2.out]))
            go_meet
            exact ⟨rfl, rfl, rfl, rfl, by assumption⟩
          · skip
            obtain ⟨dz1, dz2, dz3, dz4⟩ := fair_bef HZ.out
            have Hz2 : Hid (fairBefB f1 e1 = false) := dz2
            have Hz3 : Hid (taskB e1 = true) := dz3
            clear dz2 dz3
            go_wp2_with (first
              | (go_at_call 17; refine (hD.out b1 a1 _).mono ?_; rintro e w10 ⟨rfl, k10⟩; have kk10 : Keeps WC w10 := Keeps.trans (by assumption) k10; rw [Hx2.out])
              | (go_at_call 18; refine (hF.out d1 c1 _).mono ?_; rintro e w11 ⟨rfl, k11⟩; have kk11 : Keeps WC w11 := Keeps.trans (by assumption) k11; rw [Hy2.out])
              | (go_at_call 19; refine (hA.out f1 e1 _).mono ?_; rintro e w12 ⟨rfl, k12⟩; have kk12 : Keeps WC w12 := Keeps.trans (by assumption) k12; rw [Hz2.out]))
            go_meet
            exact ⟨rfl, rfl, rfl, rfl, by assumption⟩
        · skip
          obtain ⟨dy1, dy2, dy3, dy4⟩ := fix_bef HY.out
          have Hy2 : Hid (fixBefB d1 c1 = false) := dy2
          have Hy3 : Hid (taskB c1 = true) := dy3
          clear dy2 dy3
          cases Z
          · skip
            go_wp2_with (first
              | (go_at_call 17; refine (hD.out b1 a1 _).mono ?_; rintro e w10 ⟨rfl, k10⟩; have kk10 : Keeps WC w10 := Keeps.trans (by assumption) k10; rw [Hx2.out])
              | (go_at_call 18; refine (hF.out d1 c1 _).mono ?_; rintro e w11 ⟨rfl, k11⟩; have kk11 : Keeps WC w11 := Keeps.trans (by assumption) k11; rw [Hy2.out])
              | (go_at_call 19; refine (hA.out f1 e1 _).mono ?_; rintro e w12 ⟨rfl, k12⟩; have kk12 : Keeps WC w12 := Keeps.trans (by assumption) k12; rw [Hz2.out]))
            go_meet
            exact ⟨rfl, rfl, rfl, rfl, by assumption⟩
          · skip
            obtain ⟨dz1, dz2, dz3, dz4⟩ := fair_bef HZ.out
            have Hz2 : Hid (fairBefB f1 e1 = false) := dz2
            have Hz3 : Hid (taskB e1 = true) := dz3
            clear dz2 dz3
            go_wp2_with (first
              | (go_at_call 17; refine (hD.out b1 a1 _).mono ?_; rintro e w10 ⟨rfl, k10⟩; have kk10 : Keeps WC w10 := Keeps.trans (by assumption) k10; rw [Hx2.out])
              | (go_at_call 18; refine (hF.out d1 c1 _).mono ?_; rintro e w11 ⟨rfl, k11⟩; have kk11 : Keeps WC w11 := Keeps.trans (by assumption) k11; rw [Hy2.out])
              | (go_at_call 19; refine (hA.out f1 e1 _).mono ?_; rintro e w12 ⟨rfl, k12⟩; have kk12 : Keeps WC w12 := Keeps.trans (by assumption) k12; rw [Hz2.out]))
            go_meet
            exact ⟨rfl, rfl, rfl, rfl, by assumption⟩
    · as_aux_lemma =>
        obtain ⟨dx1, dx2, dx3, dx4⟩ := due_bef HX.out
        have Hx2 : Hid (dueBefB b1 a1 = false) := dx2
        have Hx3 : Hid (taskB a1 = true) := dx3
        clear dx2 dx3
        cases Y
        · skip
          cases Z
          · skip
            go_wp2_with (first
              | (go_at_call 17; refine (hD.out b1 a1 _).mono ?_; rintro e w10 ⟨rfl, k10⟩; have kk10 : Keeps WC w10 := Keeps.trans (by assumption) k10; rw [Hx2.out])
              | (go_at_call 18; refine (hF.out d1 c1 _).mono ?_; rintro e w11 ⟨rfl, k11⟩; have kk11 : Keeps WC w11 := Keeps.trans (by assumption) k11; rw [Hy2.out])
              | (go_at_call 19; refine (hA.out f1 e1 _).mono ?_; rintro e w12 ⟨rfl, k12⟩; have kk12 : Keeps WC w12 := Keeps.trans (by assumption) k12; rw [Hz2.out]))
            go_meet
            exact ⟨rfl, rfl, rfl, rfl, by assumption⟩
          · skip
            obtain ⟨dz1, dz2, dz3, dz4⟩ := fair_bef HZ.out
            have Hz2 : Hid (fairBefB f1 e1 = false) := dz2
            have Hz3 : Hid (taskB e1 = true) := dz3
            clear dz2 dz3
            go_wp2_with (first
              | (go_at_call 17; refine (hD.out b1 a1 _).mono ?_; rintro e w10 ⟨rfl, k10⟩; have kk10 : Keeps WC w10 := Keeps.trans (by assumption) k10; rw [Hx2.out])
              | (go_at_call 18; refine (hF.out d1 c1 _).mono ?_; rintro e w11 ⟨rfl, k11⟩; have kk11 : Keeps WC w11 := Keeps.trans (by assumption) k11; rw [Hy2.out])
              | (go_at_call 19; refine (hA.out f1 e1 _).mono ?_; rintro e w12 ⟨rfl, k12⟩; have kk12 : Keeps WC w12 := Keeps.trans (by assumption) k12; rw [Hz2.out]))
            go_meet
            exact ⟨rfl, rfl, rfl, rfl, by assumption⟩
        · skip
          obtain ⟨dy1, dy2, dy3, dy4⟩ := fix_bef HY.out
          have Hy2 : Hid (fixBefB d1 c1 = false) := dy2
          have Hy3 : Hid (taskB c1 = true) := dy3
          clear dy2 dy3
          cases Z
          · skip
            go_wp2_with (first
              | (go_at_call 17; refine (hD.out b1 a1 _).mono ?_; rintro e w10 ⟨rfl, k10⟩; have kk10 : Keeps WC w10 := Keeps.trans (by assumption) k10; rw [Hx2.out])
              | (go_at_call 18; refine (hF.out d1 c1 _).mono ?_; rintro e w11 ⟨rfl, k11⟩; have kk11 : Keeps WC w11 := Keeps.trans (by assumption) k11; rw [Hy2.out])
              | (go_at_call 19; refine (hA.out f1 e1 _).mono ?_; rintro e w12 ⟨rfl, k12⟩; have kk12 : Keeps WC w12 := Keeps.trans (by assumption) k12; rw [Hz2.out]))
            go_meet
            exact ⟨rfl, rfl, rfl, rfl, by assumption⟩
          · skip
            obtain ⟨dz1, dz2, dz3, dz4⟩ := fair_bef HZ.out
            have Hz2 : Hid (fairBefB f1 e1 = false) := dz2
            have Hz3 : Hid (taskB e1 = true) := dz3
            clear dz2 dz3
            go_wp2_with (first
              | (go_at_call 17; refine (hD.out b1 a1 _).mono ?_; rintro e w10 ⟨rfl, k10⟩; have kk10 : Keeps WC w10 := Keeps.trans (by assumption) k10; rw [Hx2.out])
              | (go_at_call 18; refine (hF.out d1 c1 _).mono ?_; rintro e w11 ⟨rfl, k11⟩; have kk11 : Keeps WC w11 := Keeps.trans (by assumption) k11; rw [Hy2.out])
              | (go_at_call 19; refine (hA.out f1 e1 _).mono ?_; rintro e w12 ⟨rfl, k12⟩; have kk12 : Keeps WC w12 := Keeps.trans (by assumption) k12; rw [Hz2.out]))
            go_meet
            exact ⟨rfl, rfl, rfl, rfl, by assumption⟩
  case rest =>
  obtain ⟨rfl, rfl, rfl, rfl, K9⟩ := hcut
  clear kk9 kk8 kk7 k7 k8 k9
  generalize wc = W9 at *
  cases X
  · as_aux_lemma =>
      cases Y
      · skip
        cases Z
        · skip
          go_wp2_with (go_at_call 23; refine (hT.out _ _).mono ?_; rintro e w13 ⟨rfl, k13⟩; have kk13 : Keeps WC w13 := Keeps.trans (by assumption) k13; first | rw [Hx3.out] | rw [Hy3.out] | rw [Hz3.out])
          go_ret
          exact ⟨rfl, KX.trans (by assumption)⟩
        · skip
          obtain ⟨dz1, dz2, dz3, dz4⟩ := fair_bef HZ.out
          have Hz2 : Hid (fairBefB f1 e1 = false) := dz2
          have Hz3 : Hid (taskB e1 = true) := dz3
          clear dz2 dz3
          go_wp2_with (go_at_call 23; refine (hT.out _ _).mono ?_; rintro e w13 ⟨rfl, k13⟩; have kk13 : Keeps WC w13 := Keeps.trans (by assumption) k13; first | rw [Hx3.out] | rw [Hy3.out] | rw [Hz3.out])
          go_ret
          exact ⟨rfl, KX.trans (by assumption)⟩
      · skip
        obtain ⟨dy1, dy2, dy3, dy4⟩ := fix_bef HY.out
        have Hy2 : Hid (fixBefB d1 c1 = false) := dy2
        have Hy3 : Hid (taskB c1 = true) := dy3
        clear dy2 dy3
        cases Z
        · skip
          go_wp2_with (go_at_call 23; refine (hT.out _ _).mono ?_; rintro e w13 ⟨rfl, k13⟩; have kk13 : Keeps WC w13 := Keeps.trans (by assumption) k13; first | rw [Hx3.out] | rw [Hy3.out] | rw [Hz3.out])
          go_ret
          exact ⟨rfl, KX.trans (by assumption)⟩
        · skip
          obtain ⟨dz1, dz2, dz3, dz4⟩ := fair_bef HZ.out
          have Hz2 : Hid (fairBefB f1 e1 = false) := dz2
          have Hz3 : Hid (taskB e1 = true) := dz3
          clear dz2 dz3
          go_wp2_with (go_at_call 23; refine (hT.out _ _).mono ?_; rintro e w13 ⟨rfl, k13⟩; have kk13 : Keeps WC w13 := Keeps.trans (by assumption) k13; first | rw [Hx3.out] | rw [Hy3.out] | rw [Hz3.out])
          go_ret
          exact ⟨rfl, KX.trans (by assumption)⟩
  · as_aux_lemma =>
      obtain ⟨dx1, dx2, dx3, dx4⟩ := due_bef HX.out
      have Hx2 : Hid (dueBefB b1 a1 = false) := dx2
      have Hx3 : Hid (taskB a1 = true) := dx3
      clear dx2 dx3
      cases Y
      · skip
        cases Z
        · skip
          go_wp2_with (go_at_call 23; refine (hT.out _ _).mono ?_; rintro e w13 ⟨rfl, k13⟩; have kk13 : Keeps WC w13 := Keeps.trans (by assumption) k13; first | rw [Hx3.out] | rw [Hy3.out] | rw [Hz3.out])
          go_ret
          exact ⟨rfl, KX.trans (by assumption)⟩
        · skip
          obtain ⟨dz1, dz2, dz3, dz4⟩ := fair_bef HZ.out
          have Hz2 : Hid (fairBefB f1 e1 = false) := dz2
          have Hz3 : Hid (taskB e1 = true) := dz3
          clear dz2 dz3
          go_wp2_with (go_at_call 23; refine (hT.out _ _).mono ?_; rintro e w13 ⟨rfl, k13⟩; have kk13 : Keeps WC w13 := Keeps.trans (by assumption) k13; first | rw [Hx3.out] | rw [Hy3.out] | rw [Hz3.out])
          go_ret
          exact ⟨rfl, KX.trans (by assumption)⟩
      · skip
        obtain ⟨dy1, dy2, dy3, dy4⟩ := fix_bef HY.out
        have Hy2 : Hid (fixBefB d1 c1 = false) := dy2
        have Hy3 : Hid (taskB c1 = true) := dy3
        clear dy2 dy3
        cases Z
        · skip
          go_wp2_with (go_at_call 23; refine (hT.out _ _).mono ?_; rintro e w13 ⟨rfl, k13⟩; have kk13 : Keeps WC w13 := Keeps.trans (by assumption) k13; first | rw [Hx3.out] | rw [Hy3.out] | rw [Hz3.out])
          go_ret
          exact ⟨rfl, KX.trans (by assumption)⟩
        · skip
          obtain ⟨dz1, dz2, dz3, dz4⟩ := fair_bef HZ.out
          have Hz2 : Hid (fairBefB f1 e1 = false) := dz2
          have Hz3 : Hid (taskB e1 = true) := dz3
          clear dz2 dz3
          go_wp2_with (go_at_call 23; refine (hT.out _ _).mono ?_; rintro e w13 ⟨rfl, k13⟩; have kk13 : Keeps WC w13 := Keeps.trans (by assumption) k13; first | rw [Hx3.out] | rw [Hy3.out] | rw [Hz3.out])
          go_ret
          exact ⟨rfl, KX.trans (by assumption)⟩
end Go.Proofs.Ytdndgacaohmdnaa
