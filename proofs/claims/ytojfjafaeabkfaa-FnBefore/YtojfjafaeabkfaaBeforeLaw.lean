/-
  The walk of FnBefore, over contracts of the program's functions.
-/
import Derived.Test.YtojfjafaeabkfaaGPick2
import Derived.Test.YtojfjafaeabkfaaGDraw3
import Derived.Test.YtojfjafaeabkfaaGDff2
import Derived.Deep.DeepCutAuto
import Derived.Deep.CutBlock
import Derived.Deep.RegionHeld3
namespace Go.Proofs.Ytojfjafaeabkfaa
open Go.RowKit
attribute [local go_sem] Keeps.refl Keeps.alloc Keeps.drew Keeps.drewN

theorem befB_task {a b : Tsk} (h : (taskB a && taskB b) = false) : befB a b = false := by
  unfold befB
  cases ha : taskB a
  · rfl
  · rw [ha, Bool.true_and] at h
    rw [h]; rfl

set_option maxRecDepth 100000 in
set_option maxHeartbeats 8000000 in
theorem before_walk (HBF : SaysBefore) (HFB : SaysFairBefore) (a : Option Addr) (n cap : Nat) (w : World) (hm : n ≤ maxLen) (hb : ∀ g, w.heap.size ≤ g → Bytes g w a n) :
    Calls Try.prog 8 #[.slice a n cap] w fun e w' => e = .returned (.bool true) ∧ Keeps w w' := by
  have hF : Hid SaysBefore := HBF
  have hV : Hid SaysFairBefore := HFB
  have HB : Hid (∀ g, w.heap.size ≤ g → Bytes g w a n) := hb
  clear HBF HFB hb
  by_cases hn : n ≤ 1048576
  rotate_left
  · have hd : decide (1048576 < (n : Int)) = true := by simp; omega
    go_enter Try.func8, Try.ntmps8
    go_wp2_with (go_at_call 30; refine (big_any _ _ _ _ hm).mono ?_; rintro e w0 ⟨rfl, hw0⟩; have hw2 := hw0.symm; subst hw2; rw [hd])
    go_ret
    exact ⟨rfl, Keeps.refl _⟩
  have hd : decide (1048576 < (n : Int)) = false := by simp; omega
  go_enter Try.func8, Try.ntmps8
  go_wp2_with fail
  refine (big_any _ _ _ _ hm).mono ?_
  rintro e w0 ⟨rfl, hw0⟩
  have hw2 := hw0.symm
  subst hw2
  clear hw0
  rw [hd]
  go_wp2_with fail
  refine (drawBefore_any _ _ _ _ hn HB.out).mono ?_
  rintro e w1 ⟨a1, b1, rfl, k1⟩
  clear hd
  go_wp2_with fail
  have KA := k1.alloc (.cells (tc a1) 25) |>.alloc (.cells (tc b1) 25)
  have ra : ∀ w', Keeps ((w1.alloc (.cells (tc a1) 25)).alloc (.cells (tc b1) 25)) w' → ∀ k, w'.cell? ⟨w1.heap.size, k, none⟩ = (tc a1)[k]? := fun w' h => (((Blk.new w1 (tc a1) 25).alloc _).keeps h).cells
  have rb : ∀ w', Keeps ((w1.alloc (.cells (tc a1) 25)).alloc (.cells (tc b1) 25)) w' → ∀ k, w'.cell? ⟨w1.heap.size + 1, k, none⟩ = (tc b1)[k]? := fun w' h => by
    have := (Blk.new (w1.alloc (.cells (tc a1) 25)) (tc b1) 25).keeps h
    simp only [World.size_alloc] at this
    exact this.cells
  clear k1
  generalize (w1.alloc (.cells (tc a1) 25)).alloc (.cells (tc b1) 25) = WA at *
  generalize w1.heap.size = s1 at *
  obtain ⟨X, HX⟩ : ∃ X, Hid (befB a1 b1 = X) := ⟨_, rfl⟩
  obtain ⟨Y, HY⟩ : ∃ Y, Hid (befB b1 a1 = Y) := ⟨_, rfl⟩
  have HZ : Hid (befB a1 a1 = false) := befB_irr a1
  have B1 : Hid (∀ w', Calls Try.prog 13 #[tk a1, tk b1] w' fun e w'' => e = .returned (.bool X) ∧ Keeps w' w'') := fun w' => by have := hF.out a1 b1 w'; rw [HX.out] at this; exact this
  have B2 : Hid (∀ w', Calls Try.prog 13 #[tk b1, tk a1] w' fun e w'' => e = .returned (.bool Y) ∧ Keeps w' w'') := fun w' => by have := hF.out b1 a1 w'; rw [HY.out] at this; exact this
  have B3 : Hid (∀ w', Calls Try.prog 13 #[tk a1, tk a1] w' fun e w'' => e = .returned (.bool false) ∧ Keeps w' w'') := fun w' => by have := hF.out a1 a1 w'; rw [HZ.out] at this; exact this
  have S1 : Hid (∀ w', Calls Try.prog 11 #[tk a1, tk b1] w' fun e w'' => e = .returned (.bool X) ∧ Keeps w' w'') := fun w' => by have := specBefore_any a1 b1 w'; rw [HX.out] at this; exact this
  have K0 : Keeps WA WA := Keeps.refl _
  refine wp_region_held_drew (S := (fun w' => Keeps WA w')) (by kernel_rfl) ?_ (fun hHeld => ?_)
  · exact Keeps.drew (by assumption)
  refine wpAnyH_take (i := 0) (v := ?_) (by simp only [List.getElem?_toArray, List.getElem?_cons_zero]; rfl) (by kernel_rfl) (by kernel_rfl) (by kernel_rfl) (by exact fun _ _ _ h => h) (Or.inl ⟨by rfl, ?_⟩) (by assumption) ?_
  rotate_left
  · (intro w hSw; (try dsimp only at hSw); go_simp; try (with_reducible rfl))
  try simp only [Act.put, List.setIfInBounds_toArray, List.set_cons_zero, List.set_cons_succ]
  refine wpAnyH_take (i := 1) (v := ?_) (by simp only [List.getElem?_toArray, List.getElem?_cons_succ, List.getElem?_cons_zero]; rfl) (by kernel_rfl) (by kernel_rfl) (by kernel_rfl) (by exact fun _ _ _ h => h) (Or.inl ⟨by rfl, ?_⟩) (by assumption) ?_
  rotate_left
  · (intro w hSw; (try dsimp only at hSw); go_simp; try (with_reducible rfl))
  try simp only [Act.put, List.setIfInBounds_toArray, List.set_cons_zero, List.set_cons_succ]
  refine wpAnyH_take (i := 3) (v := ?_) (by simp only [List.getElem?_toArray, List.getElem?_cons_succ, List.getElem?_cons_zero]; rfl) (by kernel_rfl) (by kernel_rfl) (by kernel_rfl) (by exact fun _ _ _ h => h) (Or.inl ⟨by rfl, ?_⟩) (by assumption) ?_
  rotate_left
  · (intro w hSw; (try dsimp only at hSw); go_simp; try (with_reducible rfl))
  try simp only [Act.put, List.setIfInBounds_toArray, List.set_cons_zero, List.set_cons_succ]
  refine wpAnyH_take (i := 4) (v := ?_) (by simp only [List.getElem?_toArray, List.getElem?_cons_succ, List.getElem?_cons_zero]; rfl) (by kernel_rfl) (by kernel_rfl) (by kernel_rfl) (by exact fun _ _ _ h => h) (Or.inl ⟨by rfl, ?_⟩) (by assumption) ?_
  rotate_left
  · (intro w hSw; (try dsimp only at hSw); go_simp; try (with_reducible rfl))
  try simp only [Act.put, List.setIfInBounds_toArray, List.set_cons_zero, List.set_cons_succ]
  refine wpAnyH_ready (rs := [2]) (by kernel_rfl) (by simp) ?_
  refine AllReadyH.cons (by simp only [List.getElem?_toArray, List.getElem?_cons_succ, List.getElem?_cons_zero]; rfl) (fun K hK => ?_) AllReadyH.nil
  go_simp
  first
    | (go_at_call 13; have B0 := B1; clear B1; refine (B0.out _).mono ?_; rintro e w2 ⟨rfl, k2⟩; clear B0)
    | (go_at_call 13; refine (B2.out _).mono ?_; rintro e w3 ⟨rfl, k3⟩)
  try go_wp2_with fail
  refine hK.out _ _ ?_ (fun hHeld => ?_)
  · exact Keeps.trans (by assumption) (by assumption)
  clear hK K
  try simp only [Act.put, List.setIfInBounds_toArray, List.set_cons_zero, List.set_cons_succ]
  refine wpAnyH_ready (rs := [5]) (by kernel_rfl) (by simp) ?_
  refine AllReadyH.cons (by simp only [List.getElem?_toArray, List.getElem?_cons_succ, List.getElem?_cons_zero]; rfl) (fun K hK => ?_) AllReadyH.nil
  go_simp
  first
    | (go_at_call 13; have B0 := B1; clear B1; refine (B0.out _).mono ?_; rintro e w2 ⟨rfl, k2⟩; clear B0)
    | (go_at_call 13; refine (B2.out _).mono ?_; rintro e w3 ⟨rfl, k3⟩)
  try go_wp2_with fail
  refine hK.out _ _ ?_ (fun hHeld => ?_)
  · exact Keeps.trans (by assumption) (by assumption)
  clear hK K
  try simp only [Act.put, List.setIfInBounds_toArray, List.set_cons_zero, List.set_cons_succ]
  refine wpAnyH_take (i := 6) (v := ?_) (by simp only [List.getElem?_toArray, List.getElem?_cons_succ, List.getElem?_cons_zero]; rfl) (by kernel_rfl) (by kernel_rfl) (by kernel_rfl) (by exact fun _ _ _ h => h) (Or.inl ⟨by rfl, ?_⟩) (by assumption) ?_
  rotate_left
  · (intro w hSw; (try dsimp only at hSw); go_simp; try (with_reducible rfl))
  try simp only [Act.put, List.setIfInBounds_toArray, List.set_cons_zero, List.set_cons_succ]
  refine wpAnyH_take (i := 7) (v := ?_) (by simp only [List.getElem?_toArray, List.getElem?_cons_succ, List.getElem?_cons_zero]; rfl) (by kernel_rfl) (by kernel_rfl) (by kernel_rfl) (by exact fun _ _ _ h => h) (Or.inl ⟨by rfl, ?_⟩) (by assumption) ?_
  rotate_left
  · (intro w hSw; (try dsimp only at hSw); go_simp; try (with_reducible rfl))
  try simp only [Act.put, List.setIfInBounds_toArray, List.set_cons_zero, List.set_cons_succ]
  refine wpAnyH_done (by kernel_rfl) ?_ _
  have K3 : Keeps WA w3 := by assumption
  have nX : (X != X) = false := by simp
  have hXY : (X && Y) = false := by
    cases X
    · rfl
    · rw [← HY.out, befB_asym HX.out]; rfl
  obtain ⟨ta, Hta⟩ : ∃ z, Hid (taskB a1 = z) := ⟨_, rfl⟩
  obtain ⟨tb, Htb⟩ : ∃ z, Hid (taskB b1 = z) := ⟨_, rfl⟩
  have T1 : Hid (∀ w', Calls Try.prog 32 #[tk a1] w' fun e w'' => e = .returned (.bool ta) ∧ Keeps w' w'') := fun w' => by have := specTaskOk_any a1 w'; rw [Hta.out] at this; exact this
  have T2 : Hid (∀ w', Calls Try.prog 32 #[tk b1] w' fun e w'' => e = .returned (.bool tb) ∧ Keeps w' w'') := fun w' => by have := specTaskOk_any b1 w'; rw [Htb.out] at this; exact this
  go_upto_region 5 with fail
  go_cut [37] (fun c wx => c = .bool false ∧ Keeps WA wx)
  case first => as_aux_lemma =>
    cases X
    · go_wp2_with (first
        | (go_at_call 11; refine (S1.out _).mono ?_; rintro e w4 ⟨rfl, k4⟩; have K4 := K3.trans k4)
        | (go_at_call 13; refine (B3.out _).mono ?_; rintro e w5 ⟨rfl, k5⟩; have K5 := K4.trans k5))
      go_meet
      exact ⟨rfl, K5⟩
    · have eY : Y = false := by simpa using hXY
      subst eY
      go_wp2_with (first
        | (go_at_call 11; refine (S1.out _).mono ?_; rintro e w4 ⟨rfl, k4⟩; have K4 := K3.trans k4)
        | (go_at_call 13; refine (B3.out _).mono ?_; rintro e w5 ⟨rfl, k5⟩; have K5 := K4.trans k5))
      go_meet
      exact ⟨rfl, K5⟩
  case rest =>
  obtain ⟨rfl, K5⟩ := hcut
  generalize wc = w5 at *
  clear K3 k2 k3
  by_cases hab : (ta && tb) = false
  · as_aux_lemma =>
      have eX : X = false := by rw [← HX.out]; exact befB_task (by rw [Hta.out, Htb.out]; exact hab)
      have eY : Y = false := by rw [← HY.out]; exact befB_task (by rw [Hta.out, Htb.out, Bool.and_comm]; exact hab)
      subst eX eY
      cases ta
      · go_wp2_with (go_at_call 32; refine (T1.out _).mono ?_; rintro e w6 ⟨rfl, k6⟩; have K6 := K5.trans k6)
        go_ret
        exact ⟨rfl, KA.trans K6⟩
      · have eb : tb = false := by simpa using hab
        subst eb
        go_wp2_with (first
          | (go_at_call 32; have T0 := T1; clear T1; refine (T0.out _).mono ?_; rintro e w6 ⟨rfl, k6⟩; have K6 := K5.trans k6; clear T0)
          | (go_at_call 32; refine (T2.out _).mono ?_; rintro e w7 ⟨rfl, k7⟩; have K7 := K6.trans k7))
        go_ret
        exact ⟨rfl, KA.trans K7⟩
  have hab' : ta = true ∧ tb = true := by simpa using hab
  obtain ⟨rfl, rfl⟩ := hab'
  clear hab
  have htot : X = true ∨ Y = true ∨ a1.no = b1.no := by
    by_cases e : a1.no = b1.no
    · exact .inr (.inr e)
    · rcases befB_total Hta.out Htb.out e with h | h
      · rw [HX.out] at h; exact .inl h
      · rw [HY.out] at h; exact .inr (.inl h)
  have hcond : ((a1.no != b1.no && !X) && !Y) = false := by
    rcases htot with rfl | rfl | e
    · simp
    · simp
    · have : (a1.no != b1.no) = false := by simpa using e
      rw [this]; rfl
  clear htot
  obtain ⟨nn, Hnn⟩ : ∃ z, (a1.no != b1.no) = z := ⟨_, rfl⟩
  rw [Hnn] at hcond
  go_upto_region 9 with (first
    | (go_at_call 32; have T0 := T1; clear T1; refine (T0.out _).mono ?_; rintro e w6 ⟨rfl, k6⟩; have K6 := K5.trans k6; clear T0)
    | (go_at_call 32; refine (T2.out _).mono ?_; rintro e w7 ⟨rfl, k7⟩; have K7 := K6.trans k7))
  go_cut [64] (fun c wx => c = .bool false ∧ wx = w7)
  case first => as_aux_lemma =>
    cases nn
    · go_wp2_with fail
      go_meet
      exact ⟨rfl, rfl⟩
    · cases X
      · have eY : Y = true := by simpa using hcond
        subst eY
        go_wp2_with fail
        go_meet
        exact ⟨rfl, rfl⟩
      · go_wp2_with fail
        go_meet
        exact ⟨rfl, rfl⟩
  case rest =>
  obtain ⟨rfl, hwc⟩ := hcut
  have hwc2 := hwc.symm
  subst hwc2
  clear hwc
  have KB := KA.trans K7
  go_wp2_with fail
  refine (drawFairBefore_any _ _ _ _ hn (fun g hg => (HB.out g (Nat.le_trans KB.size hg)).but (.of KB))).mono ?_
  rintro e w8 ⟨c1, d1, rfl, k8⟩
  go_wp2_with fail
  have KC := (KB.trans k8).alloc (.cells (tc c1) 25) |>.alloc (.cells (tc d1) 25)
  have rc : ∀ w', Keeps ((w8.alloc (.cells (tc c1) 25)).alloc (.cells (tc d1) 25)) w' → ∀ k, w'.cell? ⟨w8.heap.size, k, none⟩ = (tc c1)[k]? := fun w' h => (((Blk.new w8 (tc c1) 25).alloc _).keeps h).cells
  have rd : ∀ w', Keeps ((w8.alloc (.cells (tc c1) 25)).alloc (.cells (tc d1) 25)) w' → ∀ k, w'.cell? ⟨w8.heap.size + 1, k, none⟩ = (tc d1)[k]? := fun w' h => by
    have := (Blk.new (w8.alloc (.cells (tc c1) 25)) (tc d1) 25).keeps h
    simp only [World.size_alloc] at this
    exact this.cells
  have ra' : ∀ w', Keeps ((w8.alloc (.cells (tc c1) 25)).alloc (.cells (tc d1) 25)) w' → ∀ k, w'.cell? ⟨s1, k, none⟩ = (tc a1)[k]? := fun w' h => ra w' (((K7.trans k8).alloc _ |>.alloc _).trans h)
  have rb' : ∀ w', Keeps ((w8.alloc (.cells (tc c1) 25)).alloc (.cells (tc d1) 25)) w' → ∀ k, w'.cell? ⟨s1 + 1, k, none⟩ = (tc b1)[k]? := fun w' h => rb w' (((K7.trans k8).alloc _ |>.alloc _).trans h)
  clear k6 k7 k8 K6 K7 ra rb KA KB
  generalize (w8.alloc (.cells (tc c1) 25)).alloc (.cells (tc d1) 25) = WC at *
  generalize w8.heap.size = s8 at *
  obtain ⟨Z, HZ2⟩ : ∃ Z, Hid (fairBefB c1 d1 = Z) := ⟨_, rfl⟩
  have nZ : (Z != Z) = false := by simp
  have V1 : Hid (∀ w', Calls Try.prog 34 #[tk c1, tk d1] w' fun e w'' => e = .returned (.bool Z) ∧ Keeps w' w'') := fun w' => by have := hV.out c1 d1 w'; rw [HZ2.out] at this; exact this
  have V2 : Hid (∀ w', Calls Try.prog 35 #[tk c1, tk d1] w' fun e w'' => e = .returned (.bool Z) ∧ Keeps w' w'') := fun w' => by have := specFairBefore_any c1 d1 w'; rw [HZ2.out] at this; exact this
  have K0 : Keeps WC WC := Keeps.refl _
  refine wp_region_held_drew (S := (fun w' => Keeps WC w')) (by kernel_rfl) ?_ (fun hHeld => ?_)
  · exact Keeps.drew (by assumption)
  refine wpAnyH_take (i := 0) (v := ?_) (by simp only [List.getElem?_toArray, List.getElem?_cons_zero]; rfl) (by kernel_rfl) (by kernel_rfl) (by kernel_rfl) (by exact fun _ _ _ h => h) (Or.inl ⟨by rfl, ?_⟩) (by assumption) ?_
  rotate_left
  · (intro w hSw; (try dsimp only at hSw); go_simp; try (with_reducible rfl))
  try simp only [Act.put, List.setIfInBounds_toArray, List.set_cons_zero, List.set_cons_succ]
  refine wpAnyH_take (i := 1) (v := ?_) (by simp only [List.getElem?_toArray, List.getElem?_cons_succ, List.getElem?_cons_zero]; rfl) (by kernel_rfl) (by kernel_rfl) (by kernel_rfl) (by exact fun _ _ _ h => h) (Or.inl ⟨by rfl, ?_⟩) (by assumption) ?_
  rotate_left
  · (intro w hSw; (try dsimp only at hSw); go_simp; try (with_reducible rfl))
  try simp only [Act.put, List.setIfInBounds_toArray, List.set_cons_zero, List.set_cons_succ]
  refine wpAnyH_take (i := 3) (v := ?_) (by simp only [List.getElem?_toArray, List.getElem?_cons_succ, List.getElem?_cons_zero]; rfl) (by kernel_rfl) (by kernel_rfl) (by kernel_rfl) (by exact fun _ _ _ h => h) (Or.inl ⟨by rfl, ?_⟩) (by assumption) ?_
  rotate_left
  · (intro w hSw; (try dsimp only at hSw); go_simp; try (with_reducible rfl))
  try simp only [Act.put, List.setIfInBounds_toArray, List.set_cons_zero, List.set_cons_succ]
  refine wpAnyH_take (i := 4) (v := ?_) (by simp only [List.getElem?_toArray, List.getElem?_cons_succ, List.getElem?_cons_zero]; rfl) (by kernel_rfl) (by kernel_rfl) (by kernel_rfl) (by exact fun _ _ _ h => h) (Or.inl ⟨by rfl, ?_⟩) (by assumption) ?_
  rotate_left
  · (intro w hSw; (try dsimp only at hSw); go_simp; try (with_reducible rfl))
  try simp only [Act.put, List.setIfInBounds_toArray, List.set_cons_zero, List.set_cons_succ]
  refine wpAnyH_ready (rs := [2]) (by kernel_rfl) (by simp) ?_
  refine AllReadyH.cons (by simp only [List.getElem?_toArray, List.getElem?_cons_succ, List.getElem?_cons_zero]; rfl) (fun K hK => ?_) AllReadyH.nil
  go_simp
  first
    | (go_at_call 34; refine (V1.out _).mono ?_; rintro e w9 ⟨rfl, k9⟩)
    | (go_at_call 35; refine (V2.out _).mono ?_; rintro e w10 ⟨rfl, k10⟩)
  try go_wp2_with fail
  refine hK.out _ _ ?_ (fun hHeld => ?_)
  · exact Keeps.trans (by assumption) (by assumption)
  clear hK K
  try simp only [Act.put, List.setIfInBounds_toArray, List.set_cons_zero, List.set_cons_succ]
  refine wpAnyH_ready (rs := [5]) (by kernel_rfl) (by simp) ?_
  refine AllReadyH.cons (by simp only [List.getElem?_toArray, List.getElem?_cons_succ, List.getElem?_cons_zero]; rfl) (fun K hK => ?_) AllReadyH.nil
  go_simp
  first
    | (go_at_call 34; refine (V1.out _).mono ?_; rintro e w9 ⟨rfl, k9⟩)
    | (go_at_call 35; refine (V2.out _).mono ?_; rintro e w10 ⟨rfl, k10⟩)
  try go_wp2_with fail
  refine hK.out _ _ ?_ (fun hHeld => ?_)
  · exact Keeps.trans (by assumption) (by assumption)
  clear hK K
  try simp only [Act.put, List.setIfInBounds_toArray, List.set_cons_zero, List.set_cons_succ]
  refine wpAnyH_take (i := 6) (v := ?_) (by simp only [List.getElem?_toArray, List.getElem?_cons_succ, List.getElem?_cons_zero]; rfl) (by kernel_rfl) (by kernel_rfl) (by kernel_rfl) (by exact fun _ _ _ h => h) (Or.inl ⟨by rfl, ?_⟩) (by assumption) ?_
  rotate_left
  · (intro w hSw; (try dsimp only at hSw); go_simp; try (with_reducible rfl))
  try simp only [Act.put, List.setIfInBounds_toArray, List.set_cons_zero, List.set_cons_succ]
  refine wpAnyH_done (by kernel_rfl) ?_ _
  have K10 : Keeps WC w10 := by assumption
  obtain ⟨P, HP⟩ : ∃ P, Hid (befB b1 c1 = P) := ⟨_, rfl⟩
  obtain ⟨Q, HQ⟩ : ∃ Q, Hid (befB a1 c1 = Q) := ⟨_, rfl⟩
  have C1 : Hid (∀ w', Calls Try.prog 13 #[tk b1, tk c1] w' fun e w'' => e = .returned (.bool P) ∧ Keeps w' w'') := fun w' => by have := hF.out b1 c1 w'; rw [HP.out] at this; exact this
  have C2 : Hid (∀ w', Calls Try.prog 13 #[tk a1, tk c1] w' fun e w'' => e = .returned (.bool Q) ∧ Keeps w' w'') := fun w' => by have := hF.out a1 c1 w'; rw [HQ.out] at this; exact this
  cases X
  · as_aux_lemma =>
      go_wp2
      go_ret
      exact ⟨rfl, KC.trans K10⟩
  · as_aux_lemma =>
      cases P
      · go_wp2_with (go_at_call 13; refine (C1.out _).mono ?_; rintro e w11 ⟨rfl, k11⟩; have K11 := K10.trans k11)
        go_ret
        exact ⟨rfl, KC.trans K11⟩
      · have eQ : Q = true := by rw [← HQ.out]; exact befB_trans HX.out HP.out
        subst eQ
        go_wp2_with (first
          | (go_at_call 13; have C0 := C1; clear C1; refine (C0.out _).mono ?_; rintro e w11 ⟨rfl, k11⟩; have K11 := K10.trans k11; clear C0)
          | (go_at_call 13; refine (C2.out _).mono ?_; rintro e w12 ⟨rfl, k12⟩; have K12 := K11.trans k12))
        go_ret
        exact ⟨rfl, KC.trans K12⟩
end Go.Proofs.Ytojfjafaeabkfaa
