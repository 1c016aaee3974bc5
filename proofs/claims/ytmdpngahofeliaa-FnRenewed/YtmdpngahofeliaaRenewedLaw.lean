/-
  The law FnRenewed: its walk, over contracts of the program's functions.
-/
import Derived.Test.YtmdpngahofeliaaDueLaws
import Derived.Test.YtmdpngahofeliaaDrawDue
import Derived.Test.YtmdpngahofeliaaTaskEq
import Derived.Test.YtmdpngahofeliaaTaskLaws
import Derived.Deep.DeepCutAuto
namespace Go.Proofs.Ytmdpngahofeliaa
open Go.RowKit
attribute [local go_sem] Keeps.refl Keeps.alloc Keeps.drew Keeps.drewN
attribute [local go_sem high] run_eql_task run_neq_task

/-- It is not renewed. -/
def offR (t : Tsk) (x : Int) : Bool := !taskB t || t.cls != 1 || decide (x < 0) || decide (100000 < x) || decide (x < t.due)
theorem offR_yes {t : Tsk} {x : Int} (h : offR t x = true) : renewT t x = t := by
  have : renewB t x = false := by
    rw [Bool.eq_false_iff]
    intro hr
    simp only [renewB, dueB, Bool.and_eq_true, decide_eq_true_eq, beq_iff_eq, inB_iff] at hr
    obtain ⟨⟨⟨h1, h2⟩, h3⟩, h4⟩ := hr
    simp [offR, h1, h2] at h
    omega
  simp [renewT, this]
theorem offR_no {t : Tsk} {x : Int} (h : offR t x = false) : IsDue t ∧ (0 ≤ x ∧ x ≤ 100000) ∧ t.due ≤ x := by
  simp [offR] at h
  obtain ⟨⟨⟨⟨h1, h2⟩, h3⟩, h4⟩, h5⟩ := h
  exact ⟨(dueB_iff t).1 (by simp [dueB, h1, h2]), ⟨h3, h4⟩, h5⟩

set_option maxRecDepth 100000 in
set_option maxHeartbeats 4000000 in
theorem renewed_walk (HT : SaysTaskOk) (HR : SaysDueRenew) (a : Option Addr) (n cap : Nat) (w : World) (hm : n ≤ maxLen) (hb : ∀ g, w.heap.size ≤ g → Bytes g w a n) :
    Calls Try.prog 18 #[.slice a n cap] w fun e w' => e = .returned (.bool true) ∧ Keeps w w' := by
  have hT : Hid SaysTaskOk := HT
  have hR : Hid SaysDueRenew := HR
  clear HT HR
  by_cases hn : n ≤ 1048576
  case neg =>
    have hd : decide (1048576 < (n : Int)) = true := by simp; omega
    go_enter Try.func18, Try.ntmps18
    go_wp2_with (go_at_call 41; refine (big_any _ _ _ _ hm).mono ?_; rintro e w1 ⟨rfl, rfl⟩)
    go_ret
    exact ⟨rfl, Keeps.refl _⟩
  have hd : decide (1048576 < (n : Int)) = false := by simp; omega
  go_enter Try.func18, Try.ntmps18
  go_wp2_with fail
  refine (big_any _ _ _ _ hm).mono ?_
  rintro e w0 ⟨rfl, rfl⟩
  rw [hd]
  go_wp2_with fail
  refine (drawDueRenew_any _ _ _ _ hn hb).mono ?_
  rintro e w1 ⟨t, x, rfl, hx, k1⟩
  clear hb hd
  obtain ⟨x0, x1⟩ := hx
  obtain ⟨N, HN⟩ : ∃ N, Hid (renewT t x = N) := ⟨_, rfl⟩
  go_wp2_with fail
  have kW := k1.alloc (.cells (tc t) 25)
  have r1 : ∀ w', Keeps (w1.alloc (.cells (tc t) 25)) w' → ∀ k, w'.cell? ⟨w1.heap.size, k, none⟩ = (tc t)[k]? := fun w' h => ((Blk.new w1 (tc t) 25).keeps h).cells
  clear k1
  generalize w1.alloc (.cells (tc t) 25) = W1 at *
  generalize w1.heap.size = s at *
  refine (hR.out t x _).mono ?_
  rintro e w2 ⟨rfl, k2⟩
  rw [HN.out]
  go_wp2_with fail
  have r2 : ∀ w', Keeps (w2.alloc (.cells (tc N) 25)) w' → ∀ k, w'.cell? ⟨w2.heap.size, k, none⟩ = (tc N)[k]? := fun w' h => ((Blk.new w2 (tc N) 25).keeps h).cells
  have r3 : ∀ w', Keeps (w2.alloc (.cells (tc N) 25)) w' → ∀ k, w'.cell? ⟨s, k, none⟩ = (tc t)[k]? := fun w' h => r1 w' ((k2.alloc _).trans h)
  have KW := kW.trans (k2.alloc (.cells (tc N) 25))
  clear r1 k2 kW
  generalize w2.alloc (.cells (tc N) 25) = W2 at *
  generalize w2.heap.size = s2 at *
  have K0 := Keeps.refl W2
  have nNN : eqT N N = true := eqT_same N
  refine wp_region_held_drew (S := (fun w' => Keeps W2 w')) (by kernel_rfl) ?_ (fun hHeld => ?_)
  · exact K0.drew
  refine wpAnyH_take (i := 0) (v := ?_) (by simp only [List.getElem?_toArray, List.getElem?_cons_zero]; rfl) (by kernel_rfl) (by kernel_rfl) (by kernel_rfl) (by exact fun _ _ _ h => h) (Or.inl ⟨by rfl, ?_⟩) (by assumption) ?_
  rotate_left
  · (intro w hSw; (try dsimp only at hSw); go_simp; try (with_reducible rfl))
  try simp only [Act.put, List.setIfInBounds_toArray, List.set_cons_zero, List.set_cons_succ]
  refine wpAnyH_take (i := 1) (v := ?_) (by simp only [List.getElem?_toArray, List.getElem?_cons_succ, List.getElem?_cons_zero]; rfl) (by kernel_rfl) (by kernel_rfl) (by kernel_rfl) (by exact fun _ _ _ h => h) (Or.inl ⟨by rfl, ?_⟩) (by assumption) ?_
  rotate_left
  · (intro w hSw; (try dsimp only at hSw); go_simp; try (with_reducible rfl))
  try simp only [Act.put, List.setIfInBounds_toArray, List.set_cons_zero, List.set_cons_succ]
  refine wpAnyH_take (i := 2) (v := ?_) (by simp only [List.getElem?_toArray, List.getElem?_cons_succ, List.getElem?_cons_zero]; rfl) (by kernel_rfl) (by kernel_rfl) (by kernel_rfl) (by exact fun _ _ _ h => h) (Or.inl ⟨by rfl, ?_⟩) (by assumption) ?_
  rotate_left
  · (intro w hSw; (try dsimp only at hSw); go_simp; try (with_reducible rfl))
  try simp only [Act.put, List.setIfInBounds_toArray, List.set_cons_zero, List.set_cons_succ]
  refine wpAnyH_ready (rs := [3]) (by kernel_rfl) (by simp) ?_
  refine AllReadyH.cons (by simp only [List.getElem?_toArray, List.getElem?_cons_succ, List.getElem?_cons_zero]; rfl) (fun K hK => ?_) AllReadyH.nil
  go_simp
  first
    | (go_at_call 48; refine (specDueRenew_any t x _).mono ?_; rintro e w3 ⟨rfl, k3⟩; rw [HN.out])
  try go_wp2_with fail
  refine hK.out _ _ ?_ (fun hHeld => ?_)
  · exact Keeps.trans (by assumption) (by assumption)
  clear hK K
  try simp only [Act.put, List.setIfInBounds_toArray, List.set_cons_zero, List.set_cons_succ]
  refine wpAnyH_take (i := 4) (v := ?_) (by simp only [List.getElem?_toArray, List.getElem?_cons_succ, List.getElem?_cons_zero]; rfl) (by kernel_rfl) (by kernel_rfl) (by kernel_rfl) (by exact fun _ _ _ h => h) (Or.inl ⟨by rfl, ?_⟩) (by assumption) ?_
  rotate_left
  · (intro w hSw; (try dsimp only at hSw); go_simp; try (with_reducible rfl))
  try simp only [Act.put, List.setIfInBounds_toArray, List.set_cons_zero, List.set_cons_succ]
  refine wpAnyH_done (by kernel_rfl) ?_ _
  have K3 : Keeps W2 w3 := by assumption
  clear k3 K0
  go_upto_region 7 with fail
  go_cut [42] (fun c wx => c = .bool (offR t x) ∧ Keeps W2 wx)
  case first =>
    cases b0 : taskB t
    · have Hr : Hid (offR t x = true) := by show _ = _; simp [offR, b0]
      go_wp2_with (go_at_call 20; refine (specTaskOk_any t _).mono ?_; rintro e w4 ⟨rfl, k4'⟩; have k4 := K3.trans k4'; rw [b0])
      go_meet
      exact ⟨by rw [Hr.out], k4⟩
    · skip
      cases b1 : (t.cls != 1)
      rotate_left
      · have Hr : Hid (offR t x = true) := by show _ = _; simp [offR, b0, b1]
        go_wp2_with (go_at_call 20; refine (specTaskOk_any t _).mono ?_; rintro e w4 ⟨rfl, k4'⟩; have k4 := K3.trans k4'; rw [b0])
        go_meet
        exact ⟨by rw [Hr.out], k4⟩
      · skip
        cases b2 : decide (x < 0)
        rotate_left
        · have Hr : Hid (offR t x = true) := by show _ = _; simp [offR, b0, b1, b2]
          go_wp2_with (go_at_call 20; refine (specTaskOk_any t _).mono ?_; rintro e w4 ⟨rfl, k4'⟩; have k4 := K3.trans k4'; rw [b0])
          go_meet
          exact ⟨by rw [Hr.out], k4⟩
        · skip
          cases b3 : decide (100000 < x)
          rotate_left
          · have Hr : Hid (offR t x = true) := by show _ = _; simp [offR, b0, b1, b2, b3]
            go_wp2_with (go_at_call 20; refine (specTaskOk_any t _).mono ?_; rintro e w4 ⟨rfl, k4'⟩; have k4 := K3.trans k4'; rw [b0])
            go_meet
            exact ⟨by rw [Hr.out], k4⟩
          · skip
            cases b4 : decide (x < t.due)
            · have Hr : Hid (offR t x = false) := by show _ = _; simp [offR, b0, b1, b2, b3, b4]
              go_wp2_with (go_at_call 20; refine (specTaskOk_any t _).mono ?_; rintro e w4 ⟨rfl, k4'⟩; have k4 := K3.trans k4'; rw [b0])
              go_meet
              exact ⟨by rw [Hr.out], k4⟩
            · have Hr : Hid (offR t x = true) := by show _ = _; simp [offR, b0, b1, b2, b3, b4]
              go_wp2_with (go_at_call 20; refine (specTaskOk_any t _).mono ?_; rintro e w4 ⟨rfl, k4'⟩; have k4 := K3.trans k4'; rw [b0])
              go_meet
              exact ⟨by rw [Hr.out], k4⟩
  case rest =>
  obtain ⟨rfl, K4⟩ := hcut
  clear K3
  generalize wc = W4 at *
  cases ho : offR t x
  · obtain ⟨hD, hxx, hdx⟩ := offR_no ho
    obtain ⟨e, hI⟩ := renew_due hD hxx hdx
    rw [HN.out] at e hI
    have hp := hD.p
    have hdd := hD.due
    obtain ⟨p0, p1⟩ := hp
    obtain ⟨d0, d1⟩ := hdd
    have l1 : (N.left == t.q) = true := by rw [e]; simp
    have l2 : (N.due == t.due + t.p) = true := by rw [e]; simp
    have H3 : Hid (taskB N = true) := by
      have := (dueB_iff N).2 hI
      simp only [dueB, Bool.and_eq_true] at this
      exact this.1
    clear e hI hD
    go_wp2_with (go_at_call 22; refine (hT.out N _).mono ?_; rintro e w5 ⟨rfl, k5⟩; rw [H3.out])
    go_ret
    exact ⟨rfl, KW.trans (K4.trans k5)⟩
  · have e := offR_yes ho
    rw [HN.out] at e
    subst e
    go_wp2
    go_ret
    exact ⟨rfl, KW.trans K4⟩
end Go.Proofs.Ytmdpngahofeliaa
