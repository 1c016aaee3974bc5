/-
  Calls: which are right, and the walk of FnExactCallOk, over a contract of the program's CallOk.
-/
import Derived.Test.YtpikopdfkhagmaaDoorCallSpec
namespace Go.Proofs.YtpikopdfkhagmaaDoor
open Go.RowKit
attribute [local go_sem] Keeps.refl Keeps.alloc Keeps.drew Keeps.drewN
attribute [local go_sem high] run_eql_call

set_option maxRecDepth 100000 in
set_option maxHeartbeats 2000000 in
theorem specCallOk_any (c : Cl) (w : World) :
    Calls Tryd.prog 17 #[ck c] w fun e w' => e = .returned (.bool (callB c)) ∧ Keeps w w' := by
  have kW : Keeps w (w.alloc (.cells (cc c) 26)) := (Keeps.refl _).alloc _
  have r1 := blkR w (cc c) 26
  cases b : inB c.kind 1 11
  · have Hr : Hid (callB c = false) := by show _ = _; simp [callB, b]
    go_enter Tryd.func17, Tryd.ntmps17
    go_wp2_with fail
    generalize w.alloc (.cells (cc c) 26) = W at *
    refine wp_region_held_drew (S := (fun w' => Keeps W w')) (by kernel_rfl) ?_ (fun hHeld => ?_)
    · exact (Keeps.refl W).drew
    refine Plan.go [0, 1] ?_
    iterate 2 (refine takeL (by simp only [opsAt]; rfl) (by kernel_rfl) (by exact fun _ _ _ h => h) (by rfl) (by assumption) (fun w _ => by go_simp; try (with_reducible rfl)) ?_; try simp only [putAtH])
    refine Plan.nil ?_
    refine callH 2 (by kernel_rfl) (by simp only [opsAt]; rfl) (fun K hK => ?_)
    go_simp
    first
      | (go_at_call 20; refine (l1In_any _ _ _ _).mono ?_; rintro e w' ⟨rfl, hw1⟩; have hw2 := hw1.symm; subst hw2; rw [b])
      | (go_at_call 38; refine (l11Clean_any c _).mono ?_; rintro e w1 ⟨rfl, k1⟩)
    try go_wp2_with fail
    refine hK.out _ _ ?_ (fun hHeld => ?_)
    · first | assumption | exact Keeps.trans (by assumption) (by assumption)
    clear hK K
    try simp only [putAtH]
    refine takeH 3 (v := ?_) (by simp only [opsAt]; rfl) (by kernel_rfl) (by exact fun _ _ _ h => h) (by rfl) (by assumption) ?_ ?_
    rotate_left
    · (intro w _; go_simp; try (with_reducible rfl))
    try simp only [putAtH]
    refine Plan.go [4, 5, 6, 7] ?_
    iterate 4 (refine skipL (by simp only [opsAt]; rfl) (by kernel_rfl) (by exact fun _ _ _ h => h) (by rfl) (by assumption) ?_; try simp only [putAtH])
    refine Plan.nil ?_
    refine Plan.go [8, 9] ?_
    iterate 2 (refine takeL (by simp only [opsAt]; rfl) (by kernel_rfl) (by exact fun _ _ _ h => h) (by rfl) (by assumption) (fun w _ => by go_simp; try (with_reducible rfl)) ?_; try simp only [putAtH])
    refine Plan.nil ?_
    refine wpAnyH_done (by kernel_rfl) ?_ _
    go_wp2
    go_ret
    exact ⟨by rw [Hr.out]; rfl, kW.trans (by assumption)⟩
  · have Hr : Hid (callB c = eqC c (cleanC c)) := by show _ = _; simp [callB, b]
    go_enter Tryd.func17, Tryd.ntmps17
    go_wp2_with fail
    generalize w.alloc (.cells (cc c) 26) = W at *
    refine wp_region_held_drew (S := (fun w' => Keeps W w')) (by kernel_rfl) ?_ (fun hHeld => ?_)
    · exact (Keeps.refl W).drew
    refine Plan.go [0, 1] ?_
    iterate 2 (refine takeL (by simp only [opsAt]; rfl) (by kernel_rfl) (by exact fun _ _ _ h => h) (by rfl) (by assumption) (fun w _ => by go_simp; try (with_reducible rfl)) ?_; try simp only [putAtH])
    refine Plan.nil ?_
    refine callH 2 (by kernel_rfl) (by simp only [opsAt]; rfl) (fun K hK => ?_)
    go_simp
    first
      | (go_at_call 20; refine (l1In_any _ _ _ _).mono ?_; rintro e w' ⟨rfl, hw1⟩; have hw2 := hw1.symm; subst hw2; rw [b])
      | (go_at_call 38; refine (l11Clean_any c _).mono ?_; rintro e w1 ⟨rfl, k1⟩)
    try go_wp2_with fail
    refine hK.out _ _ ?_ (fun hHeld => ?_)
    · first | assumption | exact Keeps.trans (by assumption) (by assumption)
    clear hK K
    try simp only [putAtH]
    refine Plan.go [3, 4, 5] ?_
    iterate 3 (refine takeL (by simp only [opsAt]; rfl) (by kernel_rfl) (by exact fun _ _ _ h => h) (by rfl) (by assumption) (fun w _ => by go_simp; try (with_reducible rfl)) ?_; try simp only [putAtH])
    refine Plan.nil ?_
    refine callH 6 (by kernel_rfl) (by simp only [opsAt]; rfl) (fun K hK => ?_)
    go_simp
    first
      | (go_at_call 20; refine (l1In_any _ _ _ _).mono ?_; rintro e w' ⟨rfl, hw1⟩; have hw2 := hw1.symm; subst hw2; rw [b])
      | (go_at_call 38; refine (l11Clean_any c _).mono ?_; rintro e w1 ⟨rfl, k1⟩)
    try go_wp2_with fail
    refine hK.out _ _ ?_ (fun hHeld => ?_)
    · first | assumption | exact Keeps.trans (by assumption) (by assumption)
    clear hK K
    try simp only [putAtH]
    refine Plan.go [7, 8, 9] ?_
    iterate 3 (refine takeL (by simp only [opsAt]; rfl) (by kernel_rfl) (by exact fun _ _ _ h => h) (by rfl) (by assumption) (fun w _ => by go_simp; try (with_reducible rfl)) ?_; try simp only [putAtH])
    refine Plan.nil ?_
    refine wpAnyH_done (by kernel_rfl) ?_ _
    go_wp2
    go_ret
    exact ⟨by rw [Hr.out]; rfl, kW.trans (by assumption)⟩
def SaysCallOk : Prop := ∀ (c : Cl) (w : World), Calls Tryd.prog 39 #[ck c] w fun e w' => e = .returned (.bool (callB c)) ∧ Keeps w w'
end Go.Proofs.YtpikopdfkhagmaaDoor
