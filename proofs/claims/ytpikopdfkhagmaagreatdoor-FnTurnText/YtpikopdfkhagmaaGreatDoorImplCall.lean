/-
  Calls: what a kind names, and which calls are right.
  Calls: which are right, and the walk of FnExactCallOk, over a contract of the program's CallOk.
  The program's CallOk.
  The model's CallLine: the words, the numbers, the line.
-/
import Derived.Test.YtpikopdfkhagmaaGreatDoorTaskNew
import Derived.Test.YtpikopdfkhagmaaGreatDoorPutC
import Derived.Test.YtpikopdfkhagmaaGreatDoorLate2
import Derived.Laws.StructEq
import Derived.Test.YtpikopdfkhagmaaGreatDoorDeskNum
import Derived.Test.YtpikopdfkhagmaaGreatDoorOwn
import Derived.Deep.RegionHeld3
namespace Go.Proofs.YtpikopdfkhagmaaGreatDoor
open Go.RowKit
attribute [local go_sem] Keeps.refl Keeps.alloc Keeps.drew Keeps.drewN

abbrev cc (c : Cl) : Array Value := #[.int .i64 c.kind, .int .i64 c.no, .int .i64 c.cpu, .int .i64 c.a, .int .i64 c.b]
abbrev ck (c : Cl) : Value := .agg (cc c)
theorem cc_size (c : Cl) : (cc c).size = 5 := rfl
set_option maxRecDepth 100000 in
theorem run_eqlIn_call (d : Nat) (w : World) (a b : Cl) : (Op.equalIn (d + 2) 25 (ck a) (ck b)).run Tryz.prog w = .ok (eqC a b) w := by
  obtain ⟨a0, a1, a2, a3, a4⟩ := a
  obtain ⟨b0, b1, b2, b3, b4⟩ := b
  simp only [eqC]
  rw [run_equalIn_agg _ _ _ _ _ (by kernel_rfl) (by kernel_rfl)]
  go_simp
  by_cases h0 : a0 = b0
  case neg => simp only [if_neg h0, beq_eq_false_iff_ne.2 h0, Bool.false_and]
  simp only [if_pos h0, beq_iff_eq.2 h0, Bool.true_and]
  by_cases h1 : a1 = b1
  case neg => simp only [if_neg h1, beq_eq_false_iff_ne.2 h1, Bool.false_and]
  simp only [if_pos h1, beq_iff_eq.2 h1, Bool.true_and]
  by_cases h2 : a2 = b2
  case neg => simp only [if_neg h2, beq_eq_false_iff_ne.2 h2, Bool.false_and]
  simp only [if_pos h2, beq_iff_eq.2 h2, Bool.true_and]
  by_cases h3 : a3 = b3
  case neg => simp only [if_neg h3, beq_eq_false_iff_ne.2 h3, Bool.false_and]
  simp only [if_pos h3, beq_iff_eq.2 h3, Bool.true_and]
  by_cases h4 : a4 = b4
  case neg => simp only [if_neg h4, beq_eq_false_iff_ne.2 h4]
  simp only [if_pos h4, beq_iff_eq.2 h4]
set_option maxRecDepth 100000 in
theorem run_eql_call (w : World) (a b : Cl) : (binOp .eql 25 (ck a) (ck b)).run Tryz.prog w = .ok (.bool (eqC a b)) w := by
  rw [run_eql_struct, run_eqlIn_call 9998]; rfl
set_option maxRecDepth 100000 in
set_option maxHeartbeats 4000000 in
theorem l11Clean_any (c : Cl) (w : World) :
    Calls Tryz.prog 31 #[ck c] w fun e w' => e = .returned (ck (cleanC c)) ∧ Keeps w w' := by
  cases c1 : (c.kind == 1)
  rotate_left
  · have Hr : Hid (cleanC c = c) := by show _ = _; simp [cleanC, c1]
    go_enter Tryz.func31, Tryz.ntmps31
    go_wp2
    exact bodyPost_ret (v := ck c) (by simp [results, Tryz.results31, go_sem]) rfl ⟨by rw [Hr.out], by repeat (first | exact Keeps.refl _ | refine Keeps.setCell ?_ (by simp) _ | refine Keeps.alloc ?_ _ | refine Keeps.drewN ?_ _)⟩
  cases c2 : (c.kind == 2)
  rotate_left
  · have Hr : Hid (cleanC c = c) := by show _ = _; simp [cleanC, c1, c2]
    go_enter Tryz.func31, Tryz.ntmps31
    go_wp2
    exact bodyPost_ret (v := ck c) (by simp [results, Tryz.results31, go_sem]) rfl ⟨by rw [Hr.out], by repeat (first | exact Keeps.refl _ | refine Keeps.setCell ?_ (by simp) _ | refine Keeps.alloc ?_ _ | refine Keeps.drewN ?_ _)⟩
  cases c3 : (c.kind == 3)
  rotate_left
  · have Hr : Hid (cleanC c = { c with b := 0 }) := by show _ = _; simp [cleanC, c1, c2, c3]
    go_enter Tryz.func31, Tryz.ntmps31
    go_wp2
    exact bodyPost_ret (v := ck { c with b := 0 }) (by simp [results, Tryz.results31, go_sem]) rfl ⟨by rw [Hr.out], by repeat (first | exact Keeps.refl _ | refine Keeps.setCell ?_ (by simp) _ | refine Keeps.alloc ?_ _ | refine Keeps.drewN ?_ _)⟩
  cases c4 : (c.kind == 4)
  rotate_left
  · have Hr : Hid (cleanC c = { c with cpu := 0, a := 0, b := 0 }) := by show _ = _; simp [cleanC, c1, c2, c3, c4]
    go_enter Tryz.func31, Tryz.ntmps31
    go_wp2
    exact bodyPost_ret (v := ck { c with cpu := 0, a := 0, b := 0 }) (by simp [results, Tryz.results31, go_sem]) rfl ⟨by rw [Hr.out], by repeat (first | exact Keeps.refl _ | refine Keeps.setCell ?_ (by simp) _ | refine Keeps.alloc ?_ _ | refine Keeps.drewN ?_ _)⟩
  cases c5 : (c.kind == 5)
  rotate_left
  · have Hr : Hid (cleanC c = { c with cpu := 0, a := 0, b := 0 }) := by show _ = _; simp [cleanC, c1, c2, c3, c4, c5]
    go_enter Tryz.func31, Tryz.ntmps31
    go_wp2
    exact bodyPost_ret (v := ck { c with cpu := 0, a := 0, b := 0 }) (by simp [results, Tryz.results31, go_sem]) rfl ⟨by rw [Hr.out], by repeat (first | exact Keeps.refl _ | refine Keeps.setCell ?_ (by simp) _ | refine Keeps.alloc ?_ _ | refine Keeps.drewN ?_ _)⟩
  cases c6 : (c.kind == 6)
  rotate_left
  · have Hr : Hid (cleanC c = { c with cpu := 0, a := 0, b := 0 }) := by show _ = _; simp [cleanC, c1, c2, c3, c4, c5, c6]
    go_enter Tryz.func31, Tryz.ntmps31
    go_wp2
    exact bodyPost_ret (v := ck { c with cpu := 0, a := 0, b := 0 }) (by simp [results, Tryz.results31, go_sem]) rfl ⟨by rw [Hr.out], by repeat (first | exact Keeps.refl _ | refine Keeps.setCell ?_ (by simp) _ | refine Keeps.alloc ?_ _ | refine Keeps.drewN ?_ _)⟩
  cases c7 : (c.kind == 7)
  rotate_left
  · have Hr : Hid (cleanC c = { c with cpu := 0, b := 0 }) := by show _ = _; simp [cleanC, c1, c2, c3, c4, c5, c6, c7]
    go_enter Tryz.func31, Tryz.ntmps31
    go_wp2
    exact bodyPost_ret (v := ck { c with cpu := 0, b := 0 }) (by simp [results, Tryz.results31, go_sem]) rfl ⟨by rw [Hr.out], by repeat (first | exact Keeps.refl _ | refine Keeps.setCell ?_ (by simp) _ | refine Keeps.alloc ?_ _ | refine Keeps.drewN ?_ _)⟩
  cases c8 : (c.kind == 8)
  rotate_left
  · have Hr : Hid (cleanC c = { c with cpu := 0, b := 0 }) := by show _ = _; simp [cleanC, c1, c2, c3, c4, c5, c6, c7, c8]
    go_enter Tryz.func31, Tryz.ntmps31
    go_wp2
    exact bodyPost_ret (v := ck { c with cpu := 0, b := 0 }) (by simp [results, Tryz.results31, go_sem]) rfl ⟨by rw [Hr.out], by repeat (first | exact Keeps.refl _ | refine Keeps.setCell ?_ (by simp) _ | refine Keeps.alloc ?_ _ | refine Keeps.drewN ?_ _)⟩
  cases c9 : (c.kind == 9)
  rotate_left
  · have Hr : Hid (cleanC c = { c with cpu := 0, b := 0 }) := by show _ = _; simp [cleanC, c1, c2, c3, c4, c5, c6, c7, c8, c9]
    go_enter Tryz.func31, Tryz.ntmps31
    go_wp2
    exact bodyPost_ret (v := ck { c with cpu := 0, b := 0 }) (by simp [results, Tryz.results31, go_sem]) rfl ⟨by rw [Hr.out], by repeat (first | exact Keeps.refl _ | refine Keeps.setCell ?_ (by simp) _ | refine Keeps.alloc ?_ _ | refine Keeps.drewN ?_ _)⟩
  cases c10 : (c.kind == 10)
  rotate_left
  · have Hr : Hid (cleanC c = { c with a := 0, b := 0 }) := by show _ = _; simp [cleanC, c1, c2, c3, c4, c5, c6, c7, c8, c9, c10]
    go_enter Tryz.func31, Tryz.ntmps31
    go_wp2
    exact bodyPost_ret (v := ck { c with a := 0, b := 0 }) (by simp [results, Tryz.results31, go_sem]) rfl ⟨by rw [Hr.out], by repeat (first | exact Keeps.refl _ | refine Keeps.setCell ?_ (by simp) _ | refine Keeps.alloc ?_ _ | refine Keeps.drewN ?_ _)⟩
  cases c11 : (c.kind == 11)
  rotate_left
  · have Hr : Hid (cleanC c = { c with no := 0, cpu := 0, b := 0 }) := by show _ = _; simp [cleanC, c1, c2, c3, c4, c5, c6, c7, c8, c9, c10, c11]
    go_enter Tryz.func31, Tryz.ntmps31
    go_wp2
    exact bodyPost_ret (v := ck { c with no := 0, cpu := 0, b := 0 }) (by simp [results, Tryz.results31, go_sem]) rfl ⟨by rw [Hr.out], by repeat (first | exact Keeps.refl _ | refine Keeps.setCell ?_ (by simp) _ | refine Keeps.alloc ?_ _ | refine Keeps.drewN ?_ _)⟩
  have Hr : Hid (cleanC c = c) := by show _ = _; simp [cleanC, c1, c2, c3, c4, c5, c6, c7, c8, c9, c10, c11]
  go_enter Tryz.func31, Tryz.ntmps31
  go_wp2
  exact bodyPost_ret (v := ck c) (by simp [results, Tryz.results31, go_sem]) rfl ⟨by rw [Hr.out], by repeat (first | exact Keeps.refl _ | refine Keeps.setCell ?_ (by simp) _ | refine Keeps.alloc ?_ _ | refine Keeps.drewN ?_ _)⟩
end Go.Proofs.YtpikopdfkhagmaaGreatDoor
namespace Go.Proofs.YtpikopdfkhagmaaGreatDoor
open Go.RowKit
attribute [local go_sem] Keeps.refl Keeps.alloc Keeps.drew Keeps.drewN
attribute [local go_sem high] run_eql_call

set_option maxRecDepth 100000 in
set_option maxHeartbeats 2000000 in
theorem specCallOk_any (c : Cl) (w : World) :
    Calls Tryz.prog 10 #[ck c] w fun e w' => e = .returned (.bool (callB c)) ∧ Keeps w w' := by
  have kW : Keeps w (w.alloc (.cells (cc c) 25)) := (Keeps.refl _).alloc _
  have r1 := blkR w (cc c) 25
  cases b : inB c.kind 1 11
  · have Hr : Hid (callB c = false) := by show _ = _; simp [callB, b]
    go_enter Tryz.func10, Tryz.ntmps10
    go_wp2_with fail
    generalize w.alloc (.cells (cc c) 25) = W at *
    refine wp_region_held_drew (S := (fun w' => Keeps W w')) (by kernel_rfl) ?_ (fun hHeld => ?_)
    · exact (Keeps.refl W).drew
    refine Plan.go [0, 1] ?_
    iterate 2 (refine takeL (by simp only [opsAt]; rfl) (by kernel_rfl) (by exact fun _ _ _ h => h) (by rfl) (by assumption) (fun w _ => by go_simp; try (with_reducible rfl)) ?_; try simp only [putAtH])
    refine Plan.nil ?_
    refine callH 2 (by kernel_rfl) (by simp only [opsAt]; rfl) (fun K hK => ?_)
    go_simp
    first
      | (go_at_call 29; refine (l1In_any _ _ _ _).mono ?_; rintro e w' ⟨rfl, hw1⟩; have hw2 := hw1.symm; subst hw2; rw [b])
      | (go_at_call 31; refine (l11Clean_any c _).mono ?_; rintro e w1 ⟨rfl, k1⟩)
    try go_wp2_with fail
    refine hK.out _ _ ?_ (fun hHeld => ?_)
    · first | assumption | exact Keeps.trans (by assumption) (by assumption)
    clear hK K
    try simp only [putAtH]
    refine takeH 3 (v := ?_) (by simp only [opsAt]; rfl) (by kernel_rfl) (by exact fun _ _ _ h => h) (by rfl) (by assumption) ?_ ?_
    rotate_left
    · (intro w _; go_simp; try (with_reducible rfl))
    try simp only [putAtH]
    refine Plan.go [4, 5, 6, 7] ?_
    iterate 4 (refine skipL (by simp only [opsAt]; rfl) (by kernel_rfl) (by exact fun _ _ _ h => h) (by rfl) (by assumption) ?_; try simp only [putAtH])
    refine Plan.nil ?_
    refine Plan.go [8, 9] ?_
    iterate 2 (refine takeL (by simp only [opsAt]; rfl) (by kernel_rfl) (by exact fun _ _ _ h => h) (by rfl) (by assumption) (fun w _ => by go_simp; try (with_reducible rfl)) ?_; try simp only [putAtH])
    refine Plan.nil ?_
    refine wpAnyH_done (by kernel_rfl) ?_ _
    go_wp2
    go_ret
    exact ⟨by rw [Hr.out]; rfl, kW.trans (by assumption)⟩
  · have Hr : Hid (callB c = eqC c (cleanC c)) := by show _ = _; simp [callB, b]
    go_enter Tryz.func10, Tryz.ntmps10
    go_wp2_with fail
    generalize w.alloc (.cells (cc c) 25) = W at *
    refine wp_region_held_drew (S := (fun w' => Keeps W w')) (by kernel_rfl) ?_ (fun hHeld => ?_)
    · exact (Keeps.refl W).drew
    refine Plan.go [0, 1] ?_
    iterate 2 (refine takeL (by simp only [opsAt]; rfl) (by kernel_rfl) (by exact fun _ _ _ h => h) (by rfl) (by assumption) (fun w _ => by go_simp; try (with_reducible rfl)) ?_; try simp only [putAtH])
    refine Plan.nil ?_
    refine callH 2 (by kernel_rfl) (by simp only [opsAt]; rfl) (fun K hK => ?_)
    go_simp
    first
      | (go_at_call 29; refine (l1In_any _ _ _ _).mono ?_; rintro e w' ⟨rfl, hw1⟩; have hw2 := hw1.symm; subst hw2; rw [b])
      | (go_at_call 31; refine (l11Clean_any c _).mono ?_; rintro e w1 ⟨rfl, k1⟩)
    try go_wp2_with fail
    refine hK.out _ _ ?_ (fun hHeld => ?_)
    · first | assumption | exact Keeps.trans (by assumption) (by assumption)
    clear hK K
    try simp only [putAtH]
    refine Plan.go [3, 4, 5] ?_
    iterate 3 (refine takeL (by simp only [opsAt]; rfl) (by kernel_rfl) (by exact fun _ _ _ h => h) (by rfl) (by assumption) (fun w _ => by go_simp; try (with_reducible rfl)) ?_; try simp only [putAtH])
    refine Plan.nil ?_
    refine callH 6 (by kernel_rfl) (by simp only [opsAt]; rfl) (fun K hK => ?_)
    go_simp
    first
      | (go_at_call 29; refine (l1In_any _ _ _ _).mono ?_; rintro e w' ⟨rfl, hw1⟩; have hw2 := hw1.symm; subst hw2; rw [b])
      | (go_at_call 31; refine (l11Clean_any c _).mono ?_; rintro e w1 ⟨rfl, k1⟩)
    try go_wp2_with fail
    refine hK.out _ _ ?_ (fun hHeld => ?_)
    · first | assumption | exact Keeps.trans (by assumption) (by assumption)
    clear hK K
    try simp only [putAtH]
    refine Plan.go [7, 8, 9] ?_
    iterate 3 (refine takeL (by simp only [opsAt]; rfl) (by kernel_rfl) (by exact fun _ _ _ h => h) (by rfl) (by assumption) (fun w _ => by go_simp; try (with_reducible rfl)) ?_; try simp only [putAtH])
    refine Plan.nil ?_
    refine wpAnyH_done (by kernel_rfl) ?_ _
    go_wp2
    go_ret
    exact ⟨by rw [Hr.out]; rfl, kW.trans (by assumption)⟩
def SaysCallOk : Prop := ∀ (c : Cl) (w : World), Calls Tryz.prog 9 #[ck c] w fun e w' => e = .returned (.bool (callB c)) ∧ Keeps w w'
end Go.Proofs.YtpikopdfkhagmaaGreatDoor
namespace Go.Proofs.YtpikopdfkhagmaaGreatDoor
open Go.RowKit
attribute [local go_sem] Keeps.refl Keeps.alloc Keeps.drew Keeps.drewN
attribute [local go_sem high] run_eql_call

set_option maxRecDepth 100000 in
set_option linter.unusedSimpArgs false in
set_option maxHeartbeats 4000000 in
theorem implCallOk_says : SaysCallOk := by
  intro c w
  cases c1 : (c.kind == 1)
  rotate_left
  · have Hr : Hid (callB c = true) := by
      show _ = _
      have hk : c.kind = 1 := by simpa using c1
      simp [callB, cleanC, eqC, inB, hk]
    go_enter Tryz.func9, Tryz.ntmps9
    go_wp2
    go_ret
    exact ⟨by rw [Hr.out]; rfl, (Keeps.refl w).alloc _⟩
  cases c2 : (c.kind == 2)
  rotate_left
  · have Hr : Hid (callB c = true) := by
      show _ = _
      have hk : c.kind = 2 := by simpa using c2
      simp [callB, cleanC, eqC, inB, hk]
    go_enter Tryz.func9, Tryz.ntmps9
    go_wp2
    go_ret
    exact ⟨by rw [Hr.out]; rfl, (Keeps.refl w).alloc _⟩
  cases c3 : (c.kind == 3)
  rotate_left
  · have Hr : Hid (callB c = eqC c ⟨c.kind, c.no, c.cpu, c.a, 0⟩) := by
      show _ = _
      have hk : c.kind = 3 := by simpa using c3
      simp [callB, cleanC, inB, hk]
    go_enter Tryz.func9, Tryz.ntmps9
    go_wp2
    all_goals go_ret
    all_goals exact ⟨by rw [Hr.out]; first | rfl | (simp_all [eqC, go_sem]; done), by repeat (first | exact Keeps.refl _ | refine Keeps.alloc ?_ _ | refine Keeps.drewN ?_ _ | refine Keeps.drew ?_)⟩
  cases c4 : (c.kind == 4)
  rotate_left
  · have Hr : Hid (callB c = eqC c ⟨c.kind, c.no, 0, 0, 0⟩) := by
      show _ = _
      have hk : c.kind = 4 := by simpa using c4
      simp [callB, cleanC, inB, hk]
    go_enter Tryz.func9, Tryz.ntmps9
    go_wp2
    all_goals go_ret
    all_goals exact ⟨by rw [Hr.out]; first | rfl | (simp_all [eqC, go_sem]; done), by repeat (first | exact Keeps.refl _ | refine Keeps.alloc ?_ _ | refine Keeps.drewN ?_ _ | refine Keeps.drew ?_)⟩
  cases c5 : (c.kind == 5)
  rotate_left
  · have Hr : Hid (callB c = eqC c ⟨c.kind, c.no, 0, 0, 0⟩) := by
      show _ = _
      have hk : c.kind = 5 := by simpa using c5
      simp [callB, cleanC, inB, hk]
    go_enter Tryz.func9, Tryz.ntmps9
    go_wp2
    all_goals go_ret
    all_goals exact ⟨by rw [Hr.out]; first | rfl | (simp_all [eqC, go_sem]; done), by repeat (first | exact Keeps.refl _ | refine Keeps.alloc ?_ _ | refine Keeps.drewN ?_ _ | refine Keeps.drew ?_)⟩
  cases c6 : (c.kind == 6)
  rotate_left
  · have Hr : Hid (callB c = eqC c ⟨c.kind, c.no, 0, 0, 0⟩) := by
      show _ = _
      have hk : c.kind = 6 := by simpa using c6
      simp [callB, cleanC, inB, hk]
    go_enter Tryz.func9, Tryz.ntmps9
    go_wp2
    all_goals go_ret
    all_goals exact ⟨by rw [Hr.out]; first | rfl | (simp_all [eqC, go_sem]; done), by repeat (first | exact Keeps.refl _ | refine Keeps.alloc ?_ _ | refine Keeps.drewN ?_ _ | refine Keeps.drew ?_)⟩
  cases c7 : (c.kind == 7)
  rotate_left
  · have Hr : Hid (callB c = eqC c ⟨c.kind, c.no, 0, c.a, 0⟩) := by
      show _ = _
      have hk : c.kind = 7 := by simpa using c7
      simp [callB, cleanC, inB, hk]
    go_enter Tryz.func9, Tryz.ntmps9
    go_wp2
    all_goals go_ret
    all_goals exact ⟨by rw [Hr.out]; first | rfl | (simp_all [eqC, go_sem]; done), by repeat (first | exact Keeps.refl _ | refine Keeps.alloc ?_ _ | refine Keeps.drewN ?_ _ | refine Keeps.drew ?_)⟩
  cases c8 : (c.kind == 8)
  rotate_left
  · have Hr : Hid (callB c = eqC c ⟨c.kind, c.no, 0, c.a, 0⟩) := by
      show _ = _
      have hk : c.kind = 8 := by simpa using c8
      simp [callB, cleanC, inB, hk]
    go_enter Tryz.func9, Tryz.ntmps9
    go_wp2
    all_goals go_ret
    all_goals exact ⟨by rw [Hr.out]; first | rfl | (simp_all [eqC, go_sem]; done), by repeat (first | exact Keeps.refl _ | refine Keeps.alloc ?_ _ | refine Keeps.drewN ?_ _ | refine Keeps.drew ?_)⟩
  cases c9 : (c.kind == 9)
  rotate_left
  · have Hr : Hid (callB c = eqC c ⟨c.kind, c.no, 0, c.a, 0⟩) := by
      show _ = _
      have hk : c.kind = 9 := by simpa using c9
      simp [callB, cleanC, inB, hk]
    go_enter Tryz.func9, Tryz.ntmps9
    go_wp2
    all_goals go_ret
    all_goals exact ⟨by rw [Hr.out]; first | rfl | (simp_all [eqC, go_sem]; done), by repeat (first | exact Keeps.refl _ | refine Keeps.alloc ?_ _ | refine Keeps.drewN ?_ _ | refine Keeps.drew ?_)⟩
  cases c10 : (c.kind == 10)
  rotate_left
  · have Hr : Hid (callB c = eqC c ⟨c.kind, c.no, c.cpu, 0, 0⟩) := by
      show _ = _
      have hk : c.kind = 10 := by simpa using c10
      simp [callB, cleanC, inB, hk]
    go_enter Tryz.func9, Tryz.ntmps9
    go_wp2
    all_goals go_ret
    all_goals exact ⟨by rw [Hr.out]; first | rfl | (simp_all [eqC, go_sem]; done), by repeat (first | exact Keeps.refl _ | refine Keeps.alloc ?_ _ | refine Keeps.drewN ?_ _ | refine Keeps.drew ?_)⟩
  cases c11 : (c.kind == 11)
  rotate_left
  · have Hr : Hid (callB c = eqC c ⟨c.kind, 0, 0, c.a, 0⟩) := by
      show _ = _
      have hk : c.kind = 11 := by simpa using c11
      simp [callB, cleanC, inB, hk]
    go_enter Tryz.func9, Tryz.ntmps9
    go_wp2
    all_goals go_ret
    all_goals exact ⟨by rw [Hr.out]; first | rfl | (simp_all [eqC, go_sem]; done), by repeat (first | exact Keeps.refl _ | refine Keeps.alloc ?_ _ | refine Keeps.drewN ?_ _ | refine Keeps.drew ?_)⟩
  have Hr : Hid (callB c = false) := by
    show _ = _
    simp only [beq_eq_false_iff_ne, ne_eq] at c1 c2 c3 c4 c5 c6 c7 c8 c9 c10 c11
    have : inB c.kind 1 11 = false := by
      simp [inB]
      omega
    simp [callB, this]
  go_enter Tryz.func9, Tryz.ntmps9
  go_wp2
  go_ret
  exact ⟨by rw [Hr.out]; rfl, (Keeps.refl w).alloc _⟩
end Go.Proofs.YtpikopdfkhagmaaGreatDoor
namespace Go.Proofs.YtpikopdfkhagmaaGreatDoor
open Go.RowKit
attribute [local go_sem] Keeps.refl Keeps.alloc Keeps.drew Keeps.drewN

set_option maxRecDepth 100000 in
set_option maxHeartbeats 2000000 in
theorem l14Word_any (k : Int) (w : World) (h : 1 ≤ k ∧ k ≤ 11) :
    Calls Tryz.prog 27 #[.int .i64 k] w fun e w' => e = .returned (strV (wordL k)) ∧ Keeps w w' := by
  have h2 : k = 1 ∨ k = 2 ∨ k = 3 ∨ k = 4 ∨ k = 5 ∨ k = 6 ∨ k = 7 ∨ k = 8 ∨ k = 9 ∨ k = 10 ∨ k = 11 := by omega
  rcases h2 with rfl | rfl | rfl | rfl | rfl | rfl | rfl | rfl | rfl | rfl | rfl <;>
  (go_enter Tryz.func27, Tryz.ntmps27) <;>
  go_wp2 <;>
  go_ret <;>
  exact ⟨rfl, (Keeps.refl _).alloc _⟩
theorem ns_second (w : World) (o : Obj) (xs : List Int) (t : TypeId) : Ns ((w.alloc o).alloc (.cells (xs.map (Value.int .i64)).toArray t)) (some ⟨w.heap.size + 1, 0, none⟩) xs := by
  refine .inr ⟨_, _, rfl, by simp, fun i x hx => ?_⟩
  have h := (Blk.new (w.alloc o) (xs.map (Value.int .i64)).toArray t).cells i
  simp only [World.size_alloc] at h
  rw [Nat.zero_add, h]
  simp [hx]
set_option maxRecDepth 100000 in
set_option maxHeartbeats 4000000 in
theorem l14Nums_any (c : Cl) (w : World) :
    Calls Tryz.prog 28 #[ck c] w fun e w' => ∃ b n, e = .returned (.slice (some ⟨b, 0, none⟩) n n) ∧ (numsL c).length = n ∧ Ns w' (some ⟨b, 0, none⟩) (numsL c) ∧ Keeps w w' := by
  cases c1 : (c.kind == 1)
  rotate_left
  · have HE : Hid (numsL c = [c.no, c.cpu, c.a, c.b]) := by show _ = _; simp [numsL, c1]
    go_enter Tryz.func28, Tryz.ntmps28
    go_wp2
    go_ret
    exact ⟨_, _, rfl, by rw [HE.out]; rfl, by rw [HE.out]; exact ns_second w (.cells (cc c) 25) [c.no, c.cpu, c.a, c.b] 3, ((Keeps.refl _).alloc _).alloc _⟩
  cases c2 : (c.kind == 2)
  rotate_left
  · have HE : Hid (numsL c = [c.no, c.cpu, c.a, c.b]) := by show _ = _; simp [numsL, c1, c2]
    go_enter Tryz.func28, Tryz.ntmps28
    go_wp2
    go_ret
    exact ⟨_, _, rfl, by rw [HE.out]; rfl, by rw [HE.out]; exact ns_second w (.cells (cc c) 25) [c.no, c.cpu, c.a, c.b] 3, ((Keeps.refl _).alloc _).alloc _⟩
  cases c3 : (c.kind == 3)
  rotate_left
  · have HE : Hid (numsL c = [c.no, c.cpu, c.a]) := by show _ = _; simp [numsL, c1, c2, c3]
    go_enter Tryz.func28, Tryz.ntmps28
    go_wp2
    go_ret
    exact ⟨_, _, rfl, by rw [HE.out]; rfl, by rw [HE.out]; exact ns_second w (.cells (cc c) 25) [c.no, c.cpu, c.a] 3, ((Keeps.refl _).alloc _).alloc _⟩
  cases c7 : (c.kind == 7)
  rotate_left
  · have HE : Hid (numsL c = [c.no, c.a]) := by show _ = _; simp [numsL, c1, c2, c3, c7]
    go_enter Tryz.func28, Tryz.ntmps28
    go_wp2
    go_ret
    exact ⟨_, _, rfl, by rw [HE.out]; rfl, by rw [HE.out]; exact ns_second w (.cells (cc c) 25) [c.no, c.a] 3, ((Keeps.refl _).alloc _).alloc _⟩
  cases c8 : (c.kind == 8)
  rotate_left
  · have HE : Hid (numsL c = [c.no, c.a]) := by show _ = _; simp [numsL, c1, c2, c3, c7, c8]
    go_enter Tryz.func28, Tryz.ntmps28
    go_wp2
    go_ret
    exact ⟨_, _, rfl, by rw [HE.out]; rfl, by rw [HE.out]; exact ns_second w (.cells (cc c) 25) [c.no, c.a] 3, ((Keeps.refl _).alloc _).alloc _⟩
  cases c9 : (c.kind == 9)
  rotate_left
  · have HE : Hid (numsL c = [c.no, c.a]) := by show _ = _; simp [numsL, c1, c2, c3, c7, c8, c9]
    go_enter Tryz.func28, Tryz.ntmps28
    go_wp2
    go_ret
    exact ⟨_, _, rfl, by rw [HE.out]; rfl, by rw [HE.out]; exact ns_second w (.cells (cc c) 25) [c.no, c.a] 3, ((Keeps.refl _).alloc _).alloc _⟩
  cases c10 : (c.kind == 10)
  rotate_left
  · have HE : Hid (numsL c = [c.no, c.cpu]) := by show _ = _; simp [numsL, c1, c2, c3, c7, c8, c9, c10]
    go_enter Tryz.func28, Tryz.ntmps28
    go_wp2
    go_ret
    exact ⟨_, _, rfl, by rw [HE.out]; rfl, by rw [HE.out]; exact ns_second w (.cells (cc c) 25) [c.no, c.cpu] 3, ((Keeps.refl _).alloc _).alloc _⟩
  cases c11 : (c.kind == 11)
  rotate_left
  · have HE : Hid (numsL c = [c.a]) := by show _ = _; simp [numsL, c1, c2, c3, c7, c8, c9, c10, c11]
    go_enter Tryz.func28, Tryz.ntmps28
    go_wp2
    go_ret
    exact ⟨_, _, rfl, by rw [HE.out]; rfl, by rw [HE.out]; exact ns_second w (.cells (cc c) 25) [c.a] 3, ((Keeps.refl _).alloc _).alloc _⟩
  have HE : Hid (numsL c = [c.no]) := by show _ = _; simp [numsL, c1, c2, c3, c7, c8, c9, c10, c11]
  go_enter Tryz.func28, Tryz.ntmps28
  go_wp2
  go_ret
  exact ⟨_, _, rfl, by rw [HE.out]; rfl, by rw [HE.out]; exact ns_second w (.cells (cc c) 25) [c.no] 3, ((Keeps.refl _).alloc _).alloc _⟩
theorem lineB_no {c : Cl} {k : Nat} (hk : k < (numsL c).length) (h : numOkB c k ((numsL c).getD k 0) = false) : lineB c = false ∧ lineL c = [] := by
  have e : lineB c = false := by unfold lineB; rw [firstsB_no h _ hk, Bool.and_false]
  exact ⟨e, by unfold lineL; rw [e]; rfl⟩
theorem Ns.getAt {w : World} {b : Nat} {xs : List Int} (h : Ns w (some ⟨b, 0, none⟩) xs) {k : Nat} {x : Int} (hx : xs[k]? = some x) : ∀ w', Keeps w w' → w'.cell? ⟨b, k, none⟩ = some (.int .i64 x) := by
  rcases h with rfl | ⟨b', off, e, _, h⟩
  · simp at hx
  · simp only [Option.some.injEq, Addr.mk.injEq] at e
    obtain ⟨rfl, rfl, -⟩ := e
    have := h k x hx
    rw [Nat.zero_add] at this
    exact Keeps.has this
set_option maxRecDepth 100000 in
set_option maxHeartbeats 4000000 in
theorem specCallLine_any (c : Cl) (w : World) :
    Calls Tryz.prog 8 #[ck c] w fun e w' => e = .returned (.tuple #[strV (lineL c), .bool (lineB c)]) ∧ Keeps w w' := by
  have kW := blkK w (.cells (cc c) 25)
  have hb := blkR w (cc c) 25
  go_enter Tryz.func8, Tryz.ntmps8
  go_wp2_with fail
  generalize w.alloc (.cells (cc c) 25) = W at *
  refine (specCallOk_any c W).mono ?_
  rintro e w1 ⟨rfl, k1⟩
  cases hcb : callB c
  · have H1 : Hid (lineB c = false ∧ lineL c = []) := by
      have e : lineB c = false := by unfold lineB; rw [hcb]; rfl
      exact ⟨e, by unfold lineL; rw [e]; rfl⟩
    go_wp2
    go_ret2
    exact ⟨by rw [H1.out.1, H1.out.2]; rfl, kW.trans k1⟩
  have hkd : 1 ≤ c.kind ∧ c.kind ≤ 11 := by
    unfold callB at hcb
    rw [Bool.and_eq_true] at hcb
    exact inB_iff.1 hcb.1
  have HF : Hid (lineB c = firstsB c (numsL c).length) := by show _ = _; unfold lineB; rw [hcb]; rfl
  have r1 := fun w' (k : Keeps w1 w') => hb w' (k1.trans k)
  obtain ⟨WD, HWD⟩ : ∃ x : List UInt8, Hid (wordL c.kind = x) := ⟨_, rfl⟩
  have hwl : WD.length ≤ 6 := by rw [← HWD.out]; exact wordL_length _
  have cW := l14Word_any c.kind w1 hkd
  rw [HWD.out] at cW
  clear hb hcb
  go_upto_region 4 with (go_at_call 27; refine cW.mono ?_; rintro e w2 ⟨rfl, k2⟩)
  have r2 := fun w' (k : Keeps w2 w') => r1 w' (k2.trans k)
  clear r1 cW
  go_upto_region 6 with (go_at_call 28; refine (l14Nums_any c _).mono ?_; rintro e w3 ⟨nb, n, rfl, hn, hns, k3⟩)
  have HN : Hid ((numsL c).length = n) := hn
  have HNs : Hid (Ns w3 (some ⟨nb, 0, none⟩) (numsL c)) := hns
  have hn4 : 1 ≤ n ∧ n ≤ 4 := by have := numsL_length c; omega
  have K3 : Hid (Keeps w w3) := ((kW.trans k1).trans k2).trans k3
  have r3 := fun w' (k : Keeps w3 w') => r2 w' (k3.trans k)
  clear r2 hn hns k3 k2 k1 kW
  go_loopw [4, 6] (fun o i wr => ∃ (k : Nat) (l : List UInt8), k ≤ n ∧ l.length ≤ 6 + 20 * k ∧ i = .int .i64 k ∧ o = strV l ∧ Hid (l = lineK c k) ∧ Hid (firstsB c k = true) ∧ Hid (Keeps w3 wr)) (fun _ i _ => n - (intOf i).toNat)
  case atStart => exact ⟨0, WD, Nat.zero_le _, by omega, rfl, rfl, HWD.out.symm, rfl, Keeps.refl _⟩
  case round =>
    obtain ⟨k, l, hk, hll, rfl, rfl, HE, HA, hK⟩ := hrel
    have r4 := fun w' (q : Keeps wr w') => r3 w' (hK.out.trans q)
    clear r3
    by_cases hlt : k < n
    · obtain ⟨x, hx⟩ := some_in (xs := numsL c) (k := k) (by rw [HN.out]; exact hlt)
      have hc0 : ∀ w', Keeps wr w' → w'.cell? ⟨nb, k, none⟩ = some (.int .i64 x) := fun w' q => (HNs.out.getAt hx) w' (hK.out.trans q)
      have hgx : (numsL c).getD k 0 = x := by rw [List.getD_eq_getElem?_getD, hx]; rfl
      have hlt' : (k : Int) < (n : Int) := by omega
      obtain ⟨LB, HLB⟩ : ∃ b, Hid (((c.kind == 3 || c.kind == 9) && decide (k + 1 = n)) = b) := ⟨_, rfl⟩
      have HLI : Hid (leastI c k = if LB then -9 else 0) := by show _ = _; unfold leastI; rw [HN.out, HLB.out]
      go_upto_region 9 with fail
      go_cut [36] (fun v wx => v = .bool LB ∧ wx = wr)
      case first =>
        cases c3 : (c.kind == 3)
        · cases c9 : (c.kind == 9)
          · obtain rfl : LB = false := by rw [← HLB.out, c3, c9]; rfl
            go_wp2
            go_meet
            exact ⟨rfl, rfl⟩
          · by_cases hl : k + 1 = n
            · obtain rfl : LB = true := by rw [← HLB.out, c3, c9]; simp [hl]
              have he : ((k : Int) == (n : Int) - 1) = true := by simp; omega
              go_wp2
              go_meet
              exact ⟨rfl, rfl⟩
            · obtain rfl : LB = false := by rw [← HLB.out, c3, c9]; simp [hl]
              have he : ((k : Int) == (n : Int) - 1) = false := by simp; omega
              go_wp2
              go_meet
              exact ⟨rfl, rfl⟩
        · by_cases hl : k + 1 = n
          · obtain rfl : LB = true := by rw [← HLB.out, c3]; simp [hl]
            have he : ((k : Int) == (n : Int) - 1) = true := by simp; omega
            go_wp2
            go_meet
            exact ⟨rfl, rfl⟩
          · obtain rfl : LB = false := by rw [← HLB.out, c3]; simp [hl]
            have he : ((k : Int) == (n : Int) - 1) = false := by simp; omega
            go_wp2
            go_meet
            exact ⟨rfl, rfl⟩
      case rest =>
      obtain ⟨rfl, rfl⟩ := hcut
      obtain ⟨ok, Hok⟩ : ∃ b, Hid (inB x (leastI c k) 9999999 = b) := ⟨_, rfl⟩
      have cI : ∀ W, Calls Tryz.prog 29 #[.int .i64 x, .int .i64 (leastI c k), .int .i64 9999999] W fun e w' => e = .returned (.bool ok) ∧ w' = W := fun W => by have := l1In_any x (leastI c k) 9999999 W; rw [Hok.out] at this; exact this
      have hleast : leastI c k = -9 ∨ leastI c k = 0 := by rw [HLI.out]; cases LB <;> simp
      rw [HLI.out] at cI
      cases ok
      · have H2 : Hid (lineB c = false ∧ lineL c = []) := lineB_no (by rw [HN.out]; exact hlt) (by unfold numOkB; rw [hgx]; exact Hok.out)
        cases LB
        · simp only [Bool.false_eq_true, if_false] at cI
          go_wp2_with (go_at_call 29; refine (cI _).mono ?_; rintro e w' ⟨rfl, hw'⟩; have hw2 := hw'.symm; subst hw2)
          go_ret2
          exact ⟨by rw [H2.out.1, H2.out.2]; rfl, K3.out.trans hK.out⟩
        · simp only [if_true] at cI
          go_wp2_with (go_at_call 29; refine (cI _).mono ?_; rintro e w' ⟨rfl, hw'⟩; have hw2 := hw'.symm; subst hw2)
          go_ret2
          exact ⟨by rw [H2.out.1, H2.out.2]; rfl, K3.out.trans hK.out⟩
      · have hin := inB_iff.1 Hok.out
        have HA2 : Hid (firstsB c (k + 1) = true) := by show (firstsB c k && _) = true; rw [HA.out]; unfold numOkB; rw [hgx]; exact Hok.out
        obtain ⟨NX, HNX⟩ : ∃ y : List UInt8, Hid (numL x = y) := ⟨_, rfl⟩
        have bnx : NX.length ≤ 9 := by rw [← HNX.out]; exact numL_length (by omega) (by omega)
        have cN : ∀ W, Calls Tryz.prog 30 #[.int .i64 x] W fun e w' => e = .returned (strV NX) ∧ Keeps W w' := fun W => by rw [← HNX.out]; exact l14Num_any _ W (by omega) (by omega)
        obtain ⟨P1, hP1⟩ : ∃ y : List UInt8, l ++ [32] = y := ⟨_, rfl⟩
        have HP1 : Hid (l ++ [32] = P1) := hP1
        clear hP1
        have p1 : P1.length ≤ 7 + 20 * k := by rw [← HP1.out]; simp; omega
        obtain ⟨P2, HP2⟩ : ∃ y : List UInt8, Hid (P1 ++ NX = y) := ⟨_, rfl⟩
        have p2 : P2.length ≤ 16 + 20 * k := by rw [← HP2.out]; simp; omega
        have a1 : ∀ W : World, (Op.stringOp .add ⟨l.toArray⟩ ⟨#[32]⟩).run Tryz.prog W = .ok (strV P1) W := fun W => by rw [show (#[32] : Array UInt8) = [32].toArray from rfl, run_addStr W _ _ (by omega) (by simp), HP1.out]
        have a2 : ∀ W : World, (Op.stringOp .add ⟨P1.toArray⟩ ⟨NX.toArray⟩).run Tryz.prog W = .ok (strV P2) W := fun W => by rw [run_addStr W _ _ (by omega) (by omega), HP2.out]
        have HE2 : Hid (P2 = lineK c (k + 1)) := by show P2 = lineK c k ++ [32] ++ numL ((numsL c).getD k 0); rw [hgx, ← HE.out, HP1.out, HNX.out, HP2.out]
        clear HE HP1 HP2 HNX hx hgx
        cases LB
        · simp only [Bool.false_eq_true, if_false] at cI
          go_wp2_with (first
            | (go_at_call 29; refine (cI _).mono ?_; rintro e w' ⟨rfl, hw'⟩; have hw2 := hw'.symm; subst hw2)
            | (go_at_call 30; refine (cN _).mono ?_; rintro e w5 ⟨rfl, k5⟩))
          exact ⟨⟨k + 1, P2, by omega, by omega, by go_num, rfl, HE2, HA2, hK.out.trans k5⟩, by simp only [intOf]; omega⟩
        · simp only [if_true] at cI
          go_wp2_with (first
            | (go_at_call 29; refine (cI _).mono ?_; rintro e w' ⟨rfl, hw'⟩; have hw2 := hw'.symm; subst hw2)
            | (go_at_call 30; refine (cN _).mono ?_; rintro e w5 ⟨rfl, k5⟩))
          exact ⟨⟨k + 1, P2, by omega, by omega, by go_num, rfl, HE2, HA2, hK.out.trans k5⟩, by simp only [intOf]; omega⟩
    · have hlt' : decide ((k : Int) < (n : Int)) = false := by simp; omega
      have HR : Hid (lineB c = true ∧ lineL c = l) := by
        have e : lineB c = true := by rw [HF.out, HN.out, show n = k from by omega]; exact HA.out
        refine ⟨e, ?_⟩
        unfold lineL
        rw [e, HN.out, show n = k from by omega]
        exact HE.out.symm
      go_wp2
      go_ret2
      exact ⟨by rw [HR.out.1, HR.out.2]; rfl, K3.out.trans hK.out⟩
end Go.Proofs.YtpikopdfkhagmaaGreatDoor
