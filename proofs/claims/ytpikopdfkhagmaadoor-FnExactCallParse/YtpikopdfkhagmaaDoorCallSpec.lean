/-
  Calls: what a kind names, and which calls are right.
-/
import Derived.Test.YtpikopdfkhagmaaDoorSysPure2
import Derived.Test.YtpikopdfkhagmaaDoorPutC
import Derived.Test.YtpikopdfkhagmaaDoorIn
import Derived.Laws.StructEq
namespace Go.Proofs.YtpikopdfkhagmaaDoor
open Go.RowKit
attribute [local go_sem] Keeps.refl Keeps.alloc Keeps.drew Keeps.drewN

abbrev cc (c : Cl) : Array Value := #[.int .i64 c.kind, .int .i64 c.no, .int .i64 c.cpu, .int .i64 c.a, .int .i64 c.b]
abbrev ck (c : Cl) : Value := .agg (cc c)
set_option maxRecDepth 100000 in
theorem toCall_any (c : Cl) (w : World) :
    Calls Tryd.prog 7 #[ck c] w fun e w' => e = .returned (ck c) ∧ Keeps w w' := by
  go_enter Tryd.func7, Tryd.ntmps7
  go_wp2
  exact bodyPost_ret (v := ck c) (by simp [results, Tryd.results7, go_sem]) rfl ⟨rfl, by repeat (first | exact Keeps.refl _ | refine Keeps.alloc ?_ _ | refine Keeps.drewN ?_ _ | refine Keeps.trans ?_ (by assumption))⟩
set_option maxRecDepth 100000 in
theorem run_eqlIn_call (d : Nat) (w : World) (a b : Cl) : (Op.equalIn (d + 2) 26 (ck a) (ck b)).run Tryd.prog w = .ok (eqC a b) w := by
  obtain ⟨a0, a1, a2, a3, a4⟩ := a
  obtain ⟨b0, b1, b2, b3, b4⟩ := b
  simp only [eqC]
  rw [run_equalIn_agg _ _ _ _ _ (by kernel_rfl) (by kernel_rfl)]
  go_simp
  by_cases h0 : a0 = b0
  case neg => simp only [if_neg h0, beq_eq_false_iff_ne.2 h0, Bool.false_and]
  simp only [if_pos h0, beq_iff_eq.2 h0, Bool.true_and]
  by_cases h1 : a1 = b1
  case neg => simp only [if_neg h1, beq_eq_false_iff_ne.2 h1, Bool.false_and]
  simp only [if_pos h1, beq_iff_eq.2 h1, Bool.true_and]
  by_cases h2 : a2 = b2
  case neg => simp only [if_neg h2, beq_eq_false_iff_ne.2 h2, Bool.false_and]
  simp only [if_pos h2, beq_iff_eq.2 h2, Bool.true_and]
  by_cases h3 : a3 = b3
  case neg => simp only [if_neg h3, beq_eq_false_iff_ne.2 h3, Bool.false_and]
  simp only [if_pos h3, beq_iff_eq.2 h3, Bool.true_and]
  by_cases h4 : a4 = b4
  case neg => simp only [if_neg h4, beq_eq_false_iff_ne.2 h4]
  simp only [if_pos h4, beq_iff_eq.2 h4]
set_option maxRecDepth 100000 in
theorem run_eql_call (w : World) (a b : Cl) : (binOp .eql 26 (ck a) (ck b)).run Tryd.prog w = .ok (.bool (eqC a b)) w := by
  rw [run_eql_struct, run_eqlIn_call 9998]; rfl
set_option maxRecDepth 100000 in
set_option maxHeartbeats 4000000 in
theorem l11Clean_any (c : Cl) (w : World) :
    Calls Tryd.prog 38 #[ck c] w fun e w' => e = .returned (ck (cleanC c)) ∧ Keeps w w' := by
  cases c1 : (c.kind == 1)
  rotate_left
  · have Hr : Hid (cleanC c = c) := by show _ = _; simp [cleanC, c1]
    go_enter Tryd.func38, Tryd.ntmps38
    go_wp2
    exact bodyPost_ret (v := ck c) (by simp [results, Tryd.results38, go_sem]) rfl ⟨by rw [Hr.out], by repeat (first | exact Keeps.refl _ | refine Keeps.setCell ?_ (by simp) _ | refine Keeps.alloc ?_ _ | refine Keeps.drewN ?_ _)⟩
  cases c2 : (c.kind == 2)
  rotate_left
  · have Hr : Hid (cleanC c = c) := by show _ = _; simp [cleanC, c1, c2]
    go_enter Tryd.func38, Tryd.ntmps38
    go_wp2
    exact bodyPost_ret (v := ck c) (by simp [results, Tryd.results38, go_sem]) rfl ⟨by rw [Hr.out], by repeat (first | exact Keeps.refl _ | refine Keeps.setCell ?_ (by simp) _ | refine Keeps.alloc ?_ _ | refine Keeps.drewN ?_ _)⟩
  cases c3 : (c.kind == 3)
  rotate_left
  · have Hr : Hid (cleanC c = { c with b := 0 }) := by show _ = _; simp [cleanC, c1, c2, c3]
    go_enter Tryd.func38, Tryd.ntmps38
    go_wp2
    exact bodyPost_ret (v := ck { c with b := 0 }) (by simp [results, Tryd.results38, go_sem]) rfl ⟨by rw [Hr.out], by repeat (first | exact Keeps.refl _ | refine Keeps.setCell ?_ (by simp) _ | refine Keeps.alloc ?_ _ | refine Keeps.drewN ?_ _)⟩
  cases c4 : (c.kind == 4)
  rotate_left
  · have Hr : Hid (cleanC c = { c with cpu := 0, a := 0, b := 0 }) := by show _ = _; simp [cleanC, c1, c2, c3, c4]
    go_enter Tryd.func38, Tryd.ntmps38
    go_wp2
    exact bodyPost_ret (v := ck { c with cpu := 0, a := 0, b := 0 }) (by simp [results, Tryd.results38, go_sem]) rfl ⟨by rw [Hr.out], by repeat (first | exact Keeps.refl _ | refine Keeps.setCell ?_ (by simp) _ | refine Keeps.alloc ?_ _ | refine Keeps.drewN ?_ _)⟩
  cases c5 : (c.kind == 5)
  rotate_left
  · have Hr : Hid (cleanC c = { c with cpu := 0, a := 0, b := 0 }) := by show _ = _; simp [cleanC, c1, c2, c3, c4, c5]
    go_enter Tryd.func38, Tryd.ntmps38
    go_wp2
    exact bodyPost_ret (v := ck { c with cpu := 0, a := 0, b := 0 }) (by simp [results, Tryd.results38, go_sem]) rfl ⟨by rw [Hr.out], by repeat (first | exact Keeps.refl _ | refine Keeps.setCell ?_ (by simp) _ | refine Keeps.alloc ?_ _ | refine Keeps.drewN ?_ _)⟩
  cases c6 : (c.kind == 6)
  rotate_left
  · have Hr : Hid (cleanC c = { c with cpu := 0, a := 0, b := 0 }) := by show _ = _; simp [cleanC, c1, c2, c3, c4, c5, c6]
    go_enter Tryd.func38, Tryd.ntmps38
    go_wp2
    exact bodyPost_ret (v := ck { c with cpu := 0, a := 0, b := 0 }) (by simp [results, Tryd.results38, go_sem]) rfl ⟨by rw [Hr.out], by repeat (first | exact Keeps.refl _ | refine Keeps.setCell ?_ (by simp) _ | refine Keeps.alloc ?_ _ | refine Keeps.drewN ?_ _)⟩
  cases c7 : (c.kind == 7)
  rotate_left
  · have Hr : Hid (cleanC c = { c with cpu := 0, b := 0 }) := by show _ = _; simp [cleanC, c1, c2, c3, c4, c5, c6, c7]
    go_enter Tryd.func38, Tryd.ntmps38
    go_wp2
    exact bodyPost_ret (v := ck { c with cpu := 0, b := 0 }) (by simp [results, Tryd.results38, go_sem]) rfl ⟨by rw [Hr.out], by repeat (first | exact Keeps.refl _ | refine Keeps.setCell ?_ (by simp) _ | refine Keeps.alloc ?_ _ | refine Keeps.drewN ?_ _)⟩
  cases c8 : (c.kind == 8)
  rotate_left
  · have Hr : Hid (cleanC c = { c with cpu := 0, b := 0 }) := by show _ = _; simp [cleanC, c1, c2, c3, c4, c5, c6, c7, c8]
    go_enter Tryd.func38, Tryd.ntmps38
    go_wp2
    exact bodyPost_ret (v := ck { c with cpu := 0, b := 0 }) (by simp [results, Tryd.results38, go_sem]) rfl ⟨by rw [Hr.out], by repeat (first | exact Keeps.refl _ | refine Keeps.setCell ?_ (by simp) _ | refine Keeps.alloc ?_ _ | refine Keeps.drewN ?_ _)⟩
  cases c9 : (c.kind == 9)
  rotate_left
  · have Hr : Hid (cleanC c = { c with cpu := 0, b := 0 }) := by show _ = _; simp [cleanC, c1, c2, c3, c4, c5, c6, c7, c8, c9]
    go_enter Tryd.func38, Tryd.ntmps38
    go_wp2
    exact bodyPost_ret (v := ck { c with cpu := 0, b := 0 }) (by simp [results, Tryd.results38, go_sem]) rfl ⟨by rw [Hr.out], by repeat (first | exact Keeps.refl _ | refine Keeps.setCell ?_ (by simp) _ | refine Keeps.alloc ?_ _ | refine Keeps.drewN ?_ _)⟩
  cases c10 : (c.kind == 10)
  rotate_left
  · have Hr : Hid (cleanC c = { c with a := 0, b := 0 }) := by show _ = _; simp [cleanC, c1, c2, c3, c4, c5, c6, c7, c8, c9, c10]
    go_enter Tryd.func38, Tryd.ntmps38
    go_wp2
    exact bodyPost_ret (v := ck { c with a := 0, b := 0 }) (by simp [results, Tryd.results38, go_sem]) rfl ⟨by rw [Hr.out], by repeat (first | exact Keeps.refl _ | refine Keeps.setCell ?_ (by simp) _ | refine Keeps.alloc ?_ _ | refine Keeps.drewN ?_ _)⟩
  cases c11 : (c.kind == 11)
  rotate_left
  · have Hr : Hid (cleanC c = { c with no := 0, cpu := 0, b := 0 }) := by show _ = _; simp [cleanC, c1, c2, c3, c4, c5, c6, c7, c8, c9, c10, c11]
    go_enter Tryd.func38, Tryd.ntmps38
    go_wp2
    exact bodyPost_ret (v := ck { c with no := 0, cpu := 0, b := 0 }) (by simp [results, Tryd.results38, go_sem]) rfl ⟨by rw [Hr.out], by repeat (first | exact Keeps.refl _ | refine Keeps.setCell ?_ (by simp) _ | refine Keeps.alloc ?_ _ | refine Keeps.drewN ?_ _)⟩
  have Hr : Hid (cleanC c = c) := by show _ = _; simp [cleanC, c1, c2, c3, c4, c5, c6, c7, c8, c9, c10, c11]
  go_enter Tryd.func38, Tryd.ntmps38
  go_wp2
  exact bodyPost_ret (v := ck c) (by simp [results, Tryd.results38, go_sem]) rfl ⟨by rw [Hr.out], by repeat (first | exact Keeps.refl _ | refine Keeps.setCell ?_ (by simp) _ | refine Keeps.alloc ?_ _ | refine Keeps.drewN ?_ _)⟩
end Go.Proofs.YtpikopdfkhagmaaDoor
