/-
  Two tasks are held against each other as a whole.
-/
import Derived.Test.YtdndgacaohmdnaaTaskBase
import Derived.Laws.StructEq
namespace Go.Proofs.Ytdndgacaohmdnaa
open Go.RowKit

theorem run_eqlIn_task (d : Nat) (w : World) (a b : Tsk) : (Op.equalIn (d + 2) 25 (tk a) (tk b)).run Try.prog w = .ok (eqT a b) w := by
  obtain ⟨a0, a1, a2, a3, a4, a5, a6, a7, a8, a9, a10, a11, a12, a13⟩ := a
  obtain ⟨b0, b1, b2, b3, b4, b5, b6, b7, b8, b9, b10, b11, b12, b13⟩ := b
  simp only [eqT]
  rw [run_equalIn_agg _ _ _ _ _ (by kernel_rfl) (by kernel_rfl)]
  go_simp
  by_cases h0 : a0 = b0
  case neg => simp only [if_neg h0, beq_eq_false_iff_ne.2 h0, Bool.false_and]
  simp only [if_pos h0, beq_iff_eq.2 h0, Bool.true_and]
  by_cases h1 : a1 = b1
  case neg => simp only [if_neg h1, beq_eq_false_iff_ne.2 h1, Bool.false_and]
  simp only [if_pos h1, beq_iff_eq.2 h1, Bool.true_and]
  by_cases h2 : a2 = b2
  case neg => simp only [if_neg h2, beq_eq_false_iff_ne.2 h2, Bool.false_and]
  simp only [if_pos h2, beq_iff_eq.2 h2, Bool.true_and]
  by_cases h3 : a3 = b3
  case neg => simp only [if_neg h3, beq_eq_false_iff_ne.2 h3, Bool.false_and]
  simp only [if_pos h3, beq_iff_eq.2 h3, Bool.true_and]
  by_cases h4 : a4 = b4
  case neg => simp only [if_neg h4, beq_eq_false_iff_ne.2 h4, Bool.false_and]
  simp only [if_pos h4, beq_iff_eq.2 h4, Bool.true_and]
  by_cases h5 : a5 = b5
  case neg => simp only [if_neg h5, beq_eq_false_iff_ne.2 h5, Bool.false_and]
  simp only [if_pos h5, beq_iff_eq.2 h5, Bool.true_and]
  by_cases h6 : a6 = b6
  case neg => simp only [if_neg h6, beq_eq_false_iff_ne.2 h6, Bool.false_and]
  simp only [if_pos h6, beq_iff_eq.2 h6, Bool.true_and]
  by_cases h7 : a7 = b7
  case neg => simp only [if_neg h7, beq_eq_false_iff_ne.2 h7, Bool.false_and]
  simp only [if_pos h7, beq_iff_eq.2 h7, Bool.true_and]
  by_cases h8 : a8 = b8
  case neg => simp only [if_neg h8, beq_eq_false_iff_ne.2 h8, Bool.false_and]
  simp only [if_pos h8, beq_iff_eq.2 h8, Bool.true_and]
  by_cases h9 : a9 = b9
  case neg => simp only [if_neg h9, beq_eq_false_iff_ne.2 h9, Bool.false_and]
  simp only [if_pos h9, beq_iff_eq.2 h9, Bool.true_and]
  by_cases h10 : a10 = b10
  case neg => simp only [if_neg h10, beq_eq_false_iff_ne.2 h10, Bool.false_and]
  simp only [if_pos h10, beq_iff_eq.2 h10, Bool.true_and]
  by_cases h11 : a11 = b11
  case neg => simp only [if_neg h11, beq_eq_false_iff_ne.2 h11, Bool.false_and]
  simp only [if_pos h11, beq_iff_eq.2 h11, Bool.true_and]
  by_cases h12 : a12 = b12
  case neg => simp only [if_neg h12, beq_eq_false_iff_ne.2 h12, Bool.false_and]
  simp only [if_pos h12, beq_iff_eq.2 h12, Bool.true_and]
  by_cases h13 : a13 = b13
  case neg => simp only [if_neg h13, beq_eq_false_iff_ne.2 h13]
  simp only [if_pos h13, beq_iff_eq.2 h13]

theorem run_eql_task (w : World) (a b : Tsk) : (binOp .eql 25 (tk a) (tk b)).run Try.prog w = .ok (.bool (eqT a b)) w := by
  rw [run_eql_struct, run_eqlIn_task 9998]; rfl
theorem run_neq_task (w : World) (a b : Tsk) : (binOp .neq 25 (tk a) (tk b)).run Try.prog w = .ok (.bool (!eqT a b)) w := by
  rw [run_neq_struct, run_eqlIn_task 9998]; rfl
end Go.Proofs.Ytdndgacaohmdnaa
