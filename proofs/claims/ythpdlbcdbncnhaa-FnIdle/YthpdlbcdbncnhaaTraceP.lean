/-
  A trace as a plain list: what was used and what was idle are all its turns.
-/
import Derived.Test.YthpdlbcdbncnhaaGPure2
namespace Go.Proofs.Ythpdlbcdbncnhaa
open Go.RowKit

def usedP (no : Int) (t : Tn) : Bool := decide (0 < no) && t.ctx == no
def tookP (no : Int) (t : Tn) : Bool := decide (0 < no) && t.exe == no
def idleP (cpu : Int) (t : Tn) : Bool := t.cpu == cpu && t.ctx == 0
def ctxP (no : Int) (t : Tn) : Bool := t.ctx == no
def usedN (l : List Tn) (no : Int) : Nat := l.countP (usedP no)
def tookN (l : List Tn) (no : Int) : Nat := l.countP (tookP no)
def idleN (l : List Tn) (cpu : Int) : Nat := l.countP (idleP cpu)
/-- Over the first k processors; over the first k numbers. -/
def idles (l : List Tn) : Nat → Nat
  | 0 => 0
  | k + 1 => idles l k + idleN l k
def useds (l : List Tn) : Nat → Nat
  | 0 => 0
  | k + 1 => useds l k + usedN l ((k : Int) + 1)
def turnIn (t : Tn) : Prop := (0 ≤ t.cpu ∧ t.cpu < 4) ∧ 0 ≤ t.ctx ∧ t.ctx ≤ 40
theorem countP_two {α : Type} (p q r : α → Bool) : ∀ l : List α, (∀ x ∈ l, (p x = true ↔ (q x = true ∨ r x = true)) ∧ ¬ (q x = true ∧ r x = true)) → l.countP p = l.countP q + l.countP r
  | [], _ => rfl
  | x :: l, h => by
    have h1 := h x (by simp)
    have h2 := countP_two p q r l (fun y hy => h y (by simp [hy]))
    rw [List.countP_cons, List.countP_cons, List.countP_cons, h2]
    cases hq : q x <;> cases hr : r x <;> cases hp : p x <;> simp_all <;> omega
def usedTo (k : Int) (t : Tn) : Bool := decide (0 < t.ctx) && decide (t.ctx ≤ k)
def idleTo (k : Int) (t : Tn) : Bool := (decide (0 ≤ t.cpu) && decide (t.cpu < k)) && t.ctx == 0
theorem useds_eq (l : List Tn) : ∀ k : Nat, useds l k = l.countP (usedTo k)
  | 0 => by
    symm
    show l.countP (usedTo 0) = 0
    rw [List.countP_eq_zero]
    intro t _
    simp only [usedTo, Bool.and_eq_true, decide_eq_true_eq]
    omega
  | k + 1 => by
    show useds l k + usedN l ((k : Int) + 1) = _
    rw [useds_eq l k]
    symm
    refine countP_two _ _ _ l fun t _ => ?_
    simp only [usedTo, usedP, Bool.and_eq_true, decide_eq_true_eq, beq_iff_eq]
    omega
theorem idles_eq (l : List Tn) : ∀ k : Nat, idles l k = l.countP (idleTo k)
  | 0 => by
    symm
    show l.countP (idleTo 0) = 0
    rw [List.countP_eq_zero]
    intro t _
    simp only [idleTo, Bool.and_eq_true, decide_eq_true_eq]
    omega
  | k + 1 => by
    show idles l k + idleN l k = _
    rw [idles_eq l k]
    symm
    refine countP_two _ _ _ l fun t _ => ?_
    simp only [idleTo, idleP, Bool.and_eq_true, decide_eq_true_eq, beq_iff_eq]
    omega
/-- What was idle and what was used are all turns. -/
theorem all_turns {l : List Tn} (h : ∀ t ∈ l, turnIn t) : idles l 4 + useds l 40 = l.length := by
  rw [idles_eq, useds_eq]
  have h1 := countP_two (fun _ => true) (idleTo ((4 : Nat) : Int)) (usedTo ((40 : Nat) : Int)) l fun t ht => by
    obtain ⟨⟨h1, h2⟩, h3, h4⟩ := h t ht
    simp only [idleTo, usedTo, Bool.and_eq_true, decide_eq_true_eq, beq_iff_eq, true_iff]
    omega
  rw [← h1, List.countP_true]
def onP (cpu : Int) (t : Tn) : Bool := t.cpu == cpu
def mineL (l : List Tn) (cpu : Int) : List Tn := l.filter (onP cpu)
theorem idle_mine (l : List Tn) (cpu : Int) : idleN (mineL l cpu) cpu = idleN l cpu := by
  unfold idleN mineL
  rw [List.countP_filter]
  congr 1
  funext t
  unfold idleP onP
  cases t.cpu == cpu <;> simp
/-- The same of one processor. -/
theorem mine_turns {l : List Tn} (h : ∀ t ∈ l, turnIn t) (cpu : Int) : idleN l cpu + useds (mineL l cpu) 40 = (mineL l cpu).length := by
  rw [← idle_mine, useds_eq]
  unfold idleN
  have h1 := countP_two (fun _ => true) (idleP cpu) (usedTo ((40 : Nat) : Int)) (mineL l cpu) fun t ht => by
    obtain ⟨h0, hc⟩ := List.mem_filter.1 ht
    obtain ⟨_, h3, h4⟩ := h t h0
    simp only [onP, beq_iff_eq] at hc
    simp only [idleP, usedTo, Bool.and_eq_true, decide_eq_true_eq, beq_iff_eq, true_iff]
    omega
  rw [← h1, List.countP_true]
theorem used_ctx (l : List Tn) {no : Int} (h : 0 < no) : usedN l no = l.countP (ctxP no) := by
  unfold usedN
  congr 1
  funext t
  simp [usedP, ctxP, h]
theorem used_le (l : List Tn) (no : Int) : usedN l no ≤ l.length := List.countP_le_length
theorem used_none (l : List Tn) {no : Int} (h : no ≤ 0) : usedN l no = 0 ∧ tookN l no = 0 := by
  unfold usedN tookN
  rw [List.countP_eq_zero, List.countP_eq_zero]
  refine ⟨fun t _ => ?_, fun t _ => ?_⟩ <;> simp only [usedP, tookP, Bool.and_eq_true, decide_eq_true_eq] <;> omega

end Go.Proofs.Ythpdlbcdbncnhaa
