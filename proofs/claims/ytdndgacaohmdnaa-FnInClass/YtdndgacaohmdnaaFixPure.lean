/-
  Fixed priorities, as plain functions, and what holds of them.
-/
import Derived.Test.YtdndgacaohmdnaaTaskSpec
namespace Go.Proofs.Ytdndgacaohmdnaa
open Go.RowKit

/-- It is a task of a fixed priority. -/
def fixB (t : Tsk) : Bool := taskB t && t.cls == 2
def fixBefB (a b : Tsk) : Bool := fixB a && fixB b && (if a.prio != b.prio then decide (b.prio < a.prio) else if a.seq != b.seq then decide (a.seq < b.seq) else decide (a.no < b.no))
/-- It goes behind. -/
def turnB (t : Tsk) (seq : Int) : Bool := fixB t && !(t.round == 0) && !decide (1 < t.left) && inB seq 0 1000000
/-- What it is then. -/
def fixSpendT (t : Tsk) (seq : Int) : Tsk := if fixB t && !(t.round == 0) then (if decide (1 < t.left) then { t with left := t.left - 1 } else if inB seq 0 1000000 then { t with left := t.round, seq := seq } else t) else t

/-- What such a task holds. -/
structure IsFix (t : Tsk) : Prop where
  cls : t.cls = 2
  no : 1 ≤ t.no ∧ t.no ≤ 1000
  cpu : 0 ≤ t.cpu ∧ t.cpu ≤ 3
  st : 1 ≤ t.st ∧ t.st ≤ 2
  prio : 1 ≤ t.prio ∧ t.prio ≤ 20
  round : 0 ≤ t.round ∧ t.round ≤ 10
  left : min t.round 1 ≤ t.left ∧ t.left ≤ t.round
  seq : 0 ≤ t.seq ∧ t.seq ≤ 1000000
  none : t.q = 0 ∧ t.p = 0 ∧ t.due = 0 ∧ t.nice = 0 ∧ t.v = 0
theorem fixB_iff (t : Tsk) : fixB t = true ↔ IsFix t := by
  constructor
  · intro h
    simp only [fixB, Bool.and_eq_true, beq_iff_eq] at h
    obtain ⟨h1, h2⟩ := h
    simp [taskB, cleanB, ofClassB, h2, dueZ, fairZ, inB_iff] at h1
    obtain ⟨⟨⟨⟨hno, hcpu⟩, hst⟩, hz⟩, ⟨⟨hp, hr⟩, hl⟩, hs⟩ := h1
    exact ⟨h2, by omega, by omega, by omega, by omega, by omega, by omega, by omega, by omega, by omega, by omega, by omega, by omega⟩
  · rintro ⟨h2, hno, hcpu, hst, hp, hr, hl, hs, h0, h1, h3, h4, h5⟩
    simp [fixB, taskB, cleanB, ofClassB, h2, dueZ, fairZ, inB_iff, h0, h1, h3, h4, h5]
    omega
/-- So many ticks spent, of at most its round. -/
def turned (t : Tsk) (seq i : Int) : Tsk := if i < t.left then { t with left := t.left - i } else { t with left := t.round - (i - t.left), seq := seq }
theorem turned_is {t : Tsk} (h : IsFix t) {seq : Int} (hs : 0 ≤ seq ∧ seq ≤ 1000000) {i : Int} (h0 : 0 ≤ i) (h1 : i ≤ t.round) : IsFix (turned t seq i) := by
  obtain ⟨g1, g2, g3, g4, g5, g6, g7, g8, g9⟩ := h
  unfold turned
  split
  · exact ⟨g1, g2, g3, g4, g5, g6, by constructor <;> dsimp only <;> omega, g8, g9⟩
  · exact ⟨g1, g2, g3, g4, g5, g6, by constructor <;> dsimp only <;> omega, hs, g9⟩
theorem turned_step {t : Tsk} (h : IsFix t) (hr : t.round ≠ 0) {seq : Int} (hs : 0 ≤ seq ∧ seq ≤ 1000000) {i : Int} (h0 : 0 ≤ i) (h1 : i < t.round) :
    fixSpendT (turned t seq i) seq = turned t seq (i + 1) ∧ turnB (turned t seq i) seq = decide (i + 1 = t.left) := by
  have hf := (fixB_iff _).2 (turned_is h hs h0 (by omega))
  have hl := h.left
  have hi : inB seq 0 1000000 = true := inB_iff.2 hs
  have hrd : (turned t seq i).round = t.round := by unfold turned; split <;> rfl
  have hrz : ((turned t seq i).round == 0) = false := by rw [hrd]; simpa using hr
  unfold fixSpendT turnB
  rw [hf, hrz, hi, hrd]
  simp only [Bool.not_false, Bool.and_true, Bool.true_and, if_true]
  by_cases c1 : i + 1 < t.left
  · have e1 : turned t seq i = { t with left := t.left - i } := by unfold turned; rw [if_pos (by omega)]
    have e2 : turned t seq (i + 1) = { t with left := t.left - (i + 1) } := by unfold turned; rw [if_pos c1]
    rw [e1, e2]
    dsimp only
    rw [if_pos (by simp; omega)]
    refine ⟨by congr 1; omega, ?_⟩
    rw [decide_eq_true (show 1 < t.left - i by omega), decide_eq_false (show ¬ i + 1 = t.left by omega)]; rfl
  · by_cases c2 : i + 1 = t.left
    · have e1 : turned t seq i = { t with left := t.left - i } := by unfold turned; rw [if_pos (by omega)]
      have e2 : turned t seq (i + 1) = { t with left := t.round - (i + 1 - t.left), seq := seq } := by unfold turned; rw [if_neg c1]
      rw [e1, e2]
      dsimp only
      rw [if_neg (by simp; omega)]
      refine ⟨by congr 1; omega, ?_⟩
      rw [decide_eq_false (show ¬ 1 < t.left - i by omega), decide_eq_true c2]; rfl
    · have e1 : turned t seq i = { t with left := t.round - (i - t.left), seq := seq } := by unfold turned; rw [if_neg (by omega)]
      have e2 : turned t seq (i + 1) = { t with left := t.round - (i + 1 - t.left), seq := seq } := by unfold turned; rw [if_neg c1]
      rw [e1, e2]
      dsimp only
      rw [if_pos (by simp; omega)]
      refine ⟨by congr 1; omega, ?_⟩
      rw [decide_eq_true (show 1 < t.round - (i - t.left) by omega), decide_eq_false c2]; rfl
theorem turned_zero {t : Tsk} (h : IsFix t) (hr : t.round ≠ 0) (seq : Int) : turned t seq 0 = t := by
  have hl := h.left
  have hrr := h.round
  unfold turned
  rw [if_pos (by omega), Int.sub_zero]
theorem turned_all {t : Tsk} (h : IsFix t) (seq : Int) : (turned t seq t.round).seq = seq := by
  have hl := h.left
  unfold turned
  rw [if_neg (by omega)]
end Go.Proofs.Ytdndgacaohmdnaa
