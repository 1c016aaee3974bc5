/-
  Fair shares, as plain functions, and what holds of them.
-/
import Derived.Test.YtdndgacaohmdnaaTaskSpec
import Derived.Test.YtdndgacaohmdnaaWeight
namespace Go.Proofs.Ytdndgacaohmdnaa
open Go.RowKit

/-- It is a task that shares fairly. -/
def fairB (t : Tsk) : Bool := taskB t && t.cls == 3
def fairBefB (a b : Tsk) : Bool := fairB a && fairB b && (decide (a.v < b.v) || a.v == b.v && decide (a.no < b.no))
def fairTo (t : Tsk) (x : Int) : Tsk := if inB x 0 100000000 then { t with v := x } else t
def fairSpendT (t : Tsk) : Tsk := if fairB t then fairTo t (t.v + stepI t.nice) else t
def fairWakeT (t : Tsk) (floor : Int) : Tsk := if fairB t then fairTo t (max t.v floor) else t
def moveB (t : Tsk) (cpu frm dst : Int) : Bool := fairB t && inB cpu 0 3 && inB frm 0 100000000 && inB dst 0 100000000 && !decide (100000000 < dst + max (t.v - frm) 0)
def fairMoveT (t : Tsk) (cpu frm dst : Int) : Tsk := if moveB t cpu frm dst then { t with cpu := cpu, v := dst + max (t.v - frm) 0 } else t
/-- The least, one more looked at. -/
def leastS (least : Int) (t : Tsk) : Int := if fairB t && (decide (least < 0) || decide (t.v < least)) then t.v else least
def leastV (ts : List Tsk) : Int := ts.foldl leastS (-1)
def fairFloorI (ts : List Tsk) (floor : Int) : Int := if leastV ts < 0 then floor else max floor (leastV ts)
def mostS (most : Int) (t : Tsk) : Int := if fairB t then max most t.v else most
def mostV (ts : List Tsk) : Int := ts.foldl mostS (-1)
def fairSpreadI (ts : List Tsk) : Int := mostV ts - leastV ts

/-- What such a task holds. -/
structure IsFair (t : Tsk) : Prop where
  cls : t.cls = 3
  no : 1 ≤ t.no ∧ t.no ≤ 1000
  cpu : 0 ≤ t.cpu ∧ t.cpu ≤ 3
  st : 1 ≤ t.st ∧ t.st ≤ 2
  nice : -4 ≤ t.nice ∧ t.nice ≤ 4
  v : 0 ≤ t.v ∧ t.v ≤ 100000000
  none : t.q = 0 ∧ t.p = 0 ∧ t.left = 0 ∧ t.due = 0 ∧ t.prio = 0 ∧ t.round = 0 ∧ t.seq = 0
theorem fairB_iff (t : Tsk) : fairB t = true ↔ IsFair t := by
  constructor
  · intro h
    simp only [fairB, Bool.and_eq_true, beq_iff_eq] at h
    obtain ⟨h1, h2⟩ := h
    simp [taskB, cleanB, ofClassB, h2, dueZ, fixZ, inB_iff] at h1
    obtain ⟨⟨⟨⟨hno, hcpu⟩, hst⟩, hz⟩, hn, hv⟩ := h1
    exact ⟨h2, by omega, by omega, by omega, by omega, by omega, by omega, by omega, by omega, by omega, by omega, by omega, by omega⟩
  · rintro ⟨h2, hno, hcpu, hst, hn, hv, h0, h1, h3, h4, h5, h6, h7⟩
    simp [fairB, taskB, cleanB, ofClassB, h2, dueZ, fixZ, inB_iff, h0, h1, h3, h4, h5, h6, h7]
    omega
theorem stepI_bd (x : Int) : 0 ≤ stepI x ∧ stepI x ≤ 48 := by
  unfold stepI
  repeat' split
  all_goals omega
theorem fairTo_is {t : Tsk} (h : IsFair t) (x : Int) : IsFair (fairTo t x) := by
  unfold fairTo
  split
  · rename_i hx
    obtain ⟨g1, g2, g3, g4, g5, g6, g7⟩ := h
    exact ⟨g1, g2, g3, g4, g5, inB_iff.1 hx, g7⟩
  · exact h
theorem fairMove_is {t : Tsk} {cpu frm dst : Int} (h : moveB t cpu frm dst = true) : IsFair (fairMoveT t cpu frm dst) := by
  have e : fairMoveT t cpu frm dst = { t with cpu := cpu, v := dst + max (t.v - frm) 0 } := by unfold fairMoveT; rw [if_pos h]
  rw [e]
  simp only [moveB, Bool.and_eq_true, Bool.not_eq_true', decide_eq_false_iff_not, inB_iff] at h
  obtain ⟨⟨⟨⟨h1, h2⟩, h3⟩, h4⟩, h5⟩ := h
  obtain ⟨g1, g2, g3, g4, g5, g6, g7⟩ := (fairB_iff t).1 h1
  exact ⟨g1, g2, h2, g4, g5, by constructor <;> dsimp only <;> omega, g7⟩
theorem fair_le {ts : List Tsk} : ∀ (a : Int), (∀ x ∈ ts, fairB x = true → 0 ≤ ts.foldl leastS a ∧ ts.foldl leastS a ≤ x.v) ∧ (0 ≤ a → 0 ≤ ts.foldl leastS a ∧ ts.foldl leastS a ≤ a) := by
  induction ts with
  | nil => intro a; simp
  | cons y r ih =>
    intro a
    have step : (0 ≤ a → 0 ≤ leastS a y ∧ leastS a y ≤ a) ∧ (fairB y = true → 0 ≤ leastS a y ∧ leastS a y ≤ y.v) := by
      unfold leastS
      cases hf : fairB y
      · simp only [Bool.false_and, Bool.false_eq_true, if_false]
        exact ⟨fun h => ⟨h, Int.le_refl _⟩, fun h => by cases h⟩
      · have hv := ((fairB_iff y).1 hf).v
        simp only [Bool.true_and, Bool.or_eq_true, decide_eq_true_eq]
        split <;> exact ⟨fun h => by omega, fun h => by omega⟩
    have h2 := ih (leastS a y)
    simp only [List.foldl_cons]
    refine ⟨fun x hx hf => ?_, fun h => ?_⟩
    · rcases List.mem_cons.1 hx with rfl | hx
      · have h3 := step.2 hf
        have h4 := h2.2 h3.1
        omega
      · exact h2.1 x hx hf
    · have h3 := step.1 h
      have h4 := h2.2 h3.1
      omega
theorem floor_ge (ts : List Tsk) (floor : Int) : floor ≤ fairFloorI ts floor := by
  unfold fairFloorI; split <;> omega
/-- Where the floor has gone up it is not above any that shares fairly. -/
theorem floor_le {ts : List Tsk} {floor : Int} (h : fairFloorI ts floor ≠ floor) {x : Tsk} (hx : x ∈ ts) (hf : fairB x = true) : fairFloorI ts floor ≤ x.v := by
  have h1 := (fair_le (ts := ts) (-1)).1 x hx hf
  unfold fairFloorI leastV at *
  split at h
  · exact absurd rfl h
  · rename_i h2
    rw [if_neg h2]
    omega
theorem spread_inv (ts : List Tsk) : ∀ (a b : Int), (a = -1 ∧ b = -1 ∨ 0 ≤ a ∧ a ≤ b) → (ts.foldl leastS a = -1 ∧ ts.foldl mostS b = -1 ∨ 0 ≤ ts.foldl leastS a ∧ ts.foldl leastS a ≤ ts.foldl mostS b) := by
  induction ts with
  | nil => intro a b h; exact h
  | cons y r ih =>
    intro a b h
    simp only [List.foldl_cons]
    apply ih
    unfold leastS mostS
    cases hf : fairB y
    · simpa using h
    · have hv := ((fairB_iff y).1 hf).v
      simp only [Bool.true_and, Bool.or_eq_true, decide_eq_true_eq, if_true]
      split <;> omega
theorem spread_ge (ts : List Tsk) : 0 ≤ fairSpreadI ts := by
  have := spread_inv ts (-1) (-1) (.inl ⟨rfl, rfl⟩)
  unfold fairSpreadI leastV mostV
  omega
theorem least_bd (ts : List Tsk) : ∀ a : Int, -1 ≤ a → a ≤ 100000000 → -1 ≤ ts.foldl leastS a ∧ ts.foldl leastS a ≤ 100000000 := by
  induction ts with
  | nil => intro a h1 h2; exact ⟨h1, h2⟩
  | cons y r ih =>
    intro a h1 h2
    simp only [List.foldl_cons]
    have : -1 ≤ leastS a y ∧ leastS a y ≤ 100000000 := by
      unfold leastS
      split
      · rename_i h
        simp only [Bool.and_eq_true] at h
        have hv := ((fairB_iff y).1 h.1).v
        omega
      · omega
    exact ih _ this.1 this.2
theorem most_bd (ts : List Tsk) : ∀ a : Int, -1 ≤ a → a ≤ 100000000 → -1 ≤ ts.foldl mostS a ∧ ts.foldl mostS a ≤ 100000000 := by
  induction ts with
  | nil => intro a h1 h2; exact ⟨h1, h2⟩
  | cons y r ih =>
    intro a h1 h2
    simp only [List.foldl_cons]
    have : -1 ≤ mostS a y ∧ mostS a y ≤ 100000000 := by
      unfold mostS
      split
      · rename_i h
        have hv := ((fairB_iff y).1 h).v
        omega
      · omega
    exact ih _ this.1 this.2
end Go.Proofs.Ytdndgacaohmdnaa
