/-
  The program's task by its parts: the head that all classes share, and each class's own numbers.
-/
import Derived.Test.YtdndgacaohmdnaaTaskSpec
import Derived.Test.YtdndgacaohmdnaaNiceI
namespace Go.Proofs.Ytdndgacaohmdnaa
open Go.RowKit

theorem isWithin_any (x lo hi : Int) (w : World) :
    Calls Try.prog 84 #[.int .i64 x, .int .i64 lo, .int .i64 hi] w fun e w' => e = .returned (.bool (inB x lo hi)) ∧ w' = w := by
  by_cases h1 : lo ≤ x
  · by_cases h2 : x ≤ hi
    · have Hr : Hid (inB x lo hi = true) := inB_yes h1 h2
      go_enter Try.func84, Try.ntmps84
      go_wp2
      go_ret
      exact ⟨by rw [Hr.out]; rfl, rfl⟩
    · have Hr : Hid (inB x lo hi = false) := inB_no (.inr (by omega))
      have hd : decide (x ≤ hi) = false := by simpa using h2
      go_enter Try.func84, Try.ntmps84
      go_wp2
      go_ret
      exact ⟨by rw [Hr.out]; rfl, rfl⟩
  · have Hr : Hid (inB x lo hi = false) := inB_no (.inl (by omega))
    have hd : decide (lo ≤ x) = false := by simpa using h1
    go_enter Try.func84, Try.ntmps84
    go_wp2
    go_ret
    exact ⟨by rw [Hr.out]; rfl, rfl⟩

/-- The cells of a task's head. -/
abbrev hc (t : Tsk) : Array Value := #[.int .i64 t.no, .int .i64 t.cls, .int .i64 t.cpu, .int .i64 t.st, .bool t.idle]
/-- The cells of the numbers of each class. -/
abbrev dnc (t : Tsk) : Array Value := #[.int .i64 t.q, .int .i64 t.p, .int .i64 t.left, .int .i64 t.due]
abbrev fnc (t : Tsk) : Array Value := #[.int .i64 t.prio, .int .i64 t.round, .int .i64 t.left, .int .i64 t.seq]
abbrev rnc (t : Tsk) : Array Value := #[.int .i64 t.nice, .int .i64 t.v]

/-- The head alone, as a task. -/
def Tsk.bare (t : Tsk) : Tsk := ⟨t.no, t.cls, t.cpu, t.st, t.idle, 0, 0, 0, 0, 0, 0, 0, 0, 0⟩
/-- The head is right. -/
def headB (t : Tsk) : Bool := inB t.no 1 1000 && inB t.cpu 0 3 && (t.st == 1 || t.st == 2)
def dueNB (t : Tsk) : Bool := okB t.q t.p && inB t.left 0 t.q && inB t.due 0 100040
def leftB (t : Tsk) : Bool := if t.round == 0 then t.left == 0 else inB t.left 1 t.round
def fixNB (t : Tsk) : Bool := inB t.prio 1 20 && inB t.round 0 10 && leftB t && inB t.seq 0 1000000
def fairNB (t : Tsk) : Bool := inB t.nice (-4) 4 && inB t.v 0 100000000

theorem headOf_any (t : Tsk) (w : World) :
    Calls Try.prog 87 #[tk t] w fun e w' => e = .returned (.agg (hc t)) ∧ Keeps w w' := by
  go_enter Try.func87, Try.ntmps87
  go_wp2
  exact bodyPost_ret (v := .agg (hc t)) (by simp [results, Try.results87, go_sem]) rfl ⟨rfl, by repeat (first | exact Keeps.refl _ | refine Keeps.alloc ?_ _ | refine Keeps.drewN ?_ _ | refine Keeps.setCell ?_ (by simp [go_sem]) _)⟩

theorem bare_any (t : Tsk) (w : World) :
    Calls Try.prog 91 #[.agg (hc t)] w fun e w' => e = .returned (tk t.bare) ∧ Keeps w w' := by
  go_enter Try.func91, Try.ntmps91
  go_wp2
  exact bodyPost_ret (v := tk t.bare) (by simp [results, Try.results91, go_sem, Tsk.bare]) rfl ⟨rfl, by repeat (first | exact Keeps.refl _ | refine Keeps.alloc ?_ _ | refine Keeps.drewN ?_ _ | refine Keeps.setCell ?_ (by simp [go_sem]) _)⟩

theorem headIsRight_any (t : Tsk) (w : World) :
    Calls Try.prog 62 #[.agg (hc t)] w fun e w' => e = .returned (.bool (headB t)) ∧ Keeps w w' := by
  cases b1 : inB t.no 1 1000
  · have Hr : Hid (headB t = false) := by show _ = _; simp [headB, b1]
    go_enter Try.func62, Try.ntmps62
    go_wp2_with (go_at_call 84; refine (isWithin_any _ _ _ _).mono ?_; rintro e w' ⟨rfl, rfl⟩)
    go_ret
    exact ⟨by rw [Hr.out]; rfl, by repeat (first | exact Keeps.refl _ | refine Keeps.alloc ?_ _ | refine Keeps.drewN ?_ _)⟩
  · cases b2 : inB t.cpu 0 3
    · have Hr : Hid (headB t = false) := by show _ = _; simp [headB, b2]
      go_enter Try.func62, Try.ntmps62
      go_wp2_with (go_at_call 84; refine (isWithin_any _ _ _ _).mono ?_; rintro e w' ⟨rfl, rfl⟩)
      go_ret
      exact ⟨by rw [Hr.out]; rfl, by repeat (first | exact Keeps.refl _ | refine Keeps.alloc ?_ _ | refine Keeps.drewN ?_ _)⟩
    · cases b3 : (t.st == 1)
      · have Hr : Hid (headB t = (t.st == 2)) := by show _ = _; simp only [headB, b1, b2, b3, Bool.true_and, Bool.false_or]
        go_enter Try.func62, Try.ntmps62
        go_wp2_with (go_at_call 84; refine (isWithin_any _ _ _ _).mono ?_; rintro e w' ⟨rfl, rfl⟩)
        go_ret
        exact ⟨by rw [Hr.out]; rfl, by repeat (first | exact Keeps.refl _ | refine Keeps.alloc ?_ _ | refine Keeps.drewN ?_ _)⟩
      · have Hr : Hid (headB t = true) := by show _ = _; simp only [headB, b1, b2, b3, Bool.true_and, Bool.true_or]
        go_enter Try.func62, Try.ntmps62
        go_wp2_with (go_at_call 84; refine (isWithin_any _ _ _ _).mono ?_; rintro e w' ⟨rfl, rfl⟩)
        go_ret
        exact ⟨by rw [Hr.out]; rfl, by repeat (first | exact Keeps.refl _ | refine Keeps.alloc ?_ _ | refine Keeps.drewN ?_ _)⟩

theorem leftIsRight_any (t : Tsk) (w : World) :
    Calls Try.prog 92 #[.agg (fnc t)] w fun e w' => e = .returned (.bool (leftB t)) ∧ Keeps w w' := by
  cases b1 : (t.round == 0)
  · have Hr : Hid (leftB t = inB t.left 1 t.round) := by show _ = _; simp [leftB, b1]
    go_enter Try.func92, Try.ntmps92
    go_wp2_with (go_at_call 84; refine (isWithin_any _ _ _ _).mono ?_; rintro e w' ⟨rfl, rfl⟩)
    go_ret
    exact ⟨by rw [Hr.out]; rfl, by repeat (first | exact Keeps.refl _ | refine Keeps.alloc ?_ _ | refine Keeps.drewN ?_ _)⟩
  · have Hr : Hid (leftB t = (t.left == 0)) := by show _ = _; simp only [leftB, b1, if_true]
    go_enter Try.func92, Try.ntmps92
    go_wp2
    go_ret
    exact ⟨by rw [Hr.out]; rfl, by repeat (first | exact Keeps.refl _ | refine Keeps.alloc ?_ _ | refine Keeps.drewN ?_ _)⟩

set_option maxHeartbeats 1000000 in
theorem dueNumbers_any (t : Tsk) (w : World) :
    Calls Try.prog 63 #[.agg (dnc t)] w fun e w' => e = .returned (.bool (dueNB t)) ∧ Keeps w w' := by
  cases b1 : okB t.q t.p
  · have Hr : Hid (dueNB t = false) := by show _ = _; simp [dueNB, b1]
    go_enter Try.func63, Try.ntmps63
    go_wp2_with (first
      | (go_at_call 84; refine (isWithin_any _ _ _ _).mono ?_; rintro e w' ⟨rfl, rfl⟩)
      | (go_at_call 90; refine (isRight_any _ _ _).mono ?_; rintro e w' ⟨rfl, rfl⟩))
    go_ret
    exact ⟨by rw [Hr.out]; rfl, by repeat (first | exact Keeps.refl _ | refine Keeps.alloc ?_ _ | refine Keeps.drewN ?_ _)⟩
  · cases b2 : inB t.left 0 t.q
    · have Hr : Hid (dueNB t = false) := by show _ = _; simp [dueNB, b2]
      go_enter Try.func63, Try.ntmps63
      go_wp2_with (first
        | (go_at_call 84; refine (isWithin_any _ _ _ _).mono ?_; rintro e w' ⟨rfl, rfl⟩)
        | (go_at_call 90; refine (isRight_any _ _ _).mono ?_; rintro e w' ⟨rfl, rfl⟩))
      go_ret
      exact ⟨by rw [Hr.out]; rfl, by repeat (first | exact Keeps.refl _ | refine Keeps.alloc ?_ _ | refine Keeps.drewN ?_ _)⟩
    · have Hr : Hid (dueNB t = inB t.due 0 100040) := by show _ = _; simp [dueNB, b1, b2]
      go_enter Try.func63, Try.ntmps63
      go_wp2_with (first
        | (go_at_call 84; refine (isWithin_any _ _ _ _).mono ?_; rintro e w' ⟨rfl, rfl⟩)
        | (go_at_call 90; refine (isRight_any _ _ _).mono ?_; rintro e w' ⟨rfl, rfl⟩))
      go_ret
      exact ⟨by rw [Hr.out]; rfl, by repeat (first | exact Keeps.refl _ | refine Keeps.alloc ?_ _ | refine Keeps.drewN ?_ _)⟩

set_option maxHeartbeats 1000000 in
theorem fixedNumbers_any (t : Tsk) (w : World) :
    Calls Try.prog 65 #[.agg (fnc t)] w fun e w' => e = .returned (.bool (fixNB t)) ∧ Keeps w w' := by
  have kW : Keeps w (w.alloc (.cells (fnc t) 79)) := (Keeps.refl _).alloc _
  have r1 : ∀ w', Keeps (w.alloc (.cells (fnc t) 79)) w' → ∀ k, w'.cell? ⟨w.heap.size, k, none⟩ = (fnc t)[k]? := fun w' h => ((Blk.new w (fnc t) 79).keeps h).cells
  have K0 := Keeps.refl (w.alloc (.cells (fnc t) 79))
  cases b1 : inB t.prio 1 20
  · have Hr : Hid (fixNB t = false) := by show _ = _; simp [fixNB, b1]
    go_enter Try.func65, Try.ntmps65
    go_wp2_with (go_at_call 84; refine (isWithin_any _ _ _ _).mono ?_; rintro e w' ⟨rfl, rfl⟩)
    go_ret
    exact ⟨by rw [Hr.out]; rfl, by repeat (first | exact Keeps.refl _ | refine Keeps.alloc ?_ _ | refine Keeps.drewN ?_ _)⟩
  · cases b2 : inB t.round 0 10
    · have Hr : Hid (fixNB t = false) := by show _ = _; simp [fixNB, b2]
      go_enter Try.func65, Try.ntmps65
      go_wp2_with (go_at_call 84; refine (isWithin_any _ _ _ _).mono ?_; rintro e w' ⟨rfl, rfl⟩)
      go_ret
      exact ⟨by rw [Hr.out]; rfl, by repeat (first | exact Keeps.refl _ | refine Keeps.alloc ?_ _ | refine Keeps.drewN ?_ _)⟩
    · cases b3 : leftB t
      · have Hr : Hid (fixNB t = false) := by show _ = _; simp [fixNB, b3]
        go_enter Try.func65, Try.ntmps65
        go_wp2_with (first
          | (go_at_call 84; refine (isWithin_any _ _ _ _).mono ?_; rintro e w' ⟨rfl, rfl⟩)
          | (go_at_call 92; refine (leftIsRight_any t _).mono ?_; rintro e w1 ⟨rfl, k1⟩; rw [b3]))
        go_ret
        exact ⟨by rw [Hr.out]; rfl, kW.trans k1⟩
      · have Hr : Hid (fixNB t = inB t.seq 0 1000000) := by show _ = _; simp [fixNB, b1, b2, b3]
        go_enter Try.func65, Try.ntmps65
        go_wp2_with (first
          | (go_at_call 84; refine (isWithin_any _ _ _ _).mono ?_; rintro e w' ⟨rfl, rfl⟩)
          | (go_at_call 92; refine (leftIsRight_any t _).mono ?_; rintro e w1 ⟨rfl, k1⟩; rw [b3]))
        go_ret
        exact ⟨by rw [Hr.out]; rfl, kW.trans k1⟩

theorem fairNumbers_any (t : Tsk) (w : World) :
    Calls Try.prog 67 #[.agg (rnc t)] w fun e w' => e = .returned (.bool (fairNB t)) ∧ Keeps w w' := by
  cases b1 : inB t.nice (-4) 4
  · have Hr : Hid (fairNB t = false) := by show _ = _; simp [fairNB, b1]
    go_enter Try.func67, Try.ntmps67
    go_wp2_with (go_at_call 79; refine (implNiceOk_any _ _).mono ?_; rintro e w' ⟨rfl, rfl⟩)
    go_ret
    exact ⟨by rw [Hr.out]; rfl, by repeat (first | exact Keeps.refl _ | refine Keeps.alloc ?_ _ | refine Keeps.drewN ?_ _)⟩
  · have Hr : Hid (fairNB t = inB t.v 0 100000000) := by show _ = _; simp [fairNB, b1]
    go_enter Try.func67, Try.ntmps67
    go_wp2_with (first
      | (go_at_call 79; refine (implNiceOk_any _ _).mono ?_; rintro e w' ⟨rfl, rfl⟩)
      | (go_at_call 84; refine (isWithin_any _ _ _ _).mono ?_; rintro e w' ⟨rfl, rfl⟩))
    go_ret
    exact ⟨by rw [Hr.out]; rfl, by repeat (first | exact Keeps.refl _ | refine Keeps.alloc ?_ _ | refine Keeps.drewN ?_ _)⟩
end Go.Proofs.Ytdndgacaohmdnaa
