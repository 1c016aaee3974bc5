/-
  The program's own test whether a number lies between two.
  The program's task by its parts: the head that all classes share, and each class's own numbers.
  The program's task of each class: taken out of a task, and made whole again.
-/
import Derived.Test.YtfbjnhifjingeaaGBase1
import Derived.Test.YtfbjnhifjingeaaGTask2
import Derived.Test.YtfbjnhifjingeaaGTask4
import Derived.BigRegion
namespace Go.Proofs.Ytfbjnhifjingeaa
open Go.RowKit

set_option maxRecDepth 100000 in
theorem isWithin_any (x lo hi : Int) (w : World) :
    Calls Try.prog 30 #[.int .i64 x, .int .i64 lo, .int .i64 hi] w fun e w' => e = .returned (.bool (inB x lo hi)) ∧ w' = w := by
  by_cases h1 : lo ≤ x
  · by_cases h2 : x ≤ hi
    · have Hr : Hid (inB x lo hi = true) := inB_yes h1 h2
      go_enter Try.func30, Try.ntmps30
      go_wp2
      go_ret
      exact ⟨by rw [Hr.out]; rfl, rfl⟩
    · have Hr : Hid (inB x lo hi = false) := inB_no (.inr (by omega))
      have hd : decide (x ≤ hi) = false := by simpa using h2
      go_enter Try.func30, Try.ntmps30
      go_wp2
      go_ret
      exact ⟨by rw [Hr.out]; rfl, rfl⟩
  · have Hr : Hid (inB x lo hi = false) := inB_no (.inl (by omega))
    have hd : decide (lo ≤ x) = false := by simpa using h1
    go_enter Try.func30, Try.ntmps30
    go_wp2
    go_ret
    exact ⟨by rw [Hr.out]; rfl, rfl⟩
end Go.Proofs.Ytfbjnhifjingeaa
namespace Go.Proofs.Ytfbjnhifjingeaa
open Go.RowKit

/-- The cells of a task's head. -/
abbrev hc (t : Tsk) : Array Value := #[.int .i64 t.no, .int .i64 t.cls, .int .i64 t.cpu, .int .i64 t.st, .bool t.idle]
/-- The cells of the numbers of each class. -/
abbrev dnc (t : Tsk) : Array Value := #[.int .i64 t.q, .int .i64 t.p, .int .i64 t.left, .int .i64 t.due]
abbrev fnc (t : Tsk) : Array Value := #[.int .i64 t.prio, .int .i64 t.round, .int .i64 t.left, .int .i64 t.seq]
abbrev rnc (t : Tsk) : Array Value := #[.int .i64 t.nice, .int .i64 t.v]

/-- The head alone, as a task. -/
def Tsk.bare (t : Tsk) : Tsk := ⟨t.no, t.cls, t.cpu, t.st, t.idle, 0, 0, 0, 0, 0, 0, 0, 0, 0⟩
/-- The head is right. -/
def headB (t : Tsk) : Bool := inB t.no 1 1000 && inB t.cpu 0 3 && (t.st == 1 || t.st == 2)
def dueNB (t : Tsk) : Bool := okB t.q t.p && inB t.left 0 t.q && inB t.due 0 100040
def leftB (t : Tsk) : Bool := if t.round == 0 then t.left == 0 else inB t.left 1 t.round
def fixNB (t : Tsk) : Bool := inB t.prio 1 20 && inB t.round 0 10 && leftB t && inB t.seq 0 1000000
def fairNB (t : Tsk) : Bool := inB t.nice (-4) 4 && inB t.v 0 100000000

theorem headOf_any (t : Tsk) (w : World) :
    Calls Try.prog 70 #[tk t] w fun e w' => e = .returned (.agg (hc t)) ∧ Keeps w w' := by
  go_enter Try.func70, Try.ntmps70
  go_wp2
  exact bodyPost_ret (v := .agg (hc t)) (by simp [results, Try.results70, go_sem]) rfl ⟨rfl, by repeat (first | exact Keeps.refl _ | refine Keeps.alloc ?_ _ | refine Keeps.drewN ?_ _ | refine Keeps.setCell ?_ (by simp [go_sem]) _)⟩

end Go.Proofs.Ytfbjnhifjingeaa
namespace Go.Proofs.Ytfbjnhifjingeaa
open Go.RowKit

/-- The cells of a task of each class. -/
abbrev dtc (t : Tsk) : Array Value := #[.int .i64 t.no, .int .i64 t.cls, .int .i64 t.cpu, .int .i64 t.st, .bool t.idle, .int .i64 t.q, .int .i64 t.p, .int .i64 t.left, .int .i64 t.due]
abbrev ftc (t : Tsk) : Array Value := #[.int .i64 t.no, .int .i64 t.cls, .int .i64 t.cpu, .int .i64 t.st, .bool t.idle, .int .i64 t.prio, .int .i64 t.round, .int .i64 t.left, .int .i64 t.seq]
abbrev rtc (t : Tsk) : Array Value := #[.int .i64 t.no, .int .i64 t.cls, .int .i64 t.cpu, .int .i64 t.st, .bool t.idle, .int .i64 t.nice, .int .i64 t.v]
/-- What is left of a task where only what its class names is kept. -/
def Tsk.asDue (t : Tsk) : Tsk := ⟨t.no, t.cls, t.cpu, t.st, t.idle, t.q, t.p, t.left, t.due, 0, 0, 0, 0, 0⟩
def Tsk.asFix (t : Tsk) : Tsk := ⟨t.no, t.cls, t.cpu, t.st, t.idle, 0, 0, t.left, 0, t.prio, t.round, t.seq, 0, 0⟩
def Tsk.asFair (t : Tsk) : Tsk := ⟨t.no, t.cls, t.cpu, t.st, t.idle, 0, 0, 0, 0, 0, 0, 0, t.nice, t.v⟩

set_option maxRecDepth 100000 in
theorem dueTaskOf_any (t : Tsk) (w : World) :
    Calls Try.prog 54 #[tk t] w fun e w' => e = .returned (.agg (dtc t)) ∧ Keeps w w' := by
  go_enter Try.func54, Try.ntmps54
  go_wp2_with fail
  have H0 : Has w w.heap.size (tc t) ((w.alloc (.cells (tc t) 72)).alloc (.cells (dtc Tsk.zero) 80)) := ⟨((Keeps.refl _).alloc _).alloc _, (Blk.new w _ _).alloc _⟩
  have r1 : ∀ w', Has w w.heap.size (tc t) w' → ∀ k, w'.cell? ⟨w.heap.size, k, none⟩ = (tc t)[k]? := fun w' h => h.box.cells
  refine wp_region_held_drew (S := (fun w' => Has w w.heap.size (tc t) w')) (by kernel_rfl) ?_ (fun hHeld => ?_)
  · exact H0.go (Keeps.refl _).drew
  refine takeH 0 (v := ?_) (by simp only [opsAt]; rfl) (by kernel_rfl) (by exact fun _ _ _ h => h) (by rfl) (by assumption) ?_ ?_
  rotate_left
  · (intro w _; go_simp; try (with_reducible rfl))
  try simp only [putAtH]
  refine takeH 2 (v := ?_) (by simp only [opsAt]; rfl) (by kernel_rfl) (by exact fun _ _ _ h => h) (by rfl) (by assumption) ?_ ?_
  rotate_left
  · (intro w _; go_simp; try (with_reducible rfl))
  try simp only [putAtH]
  refine takeH 3 (v := ?_) (by simp only [opsAt]; rfl) (by kernel_rfl) (by exact fun _ _ _ h => h) (by rfl) (by assumption) ?_ ?_
  rotate_left
  · (intro w _; go_simp; try (with_reducible rfl))
  try simp only [putAtH]
  refine takeH 4 (v := ?_) (by simp only [opsAt]; rfl) (by kernel_rfl) (by exact fun _ _ _ h => h) (by rfl) (by assumption) ?_ ?_
  rotate_left
  · (intro w _; go_simp; try (with_reducible rfl))
  try simp only [putAtH]
  refine takeH 5 (v := ?_) (by simp only [opsAt]; rfl) (by kernel_rfl) (by exact fun _ _ _ h => h) (by rfl) (by assumption) ?_ ?_
  rotate_left
  · (intro w _; go_simp; try (with_reducible rfl))
  try simp only [putAtH]
  refine takeH 6 (v := ?_) (by simp only [opsAt]; rfl) (by kernel_rfl) (by exact fun _ _ _ h => h) (by rfl) (by assumption) ?_ ?_
  rotate_left
  · (intro w _; go_simp; try (with_reducible rfl))
  try simp only [putAtH]
  refine takeH 7 (v := ?_) (by simp only [opsAt]; rfl) (by kernel_rfl) (by exact fun _ _ _ h => h) (by rfl) (by assumption) ?_ ?_
  rotate_left
  · (intro w _; go_simp; try (with_reducible rfl))
  try simp only [putAtH]
  refine takeH 8 (v := ?_) (by simp only [opsAt]; rfl) (by kernel_rfl) (by exact fun _ _ _ h => h) (by rfl) (by assumption) ?_ ?_
  rotate_left
  · (intro w _; go_simp; try (with_reducible rfl))
  try simp only [putAtH]
  refine takeH 9 (v := ?_) (by simp only [opsAt]; rfl) (by kernel_rfl) (by exact fun _ _ _ h => h) (by rfl) (by assumption) ?_ ?_
  rotate_left
  · (intro w _; go_simp; try (with_reducible rfl))
  try simp only [putAtH]
  refine takeH 10 (v := ?_) (by simp only [opsAt]; rfl) (by kernel_rfl) (by exact fun _ _ _ h => h) (by rfl) (by assumption) ?_ ?_
  rotate_left
  · (intro w _; go_simp; try (with_reducible rfl))
  try simp only [putAtH]
  refine takeH 11 (v := ?_) (by simp only [opsAt]; rfl) (by kernel_rfl) (by exact fun _ _ _ h => h) (by rfl) (by assumption) ?_ ?_
  rotate_left
  · (intro w _; go_simp; try (with_reducible rfl))
  try simp only [putAtH]
  refine callH 1 (by kernel_rfl) (by simp only [opsAt]; rfl) (fun K hK => ?_)
  go_simp
  first
        | (go_at_call 70; refine (headOf_any t _).mono ?_; rintro e w1 ⟨rfl, k1⟩)
  try go_wp2_with fail
  refine hK.out _ _ ?_ (fun hHeld => ?_)
  · exact hHeld.go k1
  clear hK K
  try simp only [putAtH]
  refine takeH 12 (v := ?_) (by simp only [opsAt]; rfl) (by kernel_rfl) (by exact fun _ _ _ h => h) (by rfl) (by assumption) ?_ ?_
  rotate_left
  · (intro w _; go_simp; try (with_reducible rfl))
  try simp only [putAtH]
  refine callH 13 (by kernel_rfl) (by simp only [opsAt]; rfl) (fun K hK => ?_)
  have HB := (Blk.new (w.alloc (.cells (tc t) 72)) (dtc Tsk.zero) 80).keeps ((Keeps.refl _).drew.trans k1); simp only [World.size_alloc] at HB; have HD : Hid (Blk w1 (w.heap.size + 1) (dtc Tsk.zero)) := HB; obtain ⟨_, q1, q2⟩ := HB
  go_simp
  try go_wp2_with fail
  refine hK.out _ _ ?_ (fun hHeld => ?_)
  · exact hHeld.put (r := w.heap.size + 1) (by omega) (by omega) 0 (dtc t).toList
  clear hK K
  try simp only [putAtH]
  refine wpAnyH_done (by kernel_rfl) ?_ _
  go_wp2
  have D := HD.out.putC (dtc t).toList rfl
  have K := hHeld.keeps
  change bodyPost _ _ _ _ _ (putC w1 (w.heap.size + 1) 0 (dtc t).toList)
  change Keeps w (putC w1 (w.heap.size + 1) 0 (dtc t).toList) at K
  generalize putC w1 (w.heap.size + 1) 0 (dtc t).toList = X at D K ⊢
  exact bodyPost_ret (v := .agg (dtc t)) (by simp [results, Try.results54, go_sem, D.cells]) rfl ⟨rfl, K⟩

end Go.Proofs.Ytfbjnhifjingeaa
