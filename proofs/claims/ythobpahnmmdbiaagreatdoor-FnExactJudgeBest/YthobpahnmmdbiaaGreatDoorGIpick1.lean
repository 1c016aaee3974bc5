/-
  The program's tasks behind an interface: each class's own task, and who goes before whom.
  The program's picking: who is before whom, whom one comes to, who is able, who can have a turn.
  The program's picking: whom one comes to, who is able, who can have a turn.
-/
import Derived.Test.YthobpahnmmdbiaaGreatDoorGItask2
import Derived.Test.YthobpahnmmdbiaaGreatDoorGIdue2
import Derived.Test.YthobpahnmmdbiaaGreatDoorImplFixC
import Derived.Test.YthobpahnmmdbiaaGreatDoorGIfair2
import Derived.Test.YthobpahnmmdbiaaGreatDoorGPure2
import Derived.Deep.RegionHeld3
import Derived.Test.YthobpahnmmdbiaaGreatDoorGItask3
import Derived.Test.YthobpahnmmdbiaaGreatDoorGIlock1
import Derived.Test.YthobpahnmmdbiaaGreatDoorGPick2
import Derived.Test.YthobpahnmmdbiaaGreatDoorGTask3
namespace Go.Proofs.YthobpahnmmdbiaaGreatDoor
open Go.RowKit
attribute [local go_sem] Keeps.refl Keeps.alloc Keeps.drew Keeps.drewN

/-- A task as its class's own type, behind the interface. -/
abbrev dI (t : Tsk) : Value := .iface 184 (.agg (dtc t))
abbrev fI (t : Tsk) : Value := .iface 190 (.agg (ftc t))
abbrev rI (t : Tsk) : Value := .iface 195 (.agg (rtc t))
theorem asDue_is {t : Tsk} (h : taskB t = true) (c : (t.cls == 1) = true) : t.asDue = t := by
  rw [taskB_due t c, Bool.and_eq_true] at h
  exact eqT_iff.1 h.2
theorem asFix_is {t : Tsk} (h : taskB t = true) (c : (t.cls == 2) = true) : t.asFix = t := by
  rw [taskB_fix t c, Bool.and_eq_true] at h
  exact eqT_iff.1 h.2
theorem asFair_is {t : Tsk} (h : taskB t = true) (c : (t.cls == 3) = true) : t.asFair = t := by
  rw [taskB_fair t c, Bool.and_eq_true] at h
  exact eqT_iff.1 h.2

set_option maxRecDepth 100000 in
theorem ask_dd (x : Value) (w : World) : (Instr.typeAssert (.iface 184 x) 199 184 true).run Tryz.prog w = .ok (.tuple #[x, .bool true]) w := by kernel_rfl
set_option maxRecDepth 100000 in
theorem ask_df (x : Value) (w : World) : (Instr.typeAssert (.iface 184 x) 199 190 true).run Tryz.prog w = .ok (.tuple #[.agg (ftc Tsk.zero), .bool false]) w := by kernel_rfl
set_option maxRecDepth 100000 in
theorem ask_dr (x : Value) (w : World) : (Instr.typeAssert (.iface 184 x) 199 195 true).run Tryz.prog w = .ok (.tuple #[.agg (rtc Tsk.zero), .bool false]) w := by kernel_rfl
set_option maxRecDepth 100000 in
theorem ask_fd (x : Value) (w : World) : (Instr.typeAssert (.iface 190 x) 199 184 true).run Tryz.prog w = .ok (.tuple #[.agg (dtc Tsk.zero), .bool false]) w := by kernel_rfl
set_option maxRecDepth 100000 in
theorem ask_ff (x : Value) (w : World) : (Instr.typeAssert (.iface 190 x) 199 190 true).run Tryz.prog w = .ok (.tuple #[x, .bool true]) w := by kernel_rfl
set_option maxRecDepth 100000 in
theorem ask_fr (x : Value) (w : World) : (Instr.typeAssert (.iface 190 x) 199 195 true).run Tryz.prog w = .ok (.tuple #[.agg (rtc Tsk.zero), .bool false]) w := by kernel_rfl
set_option maxRecDepth 100000 in
theorem ask_rd (x : Value) (w : World) : (Instr.typeAssert (.iface 195 x) 199 184 true).run Tryz.prog w = .ok (.tuple #[.agg (dtc Tsk.zero), .bool false]) w := by kernel_rfl
set_option maxRecDepth 100000 in
theorem ask_rf (x : Value) (w : World) : (Instr.typeAssert (.iface 195 x) 199 190 true).run Tryz.prog w = .ok (.tuple #[.agg (ftc Tsk.zero), .bool false]) w := by kernel_rfl
set_option maxRecDepth 100000 in
theorem ask_rr (x : Value) (w : World) : (Instr.typeAssert (.iface 195 x) 199 195 true).run Tryz.prog w = .ok (.tuple #[x, .bool true]) w := by kernel_rfl
set_option maxRecDepth 100000 in
theorem meth_d (x : Tsk) : ∀ (n : Nat) (w : World), 0 < n → (method n 184 (.agg (dtc x)) "loop.example/g00185/impl.isBeforeInClass").run Tryz.prog w = .ok (282, .agg (dtc x)) w
  | 0, _, h => absurd h (Nat.lt_irrefl 0)
  | _ + 1, _, _ => by kernel_rfl
set_option maxRecDepth 100000 in
theorem nila_d (x : Tsk) : ∀ (n : Nat) (w : World), 0 < n → (nilAhead n 184 (.agg (dtc x)) "loop.example/g00185/impl.isBeforeInClass").run Tryz.prog w = .ok (some false) w
  | 0, _, h => absurd h (Nat.lt_irrefl 0)
  | _ + 1, _, _ => by kernel_rfl
set_option maxRecDepth 100000 in
theorem meth_f (x : Tsk) : ∀ (n : Nat) (w : World), 0 < n → (method n 190 (.agg (ftc x)) "loop.example/g00185/impl.isBeforeInClass").run Tryz.prog w = .ok (288, .agg (ftc x)) w
  | 0, _, h => absurd h (Nat.lt_irrefl 0)
  | _ + 1, _, _ => by kernel_rfl
set_option maxRecDepth 100000 in
theorem nila_f (x : Tsk) : ∀ (n : Nat) (w : World), 0 < n → (nilAhead n 190 (.agg (ftc x)) "loop.example/g00185/impl.isBeforeInClass").run Tryz.prog w = .ok (some false) w
  | 0, _, h => absurd h (Nat.lt_irrefl 0)
  | _ + 1, _, _ => by kernel_rfl
set_option maxRecDepth 100000 in
theorem meth_r (x : Tsk) : ∀ (n : Nat) (w : World), 0 < n → (method n 195 (.agg (rtc x)) "loop.example/g00185/impl.isBeforeInClass").run Tryz.prog w = .ok (296, .agg (rtc x)) w
  | 0, _, h => absurd h (Nat.lt_irrefl 0)
  | _ + 1, _, _ => by kernel_rfl
set_option maxRecDepth 100000 in
theorem nila_r (x : Tsk) : ∀ (n : Nat) (w : World), 0 < n → (nilAhead n 195 (.agg (rtc x)) "loop.example/g00185/impl.isBeforeInClass").run Tryz.prog w = .ok (some false) w
  | 0, _, h => absurd h (Nat.lt_irrefl 0)
  | _ + 1, _, _ => by kernel_rfl
attribute [local go_sem high] ask_dd ask_df ask_dr ask_fd ask_ff ask_fr ask_rd ask_rf ask_rr
set_option maxRecDepth 100000 in
theorem ofItsClass_d (t : Tsk) (w : World) (c1 : (t.cls == 1) = true) :
    Calls Tryz.prog 167 #[tk t] w fun e w' => e = .returned (dI t) ∧ Keeps w w' := by
  have kW : Keeps w (w.alloc (.cells (tc t) 46)) := (Keeps.refl w).alloc _
  go_enter Tryz.func167, Tryz.ntmps167
  go_wp2_with (go_at_call 156; refine (dueTaskOf_any t _).mono ?_; rintro e w1 ⟨rfl, k1⟩)
  go_ret
  exact ⟨rfl, kW.trans k1⟩
set_option maxRecDepth 100000 in
theorem ofItsClass_f (t : Tsk) (w : World) (c1 : (t.cls == 1) = false) (c2 : (t.cls == 2) = true) :
    Calls Tryz.prog 167 #[tk t] w fun e w' => e = .returned (fI t) ∧ Keeps w w' := by
  have kW : Keeps w (w.alloc (.cells (tc t) 46)) := (Keeps.refl w).alloc _
  go_enter Tryz.func167, Tryz.ntmps167
  go_wp2_with (go_at_call 160; refine (fixedTaskOf_any t _).mono ?_; rintro e w1 ⟨rfl, k1⟩)
  go_ret
  exact ⟨rfl, kW.trans k1⟩
set_option maxRecDepth 100000 in
theorem ofItsClass_r (t : Tsk) (w : World) (c1 : (t.cls == 1) = false) (c2 : (t.cls == 2) = false) :
    Calls Tryz.prog 167 #[tk t] w fun e w' => e = .returned (rI t) ∧ Keeps w w' := by
  have kW : Keeps w (w.alloc (.cells (tc t) 46)) := (Keeps.refl w).alloc _
  go_enter Tryz.func167, Tryz.ntmps167
  go_wp2_with (go_at_call 163; refine (fairTaskOf_any t _).mono ?_; rintro e w1 ⟨rfl, k1⟩)
  go_ret
  exact ⟨rfl, kW.trans k1⟩
set_option maxRecDepth 100000 in
theorem classOf_d (x : Value) (w : World) :
    Calls Tryz.prog 203 #[.iface 184 x] w fun e w' => e = .returned (.int .i64 1) ∧ w' = w := by
  go_enter Tryz.func203, Tryz.ntmps203
  go_wp2
  go_ret
  exact ⟨rfl, rfl⟩
set_option maxRecDepth 100000 in
theorem classOf_f (x : Value) (w : World) :
    Calls Tryz.prog 203 #[.iface 190 x] w fun e w' => e = .returned (.int .i64 2) ∧ w' = w := by
  go_enter Tryz.func203, Tryz.ntmps203
  go_wp2
  go_ret
  exact ⟨rfl, rfl⟩
set_option maxRecDepth 100000 in
theorem classOf_r (x : Value) (w : World) :
    Calls Tryz.prog 203 #[.iface 195 x] w fun e w' => e = .returned (.int .i64 3) ∧ w' = w := by
  go_enter Tryz.func203, Tryz.ntmps203
  go_wp2
  go_ret
  exact ⟨rfl, rfl⟩
set_option maxRecDepth 100000 in
set_option maxHeartbeats 1000000 in
theorem inClass_d (t u : Tsk) (w : World) :
    Calls Tryz.prog 282 #[.agg (dtc t), dI u] w fun e w' => e = .returned (.bool (dueBefB t.asDue u.asDue)) ∧ Keeps w w' := by
  go_enter Tryz.func282, Tryz.ntmps282
  go_wp2_with fail
  have K0 : Keeps w ((w.alloc (.cells (dtc t) 184)).alloc (.cells (dtc u) 184)) := ((Keeps.refl w).alloc _).alloc _
  have r1 : ∀ w', Keeps ((w.alloc (.cells (dtc t) 184)).alloc (.cells (dtc u) 184)) w' → ∀ k, w'.cell? ⟨w.heap.size, k, none⟩ = (dtc t)[k]? := fun w' h => (((Blk.new w (dtc t) 184).alloc _).keeps h).cells
  have r2 : ∀ w', Keeps ((w.alloc (.cells (dtc t) 184)).alloc (.cells (dtc u) 184)) w' → ∀ k, w'.cell? ⟨w.heap.size + 1, k, none⟩ = (dtc u)[k]? := fun w' h => by
    have := (Blk.new (w.alloc (.cells (dtc t) 184)) (dtc u) 184).keeps h
    simp only [World.size_alloc] at this
    exact this.cells
  generalize (w.alloc (.cells (dtc t) 184)).alloc (.cells (dtc u) 184) = W at *
  refine wp_region_held_drew (S := (fun w' => Keeps W w')) (by kernel_rfl) ?_ (fun hHeld => ?_)
  · exact (Keeps.refl W).drew
  refine Plan.go [0, 1, 2, 4] ?_
  iterate 4 (refine takeL (by simp only [opsAt]; rfl) (by kernel_rfl) (by exact fun _ _ _ h => h) (by rfl) (by assumption) (fun w _ => by go_simp; try (with_reducible rfl)) ?_; try simp only [putAtH])
  refine Plan.nil ?_
  refine callH 3 (by kernel_rfl) (by simp only [opsAt]; rfl) (fun K hK => ?_)
  go_simp
  first
    | (go_at_call 283; refine (implDueBefore_says _ _ _).mono ?_; rintro e w1 ⟨rfl, k1⟩)
    | (go_at_call 159; refine (dueWhole_any _ _).mono ?_; rintro e w1 ⟨rfl, k1⟩)
  try go_wp2_with fail
  refine hK.out _ _ ?_ (fun hHeld => ?_)
  · exact Keeps.trans (by assumption) (by assumption)
  clear hK K
  try simp only [putAtH]
  refine callH 5 (by kernel_rfl) (by simp only [opsAt]; rfl) (fun K hK => ?_)
  go_simp
  first
    | (go_at_call 283; refine (implDueBefore_says _ _ _).mono ?_; rintro e w1 ⟨rfl, k1⟩)
    | (go_at_call 159; refine (dueWhole_any _ _).mono ?_; rintro e w1 ⟨rfl, k1⟩)
  try go_wp2_with fail
  refine hK.out _ _ ?_ (fun hHeld => ?_)
  · exact Keeps.trans (by assumption) (by assumption)
  clear hK K
  try simp only [putAtH]
  refine callH 6 (by kernel_rfl) (by simp only [opsAt]; rfl) (fun K hK => ?_)
  go_simp
  first
    | (go_at_call 283; refine (implDueBefore_says _ _ _).mono ?_; rintro e w1 ⟨rfl, k1⟩)
    | (go_at_call 159; refine (dueWhole_any _ _).mono ?_; rintro e w1 ⟨rfl, k1⟩)
  try go_wp2_with fail
  refine hK.out _ _ ?_ (fun hHeld => ?_)
  · exact Keeps.trans (by assumption) (by assumption)
  clear hK K
  try simp only [putAtH]
  refine Plan.go [7, 8] ?_
  iterate 2 (refine takeL (by simp only [opsAt]; rfl) (by kernel_rfl) (by exact fun _ _ _ h => h) (by rfl) (by assumption) (fun w _ => by go_simp; try (with_reducible rfl)) ?_; try simp only [putAtH])
  refine Plan.nil ?_
  refine wpAnyH_done (by kernel_rfl) ?_ _
  have K1 : Keeps W w1 := by assumption
  go_wp2
  go_ret
  exact ⟨rfl, K0.trans K1⟩
set_option maxRecDepth 100000 in
theorem inClass_fd (t u : Tsk) (w : World) :
    Calls Tryz.prog 288 #[.agg (ftc t), dI u] w fun e w' => e = .returned (.bool false) ∧ Keeps w w' := by
  go_enter Tryz.func288, Tryz.ntmps288
  go_wp2_with fail
  have K0 : Keeps w ((w.alloc (.cells (ftc t) 190)).alloc (.cells (ftc Tsk.zero) 190)) := ((Keeps.refl w).alloc _).alloc _
  generalize (w.alloc (.cells (ftc t) 190)).alloc (.cells (ftc Tsk.zero) 190) = W at *
  refine wp_region_held_drew (S := (fun w' => Keeps W w')) (by kernel_rfl) ?_ (fun hHeld => ?_)
  · exact (Keeps.refl W).drew
  refine Plan.go [0, 1] ?_
  iterate 2 (refine takeL (by simp only [opsAt]; rfl) (by kernel_rfl) (by exact fun _ _ _ h => h) (by rfl) (by assumption) (fun w _ => by go_simp; try (with_reducible rfl)) ?_; try simp only [putAtH])
  refine Plan.nil ?_
  refine Plan.go [2, 3, 4, 5, 6] ?_
  iterate 5 (refine skipL (by simp only [opsAt]; rfl) (by kernel_rfl) (by exact fun _ _ _ h => h) (by rfl) (by assumption) ?_; try simp only [putAtH])
  refine Plan.nil ?_
  refine Plan.go [7, 8] ?_
  iterate 2 (refine takeL (by simp only [opsAt]; rfl) (by kernel_rfl) (by exact fun _ _ _ h => h) (by rfl) (by assumption) (fun w _ => by go_simp; try (with_reducible rfl)) ?_; try simp only [putAtH])
  refine Plan.nil ?_
  refine wpAnyH_done (by kernel_rfl) ?_ _
  go_wp2
  go_ret
  exact ⟨rfl, K0.trans (by assumption)⟩
set_option maxRecDepth 100000 in
set_option maxHeartbeats 1000000 in
theorem inClass_f (t u : Tsk) (w : World) :
    Calls Tryz.prog 288 #[.agg (ftc t), fI u] w fun e w' => e = .returned (.bool (fixBefB t.asFix u.asFix)) ∧ Keeps w w' := by
  go_enter Tryz.func288, Tryz.ntmps288
  go_wp2_with fail
  have K0 : Keeps w ((w.alloc (.cells (ftc t) 190)).alloc (.cells (ftc u) 190)) := ((Keeps.refl w).alloc _).alloc _
  have r1 : ∀ w', Keeps ((w.alloc (.cells (ftc t) 190)).alloc (.cells (ftc u) 190)) w' → ∀ k, w'.cell? ⟨w.heap.size, k, none⟩ = (ftc t)[k]? := fun w' h => (((Blk.new w (ftc t) 190).alloc _).keeps h).cells
  have r2 : ∀ w', Keeps ((w.alloc (.cells (ftc t) 190)).alloc (.cells (ftc u) 190)) w' → ∀ k, w'.cell? ⟨w.heap.size + 1, k, none⟩ = (ftc u)[k]? := fun w' h => by
    have := (Blk.new (w.alloc (.cells (ftc t) 190)) (ftc u) 190).keeps h
    simp only [World.size_alloc] at this
    exact this.cells
  generalize (w.alloc (.cells (ftc t) 190)).alloc (.cells (ftc u) 190) = W at *
  refine wp_region_held_drew (S := (fun w' => Keeps W w')) (by kernel_rfl) ?_ (fun hHeld => ?_)
  · exact (Keeps.refl W).drew
  refine Plan.go [0, 1, 2, 4] ?_
  iterate 4 (refine takeL (by simp only [opsAt]; rfl) (by kernel_rfl) (by exact fun _ _ _ h => h) (by rfl) (by assumption) (fun w _ => by go_simp; try (with_reducible rfl)) ?_; try simp only [putAtH])
  refine Plan.nil ?_
  refine callH 3 (by kernel_rfl) (by simp only [opsAt]; rfl) (fun K hK => ?_)
  go_simp
  first
    | (go_at_call 289; refine (implFixedBefore_says _ _ _).mono ?_; rintro e w1 ⟨rfl, k1⟩)
    | (go_at_call 162; refine (fixedWhole_any _ _).mono ?_; rintro e w1 ⟨rfl, k1⟩)
  try go_wp2_with fail
  refine hK.out _ _ ?_ (fun hHeld => ?_)
  · exact Keeps.trans (by assumption) (by assumption)
  clear hK K
  try simp only [putAtH]
  refine callH 5 (by kernel_rfl) (by simp only [opsAt]; rfl) (fun K hK => ?_)
  go_simp
  first
    | (go_at_call 289; refine (implFixedBefore_says _ _ _).mono ?_; rintro e w1 ⟨rfl, k1⟩)
    | (go_at_call 162; refine (fixedWhole_any _ _).mono ?_; rintro e w1 ⟨rfl, k1⟩)
  try go_wp2_with fail
  refine hK.out _ _ ?_ (fun hHeld => ?_)
  · exact Keeps.trans (by assumption) (by assumption)
  clear hK K
  try simp only [putAtH]
  refine callH 6 (by kernel_rfl) (by simp only [opsAt]; rfl) (fun K hK => ?_)
  go_simp
  first
    | (go_at_call 289; refine (implFixedBefore_says _ _ _).mono ?_; rintro e w1 ⟨rfl, k1⟩)
    | (go_at_call 162; refine (fixedWhole_any _ _).mono ?_; rintro e w1 ⟨rfl, k1⟩)
  try go_wp2_with fail
  refine hK.out _ _ ?_ (fun hHeld => ?_)
  · exact Keeps.trans (by assumption) (by assumption)
  clear hK K
  try simp only [putAtH]
  refine Plan.go [7, 8] ?_
  iterate 2 (refine takeL (by simp only [opsAt]; rfl) (by kernel_rfl) (by exact fun _ _ _ h => h) (by rfl) (by assumption) (fun w _ => by go_simp; try (with_reducible rfl)) ?_; try simp only [putAtH])
  refine Plan.nil ?_
  refine wpAnyH_done (by kernel_rfl) ?_ _
  have K1 : Keeps W w1 := by assumption
  go_wp2
  go_ret
  exact ⟨rfl, K0.trans K1⟩
set_option maxRecDepth 100000 in
theorem inClass_rd (t u : Tsk) (w : World) :
    Calls Tryz.prog 296 #[.agg (rtc t), dI u] w fun e w' => e = .returned (.bool false) ∧ Keeps w w' := by
  go_enter Tryz.func296, Tryz.ntmps296
  go_wp2_with fail
  have K0 : Keeps w ((w.alloc (.cells (rtc t) 195)).alloc (.cells (rtc Tsk.zero) 195)) := ((Keeps.refl w).alloc _).alloc _
  generalize (w.alloc (.cells (rtc t) 195)).alloc (.cells (rtc Tsk.zero) 195) = W at *
  refine wp_region_held_drew (S := (fun w' => Keeps W w')) (by kernel_rfl) ?_ (fun hHeld => ?_)
  · exact (Keeps.refl W).drew
  refine Plan.go [0, 1] ?_
  iterate 2 (refine takeL (by simp only [opsAt]; rfl) (by kernel_rfl) (by exact fun _ _ _ h => h) (by rfl) (by assumption) (fun w _ => by go_simp; try (with_reducible rfl)) ?_; try simp only [putAtH])
  refine Plan.nil ?_
  refine Plan.go [2, 3, 4, 5, 6] ?_
  iterate 5 (refine skipL (by simp only [opsAt]; rfl) (by kernel_rfl) (by exact fun _ _ _ h => h) (by rfl) (by assumption) ?_; try simp only [putAtH])
  refine Plan.nil ?_
  refine Plan.go [7, 8] ?_
  iterate 2 (refine takeL (by simp only [opsAt]; rfl) (by kernel_rfl) (by exact fun _ _ _ h => h) (by rfl) (by assumption) (fun w _ => by go_simp; try (with_reducible rfl)) ?_; try simp only [putAtH])
  refine Plan.nil ?_
  refine wpAnyH_done (by kernel_rfl) ?_ _
  go_wp2
  go_ret
  exact ⟨rfl, K0.trans (by assumption)⟩
set_option maxRecDepth 100000 in
theorem inClass_rf (t u : Tsk) (w : World) :
    Calls Tryz.prog 296 #[.agg (rtc t), fI u] w fun e w' => e = .returned (.bool false) ∧ Keeps w w' := by
  go_enter Tryz.func296, Tryz.ntmps296
  go_wp2_with fail
  have K0 : Keeps w ((w.alloc (.cells (rtc t) 195)).alloc (.cells (rtc Tsk.zero) 195)) := ((Keeps.refl w).alloc _).alloc _
  generalize (w.alloc (.cells (rtc t) 195)).alloc (.cells (rtc Tsk.zero) 195) = W at *
  refine wp_region_held_drew (S := (fun w' => Keeps W w')) (by kernel_rfl) ?_ (fun hHeld => ?_)
  · exact (Keeps.refl W).drew
  refine Plan.go [0, 1] ?_
  iterate 2 (refine takeL (by simp only [opsAt]; rfl) (by kernel_rfl) (by exact fun _ _ _ h => h) (by rfl) (by assumption) (fun w _ => by go_simp; try (with_reducible rfl)) ?_; try simp only [putAtH])
  refine Plan.nil ?_
  refine Plan.go [2, 3, 4, 5, 6] ?_
  iterate 5 (refine skipL (by simp only [opsAt]; rfl) (by kernel_rfl) (by exact fun _ _ _ h => h) (by rfl) (by assumption) ?_; try simp only [putAtH])
  refine Plan.nil ?_
  refine Plan.go [7, 8] ?_
  iterate 2 (refine takeL (by simp only [opsAt]; rfl) (by kernel_rfl) (by exact fun _ _ _ h => h) (by rfl) (by assumption) (fun w _ => by go_simp; try (with_reducible rfl)) ?_; try simp only [putAtH])
  refine Plan.nil ?_
  refine wpAnyH_done (by kernel_rfl) ?_ _
  go_wp2
  go_ret
  exact ⟨rfl, K0.trans (by assumption)⟩
set_option maxRecDepth 100000 in
set_option maxHeartbeats 1000000 in
theorem inClass_r (t u : Tsk) (w : World) :
    Calls Tryz.prog 296 #[.agg (rtc t), rI u] w fun e w' => e = .returned (.bool (fairBefB t.asFair u.asFair)) ∧ Keeps w w' := by
  go_enter Tryz.func296, Tryz.ntmps296
  go_wp2_with fail
  have K0 : Keeps w ((w.alloc (.cells (rtc t) 195)).alloc (.cells (rtc u) 195)) := ((Keeps.refl w).alloc _).alloc _
  have r1 : ∀ w', Keeps ((w.alloc (.cells (rtc t) 195)).alloc (.cells (rtc u) 195)) w' → ∀ k, w'.cell? ⟨w.heap.size, k, none⟩ = (rtc t)[k]? := fun w' h => (((Blk.new w (rtc t) 195).alloc _).keeps h).cells
  have r2 : ∀ w', Keeps ((w.alloc (.cells (rtc t) 195)).alloc (.cells (rtc u) 195)) w' → ∀ k, w'.cell? ⟨w.heap.size + 1, k, none⟩ = (rtc u)[k]? := fun w' h => by
    have := (Blk.new (w.alloc (.cells (rtc t) 195)) (rtc u) 195).keeps h
    simp only [World.size_alloc] at this
    exact this.cells
  generalize (w.alloc (.cells (rtc t) 195)).alloc (.cells (rtc u) 195) = W at *
  refine wp_region_held_drew (S := (fun w' => Keeps W w')) (by kernel_rfl) ?_ (fun hHeld => ?_)
  · exact (Keeps.refl W).drew
  refine Plan.go [0, 1, 2, 4] ?_
  iterate 4 (refine takeL (by simp only [opsAt]; rfl) (by kernel_rfl) (by exact fun _ _ _ h => h) (by rfl) (by assumption) (fun w _ => by go_simp; try (with_reducible rfl)) ?_; try simp only [putAtH])
  refine Plan.nil ?_
  refine callH 3 (by kernel_rfl) (by simp only [opsAt]; rfl) (fun K hK => ?_)
  go_simp
  first
    | (go_at_call 297; refine (implFairBefore_says _ _ _).mono ?_; rintro e w1 ⟨rfl, k1⟩)
    | (go_at_call 165; refine (fairWhole_any _ _).mono ?_; rintro e w1 ⟨rfl, k1⟩)
  try go_wp2_with fail
  refine hK.out _ _ ?_ (fun hHeld => ?_)
  · exact Keeps.trans (by assumption) (by assumption)
  clear hK K
  try simp only [putAtH]
  refine callH 5 (by kernel_rfl) (by simp only [opsAt]; rfl) (fun K hK => ?_)
  go_simp
  first
    | (go_at_call 297; refine (implFairBefore_says _ _ _).mono ?_; rintro e w1 ⟨rfl, k1⟩)
    | (go_at_call 165; refine (fairWhole_any _ _).mono ?_; rintro e w1 ⟨rfl, k1⟩)
  try go_wp2_with fail
  refine hK.out _ _ ?_ (fun hHeld => ?_)
  · exact Keeps.trans (by assumption) (by assumption)
  clear hK K
  try simp only [putAtH]
  refine callH 6 (by kernel_rfl) (by simp only [opsAt]; rfl) (fun K hK => ?_)
  go_simp
  first
    | (go_at_call 297; refine (implFairBefore_says _ _ _).mono ?_; rintro e w1 ⟨rfl, k1⟩)
    | (go_at_call 165; refine (fairWhole_any _ _).mono ?_; rintro e w1 ⟨rfl, k1⟩)
  try go_wp2_with fail
  refine hK.out _ _ ?_ (fun hHeld => ?_)
  · exact Keeps.trans (by assumption) (by assumption)
  clear hK K
  try simp only [putAtH]
  refine Plan.go [7, 8] ?_
  iterate 2 (refine takeL (by simp only [opsAt]; rfl) (by kernel_rfl) (by exact fun _ _ _ h => h) (by rfl) (by assumption) (fun w _ => by go_simp; try (with_reducible rfl)) ?_; try simp only [putAtH])
  refine Plan.nil ?_
  refine wpAnyH_done (by kernel_rfl) ?_ _
  have K1 : Keeps W w1 := by assumption
  go_wp2
  go_ret
  exact ⟨rfl, K0.trans K1⟩
set_option maxRecDepth 100000 in
theorem goes_dd (t u : Tsk) (w : World) :
    Calls Tryz.prog 166 #[dI t, dI u] w fun e w' => e = .returned (.bool (dueBefB t.asDue u.asDue)) ∧ Keeps w w' := by
  have hm := meth_d t
  have hn := nila_d t
  have CA := classOf_d
  have CB := classOf_d
  go_enter Tryz.func166, Tryz.ntmps166
  go_wp2_with (first
    | (go_at_call 203; have k0 := CA; clear CA; refine (k0 _ _).mono ?_; rintro e w1 ⟨rfl, rfl⟩)
    | (go_at_call 203; refine (CB _ _).mono ?_; rintro e w1 ⟨rfl, rfl⟩)
    | (go_at_call 282; refine (inClass_d t u _).mono ?_; rintro e w2 ⟨rfl, k2⟩))
  go_ret
  exact ⟨rfl, k2⟩
set_option maxRecDepth 100000 in
theorem goes_df (t u : Tsk) (w : World) :
    Calls Tryz.prog 166 #[dI t, fI u] w fun e w' => e = .returned (.bool true) ∧ Keeps w w' := by
  have CA := classOf_d
  have CB := classOf_f
  go_enter Tryz.func166, Tryz.ntmps166
  go_wp2_with (first
    | (go_at_call 203; have k0 := CA; clear CA; refine (k0 _ _).mono ?_; rintro e w1 ⟨rfl, rfl⟩)
    | (go_at_call 203; refine (CB _ _).mono ?_; rintro e w1 ⟨rfl, rfl⟩))
  go_ret
  exact ⟨rfl, Keeps.refl _⟩
set_option maxRecDepth 100000 in
theorem goes_dr (t u : Tsk) (w : World) :
    Calls Tryz.prog 166 #[dI t, rI u] w fun e w' => e = .returned (.bool true) ∧ Keeps w w' := by
  have CA := classOf_d
  have CB := classOf_r
  go_enter Tryz.func166, Tryz.ntmps166
  go_wp2_with (first
    | (go_at_call 203; have k0 := CA; clear CA; refine (k0 _ _).mono ?_; rintro e w1 ⟨rfl, rfl⟩)
    | (go_at_call 203; refine (CB _ _).mono ?_; rintro e w1 ⟨rfl, rfl⟩))
  go_ret
  exact ⟨rfl, Keeps.refl _⟩
set_option maxRecDepth 100000 in
theorem goes_fd (t u : Tsk) (w : World) :
    Calls Tryz.prog 166 #[fI t, dI u] w fun e w' => e = .returned (.bool false) ∧ Keeps w w' := by
  have hm := meth_f t
  have hn := nila_f t
  have CA := classOf_f
  have CB := classOf_d
  go_enter Tryz.func166, Tryz.ntmps166
  go_wp2_with (first
    | (go_at_call 203; have k0 := CA; clear CA; refine (k0 _ _).mono ?_; rintro e w1 ⟨rfl, rfl⟩)
    | (go_at_call 203; refine (CB _ _).mono ?_; rintro e w1 ⟨rfl, rfl⟩)
    | (go_at_call 288; refine (inClass_fd t u _).mono ?_; rintro e w2 ⟨rfl, k2⟩))
  go_ret
  exact ⟨rfl, k2⟩
set_option maxRecDepth 100000 in
theorem goes_ff (t u : Tsk) (w : World) :
    Calls Tryz.prog 166 #[fI t, fI u] w fun e w' => e = .returned (.bool (fixBefB t.asFix u.asFix)) ∧ Keeps w w' := by
  have hm := meth_f t
  have hn := nila_f t
  have CA := classOf_f
  have CB := classOf_f
  go_enter Tryz.func166, Tryz.ntmps166
  go_wp2_with (first
    | (go_at_call 203; have k0 := CA; clear CA; refine (k0 _ _).mono ?_; rintro e w1 ⟨rfl, rfl⟩)
    | (go_at_call 203; refine (CB _ _).mono ?_; rintro e w1 ⟨rfl, rfl⟩)
    | (go_at_call 288; refine (inClass_f t u _).mono ?_; rintro e w2 ⟨rfl, k2⟩))
  go_ret
  exact ⟨rfl, k2⟩
set_option maxRecDepth 100000 in
theorem goes_fr (t u : Tsk) (w : World) :
    Calls Tryz.prog 166 #[fI t, rI u] w fun e w' => e = .returned (.bool true) ∧ Keeps w w' := by
  have CA := classOf_f
  have CB := classOf_r
  go_enter Tryz.func166, Tryz.ntmps166
  go_wp2_with (first
    | (go_at_call 203; have k0 := CA; clear CA; refine (k0 _ _).mono ?_; rintro e w1 ⟨rfl, rfl⟩)
    | (go_at_call 203; refine (CB _ _).mono ?_; rintro e w1 ⟨rfl, rfl⟩))
  go_ret
  exact ⟨rfl, Keeps.refl _⟩
set_option maxRecDepth 100000 in
theorem goes_rd (t u : Tsk) (w : World) :
    Calls Tryz.prog 166 #[rI t, dI u] w fun e w' => e = .returned (.bool false) ∧ Keeps w w' := by
  have hm := meth_r t
  have hn := nila_r t
  have CA := classOf_r
  have CB := classOf_d
  go_enter Tryz.func166, Tryz.ntmps166
  go_wp2_with (first
    | (go_at_call 203; have k0 := CA; clear CA; refine (k0 _ _).mono ?_; rintro e w1 ⟨rfl, rfl⟩)
    | (go_at_call 203; refine (CB _ _).mono ?_; rintro e w1 ⟨rfl, rfl⟩)
    | (go_at_call 296; refine (inClass_rd t u _).mono ?_; rintro e w2 ⟨rfl, k2⟩))
  go_ret
  exact ⟨rfl, k2⟩
set_option maxRecDepth 100000 in
theorem goes_rf (t u : Tsk) (w : World) :
    Calls Tryz.prog 166 #[rI t, fI u] w fun e w' => e = .returned (.bool false) ∧ Keeps w w' := by
  have hm := meth_r t
  have hn := nila_r t
  have CA := classOf_r
  have CB := classOf_f
  go_enter Tryz.func166, Tryz.ntmps166
  go_wp2_with (first
    | (go_at_call 203; have k0 := CA; clear CA; refine (k0 _ _).mono ?_; rintro e w1 ⟨rfl, rfl⟩)
    | (go_at_call 203; refine (CB _ _).mono ?_; rintro e w1 ⟨rfl, rfl⟩)
    | (go_at_call 296; refine (inClass_rf t u _).mono ?_; rintro e w2 ⟨rfl, k2⟩))
  go_ret
  exact ⟨rfl, k2⟩
set_option maxRecDepth 100000 in
theorem goes_rr (t u : Tsk) (w : World) :
    Calls Tryz.prog 166 #[rI t, rI u] w fun e w' => e = .returned (.bool (fairBefB t.asFair u.asFair)) ∧ Keeps w w' := by
  have hm := meth_r t
  have hn := nila_r t
  have CA := classOf_r
  have CB := classOf_r
  go_enter Tryz.func166, Tryz.ntmps166
  go_wp2_with (first
    | (go_at_call 203; have k0 := CA; clear CA; refine (k0 _ _).mono ?_; rintro e w1 ⟨rfl, rfl⟩)
    | (go_at_call 203; refine (CB _ _).mono ?_; rintro e w1 ⟨rfl, rfl⟩)
    | (go_at_call 296; refine (inClass_r t u _).mono ?_; rintro e w2 ⟨rfl, k2⟩))
  go_ret
  exact ⟨rfl, k2⟩
end Go.Proofs.YthobpahnmmdbiaaGreatDoor
namespace Go.Proofs.YthobpahnmmdbiaaGreatDoor
open Go.RowKit
attribute [local go_sem] Keeps.refl Keeps.alloc Keeps.drew Keeps.drewN

/-- A right task, behind the interface. -/
def Cla (t : Tsk) (v : Value) : Prop := ((t.cls == 1) = true ∧ v = dI t) ∨ ((t.cls == 2) = true ∧ v = fI t) ∨ ((t.cls == 3) = true ∧ v = rI t)
theorem cls_three {t : Tsk} (h : taskB t = true) : (t.cls == 1) = true ∨ ((t.cls == 1) = false ∧ (t.cls == 2) = true) ∨ ((t.cls == 1) = false ∧ (t.cls == 2) = false ∧ (t.cls == 3) = true) := by
  have := task_cls h
  simp only [beq_iff_eq, beq_eq_false_iff_ne, ne_eq]
  omega
set_option maxRecDepth 100000 in
theorem ofItsClass_any {t : Tsk} (h : taskB t = true) (w : World) :
    Calls Tryz.prog 167 #[tk t] w fun e w' => ∃ v, e = .returned v ∧ Cla t v ∧ Keeps w w' := by
  rcases cls_three h with c1 | ⟨c1, c2⟩ | ⟨c1, c2, c3⟩
  · exact (ofItsClass_d t w c1).mono fun e w' ⟨he, k⟩ => ⟨_, he, .inl ⟨c1, rfl⟩, k⟩
  · exact (ofItsClass_f t w c1 c2).mono fun e w' ⟨he, k⟩ => ⟨_, he, .inr (.inl ⟨c2, rfl⟩), k⟩
  · exact (ofItsClass_r t w c1 c2).mono fun e w' ⟨he, k⟩ => ⟨_, he, .inr (.inr ⟨c3, rfl⟩), k⟩
theorem befB_less {a b : Tsk} (ha : taskB a = true) (hb : taskB b = true) (h : a.cls < b.cls) : befB a b = true := befB_iff.2 ⟨ha, hb, .inl h⟩
theorem befB_more {a b : Tsk} (h : b.cls < a.cls) : befB a b = false := by
  rw [Bool.eq_false_iff]
  intro h2
  have := befB_iff.1 h2
  omega
theorem befB_due {a b : Tsk} (ha : taskB a = true) (hb : taskB b = true) (ca : (a.cls == 1) = true) (cb : (b.cls == 1) = true) : befB a b = dueBefB a b := by
  simp only [beq_iff_eq] at ca cb
  unfold befB fixBefB fairBefB fixB fairB
  simp [ha, hb, ca, cb]
theorem befB_fix {a b : Tsk} (ha : taskB a = true) (hb : taskB b = true) (ca : (a.cls == 2) = true) (cb : (b.cls == 2) = true) : befB a b = fixBefB a b := by
  simp only [beq_iff_eq] at ca cb
  unfold befB dueBefB fairBefB dueB fairB
  simp [ha, hb, ca, cb]
theorem befB_fair {a b : Tsk} (ha : taskB a = true) (hb : taskB b = true) (ca : (a.cls == 3) = true) (cb : (b.cls == 3) = true) : befB a b = fairBefB a b := by
  simp only [beq_iff_eq] at ca cb
  unfold befB dueBefB fixBefB dueB fixB
  simp [ha, hb, ca, cb]
set_option maxRecDepth 100000 in
theorem goes_any {a b : Tsk} (ha : taskB a = true) (hb : taskB b = true) {x y : Value} (hx : Cla a x) (hy : Cla b y) (w : World) :
    Calls Tryz.prog 166 #[x, y] w fun e w' => e = .returned (.bool (befB a b)) ∧ Keeps w w' := by
  rcases hx with ⟨c, rfl⟩ | ⟨c, rfl⟩ | ⟨c, rfl⟩ <;> rcases hy with ⟨d, rfl⟩ | ⟨d, rfl⟩ | ⟨d, rfl⟩
  · have := goes_dd a b w
    rw [asDue_is ha c, asDue_is hb d] at this
    rw [befB_due ha hb c d]
    exact this
  · rw [befB_less ha hb (by simp at c d; omega)]; exact goes_df a b w
  · rw [befB_less ha hb (by simp at c d; omega)]; exact goes_dr a b w
  · rw [befB_more (by simp at c d; omega)]; exact goes_fd a b w
  · have := goes_ff a b w
    rw [asFix_is ha c, asFix_is hb d] at this
    rw [befB_fix ha hb c d]
    exact this
  · rw [befB_less ha hb (by simp at c d; omega)]; exact goes_fr a b w
  · rw [befB_more (by simp at c d; omega)]; exact goes_rd a b w
  · rw [befB_more (by simp at c d; omega)]; exact goes_rf a b w
  · have := goes_rr a b w
    rw [asFair_is ha c, asFair_is hb d] at this
    rw [befB_fair ha hb c d]
    exact this

set_option maxRecDepth 100000 in
set_option maxHeartbeats 2000000 in
theorem implBefore_says : SaysBefore := by
  intro a b w
  go_enter Tryz.func115, Tryz.ntmps115
  go_wp2_with fail
  have kW : Keeps w ((w.alloc (.cells (tc a) 46)).alloc (.cells (tc b) 46)) := ((Keeps.refl w).alloc _).alloc _
  have r1 : ∀ w', Keeps ((w.alloc (.cells (tc a) 46)).alloc (.cells (tc b) 46)) w' → ∀ k, w'.cell? ⟨w.heap.size, k, none⟩ = (tc a)[k]? := fun w' h => (((Blk.new w (tc a) 46).alloc _).keeps h).cells
  have r2 : ∀ w', Keeps ((w.alloc (.cells (tc a) 46)).alloc (.cells (tc b) 46)) w' → ∀ k, w'.cell? ⟨w.heap.size + 1, k, none⟩ = (tc b)[k]? := fun w' h => by
    have := (Blk.new (w.alloc (.cells (tc a) 46)) (tc b) 46).keeps h
    simp only [World.size_alloc] at this
    exact this.cells
  generalize (w.alloc (.cells (tc a) 46)).alloc (.cells (tc b) 46) = W at *
  have K0 := Keeps.refl W
  have TA : Hid (∀ w, Calls Tryz.prog 113 #[tk a] w fun e w' => e = .returned (.bool (taskB a)) ∧ Keeps w w') := fun w => implTaskOk_says a w
  have TB : Hid (∀ w, Calls Tryz.prog 113 #[tk b] w fun e w' => e = .returned (.bool (taskB b)) ∧ Keeps w w') := fun w => implTaskOk_says b w
  cases ha : taskB a
  · have Hr : Hid (befB a b = false) := by show _ = _; simp [befB, ha]
    rw [ha] at TA
    refine wp_region_held_drew (S := (fun w' => Keeps W w')) (by kernel_rfl) ?_ (fun hHeld => ?_)
    · exact K0.drew
    refine takeH 0 (v := ?_) (by simp only [opsAt]; rfl) (by kernel_rfl) (by exact fun _ _ _ h => h) (by rfl) (by assumption) ?_ ?_
    rotate_left
    · (intro w _; go_simp; try (with_reducible rfl))
    try simp only [putAtH]
    refine callH 1 (by kernel_rfl) (by simp only [opsAt]; rfl) (fun K hK => ?_)
    go_simp
    first
      | (go_at_call 113; refine (TA.out _).mono ?_; rintro e w1 ⟨rfl, k1⟩)
    try go_wp2_with fail
    refine hK.out _ _ ?_ (fun hHeld => ?_)
    · exact Keeps.trans (by assumption) (by assumption)
    clear hK K
    try simp only [putAtH]
    refine takeH 2 (v := ?_) (by simp only [opsAt]; rfl) (by kernel_rfl) (by exact fun _ _ _ h => h) (by rfl) (by assumption) ?_ ?_
    rotate_left
    · (intro w _; go_simp; try (with_reducible rfl))
    try simp only [putAtH]
    refine Plan.go [3, 4] ?_
    iterate 2 (refine skipL (by simp only [opsAt]; rfl) (by kernel_rfl) (by exact fun _ _ _ h => h) (by rfl) (by assumption) ?_; try simp only [putAtH])
    refine Plan.nil ?_
    refine Plan.go [5, 6] ?_
    iterate 2 (refine takeL (by simp only [opsAt]; rfl) (by kernel_rfl) (by exact fun _ _ _ h => h) (by rfl) (by assumption) (fun w _ => by go_simp; try (with_reducible rfl)) ?_; try simp only [putAtH])
    refine Plan.nil ?_
    refine Plan.go [7, 8, 9, 10, 11] ?_
    iterate 5 (refine skipL (by simp only [opsAt]; rfl) (by kernel_rfl) (by exact fun _ _ _ h => h) (by rfl) (by assumption) ?_; try simp only [putAtH])
    refine Plan.nil ?_
    refine Plan.go [12, 13] ?_
    iterate 2 (refine takeL (by simp only [opsAt]; rfl) (by kernel_rfl) (by exact fun _ _ _ h => h) (by rfl) (by assumption) (fun w _ => by go_simp; try (with_reducible rfl)) ?_; try simp only [putAtH])
    refine Plan.nil ?_
    refine wpAnyH_done (by kernel_rfl) ?_ _
    have K1 : Keeps W w1 := by assumption
    go_wp2
    go_ret
    exact ⟨by rw [Hr.out]; rfl, kW.trans K1⟩
  cases hb : taskB b
  · have Hr : Hid (befB a b = false) := by show _ = _; simp [befB, hb]
    rw [ha] at TA
    rw [hb] at TB
    refine wp_region_held_drew (S := (fun w' => Keeps W w')) (by kernel_rfl) ?_ (fun hHeld => ?_)
    · exact K0.drew
    refine takeH 0 (v := ?_) (by simp only [opsAt]; rfl) (by kernel_rfl) (by exact fun _ _ _ h => h) (by rfl) (by assumption) ?_ ?_
    rotate_left
    · (intro w _; go_simp; try (with_reducible rfl))
    try simp only [putAtH]
    refine callH 1 (by kernel_rfl) (by simp only [opsAt]; rfl) (fun K hK => ?_)
    go_simp
    first
      | (go_at_call 113; have k0 := TA; clear TA; refine (k0.out _).mono ?_; rintro e w1 ⟨rfl, k1⟩)
      | (go_at_call 113; refine (TB.out _).mono ?_; rintro e w2 ⟨rfl, k2⟩)
    try go_wp2_with fail
    refine hK.out _ _ ?_ (fun hHeld => ?_)
    · exact Keeps.trans (by assumption) (by assumption)
    clear hK K
    try simp only [putAtH]
    refine Plan.go [2, 3] ?_
    iterate 2 (refine takeL (by simp only [opsAt]; rfl) (by kernel_rfl) (by exact fun _ _ _ h => h) (by rfl) (by assumption) (fun w _ => by go_simp; try (with_reducible rfl)) ?_; try simp only [putAtH])
    refine Plan.nil ?_
    refine callH 4 (by kernel_rfl) (by simp only [opsAt]; rfl) (fun K hK => ?_)
    go_simp
    first
      | (go_at_call 113; have k0 := TA; clear TA; refine (k0.out _).mono ?_; rintro e w1 ⟨rfl, k1⟩)
      | (go_at_call 113; refine (TB.out _).mono ?_; rintro e w2 ⟨rfl, k2⟩)
    try go_wp2_with fail
    refine hK.out _ _ ?_ (fun hHeld => ?_)
    · exact Keeps.trans (by assumption) (by assumption)
    clear hK K
    try simp only [putAtH]
    refine Plan.go [5, 6] ?_
    iterate 2 (refine takeL (by simp only [opsAt]; rfl) (by kernel_rfl) (by exact fun _ _ _ h => h) (by rfl) (by assumption) (fun w _ => by go_simp; try (with_reducible rfl)) ?_; try simp only [putAtH])
    refine Plan.nil ?_
    refine Plan.go [7, 8, 9, 10, 11] ?_
    iterate 5 (refine skipL (by simp only [opsAt]; rfl) (by kernel_rfl) (by exact fun _ _ _ h => h) (by rfl) (by assumption) ?_; try simp only [putAtH])
    refine Plan.nil ?_
    refine Plan.go [12, 13] ?_
    iterate 2 (refine takeL (by simp only [opsAt]; rfl) (by kernel_rfl) (by exact fun _ _ _ h => h) (by rfl) (by assumption) (fun w _ => by go_simp; try (with_reducible rfl)) ?_; try simp only [putAtH])
    refine Plan.nil ?_
    refine wpAnyH_done (by kernel_rfl) ?_ _
    have K2 : Keeps W w2 := by assumption
    go_wp2
    go_ret
    exact ⟨by rw [Hr.out]; rfl, kW.trans K2⟩
  · have OA : Hid (∀ w, Calls Tryz.prog 167 #[tk a] w fun e w' => ∃ v, e = .returned v ∧ Cla a v ∧ Keeps w w') := fun w => ofItsClass_any ha w
    have OB : Hid (∀ w, Calls Tryz.prog 167 #[tk b] w fun e w' => ∃ v, e = .returned v ∧ Cla b v ∧ Keeps w w') := fun w => ofItsClass_any hb w
    have GG : Hid (∀ x y w, Cla a x → Cla b y → Calls Tryz.prog 166 #[x, y] w fun e w' => e = .returned (.bool (befB a b)) ∧ Keeps w w') := fun x y w hx hy => goes_any ha hb hx hy w
    obtain ⟨z, Hz⟩ : ∃ z, Hid (befB a b = z) := ⟨_, rfl⟩
    rw [Hz.out] at GG
    rw [ha] at TA
    rw [hb] at TB
    clear ha hb
    refine wp_region_held_drew (S := (fun w' => Keeps W w')) (by kernel_rfl) ?_ (fun hHeld => ?_)
    · exact K0.drew
    refine takeH 0 (v := ?_) (by simp only [opsAt]; rfl) (by kernel_rfl) (by exact fun _ _ _ h => h) (by rfl) (by assumption) ?_ ?_
    rotate_left
    · (intro w _; go_simp; try (with_reducible rfl))
    try simp only [putAtH]
    refine callH 1 (by kernel_rfl) (by simp only [opsAt]; rfl) (fun K hK => ?_)
    go_simp
    first
      | (go_at_call 113; have k0 := TA; clear TA; refine (k0.out _).mono ?_; rintro e w1 ⟨rfl, k1⟩)
      | (go_at_call 113; refine (TB.out _).mono ?_; rintro e w2 ⟨rfl, k2⟩)
      | (go_at_call 167; have k0 := OA; clear OA; refine (k0.out _).mono ?_; rintro e w3 ⟨x, rfl, hx, k3⟩)
      | (go_at_call 167; refine (OB.out _).mono ?_; rintro e w4 ⟨y, rfl, hy, k4⟩)
      | (go_at_call 166; refine (GG.out _ _ _ hx hy).mono ?_; rintro e w5 ⟨rfl, k5⟩)
    try go_wp2_with fail
    refine hK.out _ _ ?_ (fun hHeld => ?_)
    · exact Keeps.trans (by assumption) (by assumption)
    clear hK K
    try simp only [putAtH]
    refine Plan.go [2, 3] ?_
    iterate 2 (refine takeL (by simp only [opsAt]; rfl) (by kernel_rfl) (by exact fun _ _ _ h => h) (by rfl) (by assumption) (fun w _ => by go_simp; try (with_reducible rfl)) ?_; try simp only [putAtH])
    refine Plan.nil ?_
    refine callH 4 (by kernel_rfl) (by simp only [opsAt]; rfl) (fun K hK => ?_)
    go_simp
    first
      | (go_at_call 113; have k0 := TA; clear TA; refine (k0.out _).mono ?_; rintro e w1 ⟨rfl, k1⟩)
      | (go_at_call 113; refine (TB.out _).mono ?_; rintro e w2 ⟨rfl, k2⟩)
      | (go_at_call 167; have k0 := OA; clear OA; refine (k0.out _).mono ?_; rintro e w3 ⟨x, rfl, hx, k3⟩)
      | (go_at_call 167; refine (OB.out _).mono ?_; rintro e w4 ⟨y, rfl, hy, k4⟩)
      | (go_at_call 166; refine (GG.out _ _ _ hx hy).mono ?_; rintro e w5 ⟨rfl, k5⟩)
    try go_wp2_with fail
    refine hK.out _ _ ?_ (fun hHeld => ?_)
    · exact Keeps.trans (by assumption) (by assumption)
    clear hK K
    try simp only [putAtH]
    refine Plan.go [5, 6, 7, 9] ?_
    iterate 4 (refine takeL (by simp only [opsAt]; rfl) (by kernel_rfl) (by exact fun _ _ _ h => h) (by rfl) (by assumption) (fun w _ => by go_simp; try (with_reducible rfl)) ?_; try simp only [putAtH])
    refine Plan.nil ?_
    refine callH 8 (by kernel_rfl) (by simp only [opsAt]; rfl) (fun K hK => ?_)
    go_simp
    first
      | (go_at_call 113; have k0 := TA; clear TA; refine (k0.out _).mono ?_; rintro e w1 ⟨rfl, k1⟩)
      | (go_at_call 113; refine (TB.out _).mono ?_; rintro e w2 ⟨rfl, k2⟩)
      | (go_at_call 167; have k0 := OA; clear OA; refine (k0.out _).mono ?_; rintro e w3 ⟨x, rfl, hx, k3⟩)
      | (go_at_call 167; refine (OB.out _).mono ?_; rintro e w4 ⟨y, rfl, hy, k4⟩)
      | (go_at_call 166; refine (GG.out _ _ _ hx hy).mono ?_; rintro e w5 ⟨rfl, k5⟩)
    try go_wp2_with fail
    refine hK.out _ _ ?_ (fun hHeld => ?_)
    · exact Keeps.trans (by assumption) (by assumption)
    clear hK K
    try simp only [putAtH]
    refine callH 10 (by kernel_rfl) (by simp only [opsAt]; rfl) (fun K hK => ?_)
    go_simp
    first
      | (go_at_call 113; have k0 := TA; clear TA; refine (k0.out _).mono ?_; rintro e w1 ⟨rfl, k1⟩)
      | (go_at_call 113; refine (TB.out _).mono ?_; rintro e w2 ⟨rfl, k2⟩)
      | (go_at_call 167; have k0 := OA; clear OA; refine (k0.out _).mono ?_; rintro e w3 ⟨x, rfl, hx, k3⟩)
      | (go_at_call 167; refine (OB.out _).mono ?_; rintro e w4 ⟨y, rfl, hy, k4⟩)
      | (go_at_call 166; refine (GG.out _ _ _ hx hy).mono ?_; rintro e w5 ⟨rfl, k5⟩)
    try go_wp2_with fail
    refine hK.out _ _ ?_ (fun hHeld => ?_)
    · exact Keeps.trans (by assumption) (by assumption)
    clear hK K
    try simp only [putAtH]
    refine callH 11 (by kernel_rfl) (by simp only [opsAt]; rfl) (fun K hK => ?_)
    go_simp
    first
      | (go_at_call 113; have k0 := TA; clear TA; refine (k0.out _).mono ?_; rintro e w1 ⟨rfl, k1⟩)
      | (go_at_call 113; refine (TB.out _).mono ?_; rintro e w2 ⟨rfl, k2⟩)
      | (go_at_call 167; have k0 := OA; clear OA; refine (k0.out _).mono ?_; rintro e w3 ⟨x, rfl, hx, k3⟩)
      | (go_at_call 167; refine (OB.out _).mono ?_; rintro e w4 ⟨y, rfl, hy, k4⟩)
      | (go_at_call 166; refine (GG.out _ _ _ hx hy).mono ?_; rintro e w5 ⟨rfl, k5⟩)
    try go_wp2_with fail
    refine hK.out _ _ ?_ (fun hHeld => ?_)
    · exact Keeps.trans (by assumption) (by assumption)
    clear hK K
    try simp only [putAtH]
    refine Plan.go [12, 13] ?_
    iterate 2 (refine takeL (by simp only [opsAt]; rfl) (by kernel_rfl) (by exact fun _ _ _ h => h) (by rfl) (by assumption) (fun w _ => by go_simp; try (with_reducible rfl)) ?_; try simp only [putAtH])
    refine Plan.nil ?_
    refine wpAnyH_done (by kernel_rfl) ?_ _
    have K5 : Keeps W w5 := by assumption
    go_wp2
    go_ret
    exact ⟨by rw [Hz.out]; rfl, kW.trans K5⟩

set_option maxRecDepth 100000 in
/-- What is left. -/
theorem hasTimeLeft_any {t : Tsk} {x : Value} (hx : Cla t x) (w : World) :
    Calls Tryz.prog 169 #[x] w fun e w' => e = .returned (.bool (mayB t)) ∧ Keeps w w' := by
  have q1 := ask_dd
  have q2 := ask_fd
  have q3 := ask_rd
  rcases hx with ⟨c, rfl⟩ | ⟨c, rfl⟩ | ⟨c, rfl⟩
  · have Hr : Hid (mayB t = decide (0 < t.left)) := by show _ = _; unfold mayB; simp at c; simp [c]
    go_enter Tryz.func169, Tryz.ntmps169
    go_wp2
    go_ret
    exact ⟨by rw [Hr.out]; rfl, (Keeps.refl w).alloc _⟩
  · have Hr : Hid (mayB t = true) := by show _ = _; unfold mayB; simp at c; simp [c]
    go_enter Tryz.func169, Tryz.ntmps169
    go_wp2
    go_ret
    exact ⟨by rw [Hr.out]; rfl, (Keeps.refl w).alloc _⟩
  · have Hr : Hid (mayB t = true) := by show _ = _; unfold mayB; simp at c; simp [c]
    go_enter Tryz.func169, Tryz.ntmps169
    go_wp2
    go_ret
    exact ⟨by rw [Hr.out]; rfl, (Keeps.refl w).alloc _⟩

set_option maxRecDepth 100000 in
theorem OnT.pTaskAt {w w' : World} {a : Option Addr} {n cap : Nat} {ts : List Tsk} (h : OnT w a n cap ts) (x : Int) {z : Int} (hz : atFrom ts x = z) (k : Keeps w w') : Calls Tryz.prog 114 #[.slice a n cap, .int .i64 x] w' fun e w'' => e = .returned (.int .i64 z) ∧ Keeps w' w'' := by
  have := implTaskAt_says a cap ts x w' h.small (h.keeps k).lies
  rw [h.len, hz] at this
  exact this
set_option maxRecDepth 100000 in
theorem OnT.pTasksOk {w w' : World} {a : Option Addr} {n cap : Nat} {ts : List Tsk} (h : OnT w a n cap ts) {z : Bool} (hz : tasksB ts = z) (k : Keeps w w') : Calls Tryz.prog 150 #[.slice a n cap] w' fun e w'' => e = .returned (.bool z) ∧ Keeps w' w'' := by
  have := implTasksOk_says a cap ts w' h.small (h.keeps k).lies
  rw [h.len, hz] at this
  exact this

set_option maxRecDepth 100000 in
/-- It is ready. -/
theorem isReady_any {w : World} {a : Option Addr} {n cap : Nat} {ts : List Tsk} (h : OnT w a n cap ts) {x : Int} (hx : thereB ts x = true) :
    Calls Tryz.prog 204 #[.slice a n cap, .int .i64 x] w fun e w' => e = .returned (.bool ((tAt ts x).st == 1)) ∧ Keeps w w' := by
  have H : Hid (OnT w a n cap ts) := h
  obtain ⟨k, b, o, hk, e, Hk, -, -, -, r1⟩ := h.there hx
  subst e
  have HK : Hid (atFrom ts x = (k : Int)) := Hk
  clear h hx Hk
  have hk' : (k : Int) < (n : Int) := by omega
  go_enter Tryz.func204, Tryz.ntmps204
  go_wp2_with (go_at_call 114; refine (H.out.pTaskAt x HK.out (Keeps.refl _)).mono ?_; rintro e w1 ⟨rfl, k1⟩)
  go_ret
  exact ⟨rfl, k1⟩
end Go.Proofs.YthobpahnmmdbiaaGreatDoor
namespace Go.Proofs.YthobpahnmmdbiaaGreatDoor
open Go.RowKit
attribute [local go_sem] Keeps.refl Keeps.alloc Keeps.drew Keeps.drewN

/-- The last of the first k. -/
def lastP (C : List Int) (k : Nat) : Int := if k = 0 then 0 else C.getD (k - 1) 0
theorem lastP_step {C : List Int} {k : Nat} {x : Int} (h : C[k]? = some x) : lastP C (k + 1) = x := by
  unfold lastP
  rw [if_neg (by omega), Nat.add_sub_cancel, List.getD_eq_getElem?_getD, h]
  rfl
theorem execP_is {ts : List Tsk} {ls : List Lk} {no : Int} (ht : tasksB ts = true) : execP ts ls no = if (chainL ls no).all (thereB ts) then lastP (chainL ls no) (chainL ls no).length else 0 := by
  unfold execP bothB chainL
  rw [ht]
  cases hb : locksB ls
  · simp [lastP]
  · simp only [Bool.and_self, if_true]
    unfold execI
    have := chainC_pos ls no
    change (if (chainC ls no).all (thereB ts) = true then lastI (chainC ls no) else 0) = if (chainC ls no).all (thereB ts) = true then lastP (chainC ls no) (chainC ls no).length else 0
    unfold lastI lastP
    rw [if_neg (show ¬ (chainC ls no).length = 0 by omega)]

set_option maxRecDepth 100000 in
set_option maxHeartbeats 2000000 in
theorem implExecutor_says : SaysExecutor := by
  intro w a n cap ts b m cap2 ls no hcap h2
  have H : Hid (Two w a n cap ts b m cap2 ls) := h2
  have CH : Hid (∀ w', Keeps w w' → Calls Tryz.prog 170 #[.slice b m cap2, .int .i64 no] w' fun e w'' => ∃ v, e = .returned v ∧ OwnN w'' w'.heap.size v (chainL ls no) ∧ Keeps w' w'') := fun w' k => by
    have := implChainOf_all b cap2 ls no w' h2.l.size (h2.l.keeps k).lks
    rw [h2.l.len] at this
    exact this
  clear h2 hcap
  cases ht : tasksB ts
  · have Hr : Hid (execP ts ls no = 0) := by show _ = _; unfold execP bothB; rw [ht]; rfl
    go_enter Tryz.func118, Tryz.ntmps118
    go_wp2_with (go_at_call 150; refine (H.out.t.pTasksOk ht (Keeps.refl _)).mono ?_; rintro e w1 ⟨rfl, k1⟩)
    go_ret
    exact ⟨by rw [Hr.out]; rfl, k1⟩
  have hE := execP_is (ls := ls) (no := no) ht
  obtain ⟨C, HC⟩ : ∃ C, Hid (chainL ls no = C) := ⟨_, rfl⟩
  rw [HC.out] at CH hE
  have HE : Hid (execP ts ls no = if C.all (thereB ts) then lastP C C.length else 0) := hE
  clear hE HC
  go_enter Tryz.func118, Tryz.ntmps118
  go_wp2_with fail
  refine (H.out.t.pTasksOk ht (Keeps.refl _)).mono ?_
  rintro e w1 ⟨rfl, k1⟩
  go_wp2_with fail
  refine (CH.out _ k1).mono ?_
  rintro e w2 ⟨v, rfl, o2, k2⟩
  obtain ⟨av, cv, rfl, nv, l1, l2⟩ := OwnN.ns o2
  have NV : Hid (Ns w2 av C) := nv
  have K2 : Hid (Keeps w w2) := k1.trans k2
  obtain ⟨q, Hq⟩ : ∃ q, Hid (C.length = q) := ⟨_, rfl⟩
  rw [Hq.out] at l1 ⊢
  have hq : q ≤ maxLen := by omega
  unfold maxLen at hq
  clear o2 nv k1 k2 l2
  go_wp2
  go_loopw [7, 17] (fun l i wr => ∃ (k : Nat) (z : Int), k ≤ q ∧ i = .int .i64 k ∧ l = .int .i64 z ∧ Hid (lastP C k = z) ∧ Keeps w2 wr ∧ Hid (∀ j x, j < k → C[j]? = some x → thereB ts x = true)) (fun _ i _ => q - (intOf i).toNat)
  case atStart => exact ⟨0, 0, Nat.zero_le _, rfl, rfl, rfl, Keeps.refl _, fun j x hj => by omega⟩
  case round =>
    obtain ⟨k, z, hk, rfl, rfl, Hl, hK, HH⟩ := hrel
    by_cases hlt : k < q
    · have hlt' : (k : Int) < (q : Int) := by omega
      obtain ⟨x, hx⟩ := some_in (xs := C) (k := k) (by rw [Hq.out]; exact hlt)
      obtain ⟨bc, oc, rfl, r0⟩ := NV.out.at hx
      have Hx : Hid (C[k]? = some x) := hx
      clear hx
      obtain ⟨y, Hy⟩ : ∃ y, Hid (atFrom ts x = y) := ⟨_, rfl⟩
      cases hn : decide (y < 0)
      · have hth : thereB ts x = true := by unfold thereB; rw [Hy.out, hn]; rfl
        go_wp2_with (go_at_call 114; refine (H.out.t.pTaskAt x Hy.out (K2.out.trans hK)).mono ?_; rintro e w3 ⟨rfl, k3⟩)
        exact ⟨⟨k + 1, x, by omega, by go_num, rfl, lastP_step Hx.out, hK.trans k3, fun j y hj hy => by
          by_cases e : j = k
          · subst e; rw [Hx.out] at hy; cases hy; exact hth
          · exact HH.out j y (by omega) hy⟩, by simp only [intOf]; omega⟩
      · have hth : thereB ts x = false := by unfold thereB; rw [Hy.out, hn]; rfl
        have Hr : Hid (execP ts ls no = 0) := by
          show _ = _
          rw [HE.out, if_neg]
          rw [List.all_eq_true]
          intro h
          have := h x (List.mem_of_getElem? Hx.out)
          rw [hth] at this
          cases this
        go_wp2_with (go_at_call 114; refine (H.out.t.pTaskAt x Hy.out (K2.out.trans hK)).mono ?_; rintro e w3 ⟨rfl, k3⟩)
        go_ret
        exact ⟨by rw [Hr.out]; rfl, K2.out.trans (hK.trans k3)⟩
    · have Hr : Hid (execP ts ls no = z) := by
        show _ = _
        obtain rfl : k = q := by omega
        rw [HE.out, if_pos, Hq.out]
        · exact Hl.out
        · rw [List.all_eq_true]
          intro x hx
          obtain ⟨j, hj, rfl⟩ := List.mem_iff_getElem.1 hx
          exact HH.out j _ (by rw [Hq.out] at hj; omega) (List.getElem?_eq_getElem hj)
      go_wp2
      go_ret
      exact ⟨by rw [Hr.out]; rfl, K2.out.trans hK⟩
set_option maxRecDepth 100000 in
theorem Two.pExec {w w' : World} {a : Option Addr} {n cap : Nat} {ts : List Tsk} {b : Option Addr} {m cap2 : Nat} {ls : List Lk} (h : Two w a n cap ts b m cap2 ls) (hn : n ≤ cap) (no : Int) {z : Int} (hz : execP ts ls no = z) (k : Keeps w w') : Calls Tryz.prog 118 #[.slice a n cap, .slice b m cap2, .int .i64 no] w' fun e w'' => e = .returned (.int .i64 z) ∧ Keeps w' w'' := by
  have := implExecutor_says w' a n cap ts b m cap2 ls no hn (h.keeps k)
  rw [hz] at this
  exact this

theorem exec_both {ts : List Tsk} {ls : List Lk} {no : Int} (h : (execP ts ls no != 0) = true) : bothB ts ls = true ∧ execI ts ls no = execP ts ls no ∧ thereB ts no = true ∧ thereB ts (execP ts ls no) = true := by
  have hb : bothB ts ls = true := by
    cases hb : bothB ts ls
    · unfold execP at h; rw [hb] at h; simp at h
    · rfl
  have he : execI ts ls no = execP ts ls no := by unfold execP; rw [hb]; rfl
  have := exec_there (ts := ts) (ls := ls) (no := no) (by rw [he]; exact h)
  rw [he] at this
  exact ⟨hb, he, this.2.2.1, this.2.2.2⟩
theorem ableP_is (ts : List Tsk) (ls : List Lk) (no : Int) : ableP ts ls no = (execP ts ls no != 0 && ((tAt ts no).st == 1 && (tAt ts (execP ts ls no)).st == 1)) := by
  unfold ableP ableB execP
  cases hb : bothB ts ls
  · simp
  · simp

set_option maxRecDepth 100000 in
set_option maxHeartbeats 2000000 in
theorem implAble_says : SaysAble := by
  intro w a n cap ts b m cap2 ls no hcap h2
  have H : Hid (Two w a n cap ts b m cap2 ls) := h2
  have HN : Hid (n ≤ cap) := hcap
  clear h2 hcap
  have HA := ableP_is ts ls no
  obtain ⟨x, Hx⟩ : ∃ x, Hid (execP ts ls no = x) := ⟨_, rfl⟩
  have EB := exec_both (ts := ts) (ls := ls) (no := no)
  rw [Hx.out] at HA EB
  have Hr : Hid (ableP ts ls no = (x != 0 && ((tAt ts no).st == 1 && (tAt ts x).st == 1))) := HA
  clear HA
  cases hx : (x != 0)
  · have Hr2 : Hid (ableP ts ls no = false) := by show _ = _; rw [Hr.out, hx]; rfl
    go_enter Tryz.func168, Tryz.ntmps168
    go_wp2_with (go_at_call 118; refine (H.out.pExec HN.out no Hx.out (Keeps.refl _)).mono ?_; rintro e w1 ⟨rfl, k1⟩)
    go_ret
    exact ⟨by rw [Hr2.out]; rfl, k1⟩
  have E2 := EB hx
  clear EB
  have R1 : Hid (∀ w', Keeps w w' → Calls Tryz.prog 204 #[.slice a n cap, .int .i64 no] w' fun e w'' => e = .returned (.bool ((tAt ts no).st == 1)) ∧ Keeps w' w'') := fun w' k => isReady_any (H.out.t.keeps k) E2.2.2.1
  have R2 : Hid (∀ w', Keeps w w' → Calls Tryz.prog 204 #[.slice a n cap, .int .i64 x] w' fun e w'' => e = .returned (.bool ((tAt ts x).st == 1)) ∧ Keeps w' w'') := fun w' k => isReady_any (H.out.t.keeps k) E2.2.2.2
  clear E2
  cases h1 : ((tAt ts no).st == 1)
  · have Hr2 : Hid (ableP ts ls no = false) := by show _ = _; rw [Hr.out, h1, Bool.false_and, Bool.and_false]
    rw [h1] at R1
    go_enter Tryz.func168, Tryz.ntmps168
    go_wp2_with (first
      | (go_at_call 118; refine (H.out.pExec HN.out no Hx.out (Keeps.refl _)).mono ?_; rintro e w1 ⟨rfl, k1⟩)
      | (go_at_call 204; refine (R1.out _ k1).mono ?_; rintro e w2 ⟨rfl, k2⟩; have K2 := k1.trans k2))
    go_ret
    exact ⟨by rw [Hr2.out]; rfl, K2⟩
  · have Hr2 : Hid (ableP ts ls no = ((tAt ts x).st == 1)) := by show _ = _; rw [Hr.out, hx, h1]; rfl
    rw [h1] at R1
    go_enter Tryz.func168, Tryz.ntmps168
    go_wp2_with (first
      | (go_at_call 118; refine (H.out.pExec HN.out no Hx.out (Keeps.refl _)).mono ?_; rintro e w1 ⟨rfl, k1⟩)
      | (go_at_call 204; have k0 := k1; clear k1; refine (R1.out _ k0).mono ?_; rintro e w2 ⟨rfl, k2⟩; have K2 := k0.trans k2)
      | (go_at_call 204; refine (R2.out _ K2).mono ?_; rintro e w3 ⟨rfl, k3⟩; have K3 := K2.trans k3))
    go_ret
    exact ⟨by rw [Hr2.out]; rfl, K3⟩
set_option maxRecDepth 100000 in
theorem Two.pAble {w w' : World} {a : Option Addr} {n cap : Nat} {ts : List Tsk} {b : Option Addr} {m cap2 : Nat} {ls : List Lk} (h : Two w a n cap ts b m cap2 ls) (hn : n ≤ cap) (no : Int) {z : Bool} (hz : ableP ts ls no = z) (k : Keeps w w') : Calls Tryz.prog 168 #[.slice a n cap, .slice b m cap2, .int .i64 no] w' fun e w'' => e = .returned (.bool z) ∧ Keeps w' w'' := by
  have := implAble_says w' a n cap ts b m cap2 ls no hn (h.keeps k)
  rw [hz] at this
  exact this
theorem canP_is (ts : List Tsk) (ls : List Lk) (no : Int) : canP ts ls no = (ableP ts ls no && mayB (tAt ts no)) := by
  unfold canP canB ableP
  rw [Bool.and_assoc]

set_option maxRecDepth 100000 in
set_option maxHeartbeats 2000000 in
theorem implCanTurn_says : SaysCanTurn := by
  intro w a n cap ts b m cap2 ls no hcap h2
  have H : Hid (Two w a n cap ts b m cap2 ls) := h2
  have HN : Hid (n ≤ cap) := hcap
  clear h2 hcap
  cases hA : ableP ts ls no
  · have Hr : Hid (canP ts ls no = false) := by show _ = _; rw [canP_is, hA]; rfl
    go_enter Tryz.func116, Tryz.ntmps116
    go_wp2_with (go_at_call 168; refine (H.out.pAble HN.out no hA (Keeps.refl _)).mono ?_; rintro e w1 ⟨rfl, k1⟩)
    go_ret
    exact ⟨by rw [Hr.out]; rfl, k1⟩
  · have Hr : Hid (canP ts ls no = mayB (tAt ts no)) := by show _ = _; rw [canP_is, hA]; rfl
    have hb : bothB ts ls = true ∧ ableB ts ls no = true := by unfold ableP at hA; simpa using hA
    have th := (able_there hb.2).1
    have htk : tasksB ts = true := by have := hb.1; unfold bothB at this; simp at this; exact this.1
    obtain ⟨k, b1, o1, hk, e, Hk, hk2, -, r0, r1⟩ := H.out.t.there th
    have htt : taskB (tAt ts no) = true := tasksB_task htk hk2
    subst e
    have HK : Hid (atFrom ts no = (k : Int)) := Hk
    have hk' : (k : Int) < (n : Int) := by omega
    obtain ⟨t, Ht⟩ : ∃ t, Hid (tAt ts no = t) := ⟨_, rfl⟩
    rw [Ht.out] at r0 r1 htt Hr
    have OC : Hid (∀ w, Calls Tryz.prog 167 #[tk t] w fun e w' => ∃ v, e = .returned v ∧ Cla t v ∧ Keeps w w') := fun w => ofItsClass_any htt w
    clear Hk hk2 hb th htk htt
    go_enter Tryz.func116, Tryz.ntmps116
    go_wp2_with (first
      | (go_at_call 168; refine (H.out.pAble HN.out no hA (Keeps.refl _)).mono ?_; rintro e w1 ⟨rfl, k1⟩)
      | (go_at_call 114; refine (H.out.t.pTaskAt no HK.out k1).mono ?_; rintro e w2 ⟨rfl, k2⟩; have K2 := k1.trans k2)
      | (go_at_call 167; refine (OC.out _).mono ?_; rintro e w3 ⟨x, rfl, hx, k3⟩; have K3 := K2.trans k3)
      | (go_at_call 169; refine (hasTimeLeft_any hx _).mono ?_; rintro e w4 ⟨rfl, k4⟩; have K4 := K3.trans k4))
    go_ret
    exact ⟨by rw [Hr.out]; rfl, K4⟩
set_option maxRecDepth 100000 in
theorem Two.pCan {w w' : World} {a : Option Addr} {n cap : Nat} {ts : List Tsk} {b : Option Addr} {m cap2 : Nat} {ls : List Lk} (h : Two w a n cap ts b m cap2 ls) (hn : n ≤ cap) (no : Int) {z : Bool} (hz : canP ts ls no = z) (k : Keeps w w') : Calls Tryz.prog 116 #[.slice a n cap, .slice b m cap2, .int .i64 no] w' fun e w'' => e = .returned (.bool z) ∧ Keeps w' w'' := by
  have := implCanTurn_says w' a n cap ts b m cap2 ls no hn (h.keeps k)
  rw [hz] at this
  exact this
end Go.Proofs.YthobpahnmmdbiaaGreatDoor
