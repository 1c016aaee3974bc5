/-
  What a task is: contracts of the model's functions over one task.
  Weights and steps: the model's, and the laws' walks over contracts of the program's functions.
  A task is written over an element of a row.
  Lists of tasks: the laws' own helpers, and what the model's functions that only read a list answer.
-/
import Derived.Test.YthpdlbcdbncnhaaGreatDoorGTask1
import Derived.Deep.DeepCutAuto
import Derived.Test.YthpdlbcdbncnhaaGreatDoorGBase1
namespace Go.Proofs.YthpdlbcdbncnhaaGreatDoor
open Go.RowKit

def dueZ (t : Tsk) : Bool := t.q == 0 && t.p == 0 && t.due == 0
def fixZ (t : Tsk) : Bool := t.prio == 0 && t.round == 0 && t.seq == 0
def fairZ (t : Tsk) : Bool := t.nice == 0 && t.v == 0
/-- Nothing is set that its class does not name. -/
def cleanB (t : Tsk) : Bool := if t.cls == 1 then fixZ t && fairZ t else if t.cls == 2 then dueZ t && fairZ t else dueZ t && fixZ t && t.left == 0
/-- What the class asks. -/
def ofClassB (t : Tsk) : Bool := if t.cls == 1 then okB t.q t.p && inB t.left 0 t.q && inB t.due 0 100040 else if t.cls == 2 then inB t.prio 1 20 && inB t.round 0 10 && inB t.left (min t.round 1) t.round && inB t.seq 0 1000000 else inB t.nice (-4) 4 && inB t.v 0 100000000
/-- It is a task. -/
def taskB (t : Tsk) : Bool := inB t.no 1 1000 && inB t.cls 1 3 && inB t.cpu 0 3 && inB t.st 1 2 && cleanB t && ofClassB t

set_option maxHeartbeats 2000000 in
theorem l3Clean_any (t : Tsk) (w : World) :
    Calls Tryz.prog 154 #[tk t] w fun e w' => e = .returned (.bool (cleanB t)) ∧ w' = w.alloc (.cells (tc t) 47) := by
  go_enter Tryz.func154, Tryz.ntmps154
  go_upto_region 1 with fail
  go_cut [3] (fun c wx => c = .bool (dueZ t) ∧ wx = w.alloc (.cells (tc t) 47))
  case first =>
    cases b0 : (t.q == 0)
    · have Hr : Hid (dueZ t = false) := by show _ = _; simp [dueZ, b0]
      go_wp2
      go_meet
      exact ⟨by rw [Hr.out], rfl⟩
    cases b1 : (t.p == 0)
    · have Hr : Hid (dueZ t = false) := by show _ = _; simp [dueZ, b0, b1]
      go_wp2
      go_meet
      exact ⟨by rw [Hr.out], rfl⟩
    have Hr : Hid (dueZ t = (t.due == 0)) := by show _ = _; simp [dueZ, b0, b1]
    go_wp2
    go_meet
    exact ⟨by rw [Hr.out], rfl⟩
  case rest =>
  obtain ⟨rfl, rfl⟩ := hcut
  go_upto_region 2 with fail
  go_cut [4] (fun c wx => c = .bool (fixZ t) ∧ wx = w.alloc (.cells (tc t) 47))
  case first =>
    cases b0 : (t.prio == 0)
    · have Hr : Hid (fixZ t = false) := by show _ = _; simp [fixZ, b0]
      go_wp2
      go_meet
      exact ⟨by rw [Hr.out], rfl⟩
    cases b1 : (t.round == 0)
    · have Hr : Hid (fixZ t = false) := by show _ = _; simp [fixZ, b0, b1]
      go_wp2
      go_meet
      exact ⟨by rw [Hr.out], rfl⟩
    have Hr : Hid (fixZ t = (t.seq == 0)) := by show _ = _; simp [fixZ, b0, b1]
    go_wp2
    go_meet
    exact ⟨by rw [Hr.out], rfl⟩
  case rest =>
  obtain ⟨rfl, rfl⟩ := hcut
  go_upto_region 3 with fail
  go_cut [5] (fun c wx => c = .bool (fairZ t) ∧ wx = w.alloc (.cells (tc t) 47))
  case first =>
    cases b0 : (t.nice == 0)
    · have Hr : Hid (fairZ t = false) := by show _ = _; simp [fairZ, b0]
      go_wp2
      go_meet
      exact ⟨by rw [Hr.out], rfl⟩
    have Hr : Hid (fairZ t = (t.v == 0)) := by show _ = _; simp [fairZ, b0]
    go_wp2
    go_meet
    exact ⟨by rw [Hr.out], rfl⟩
  case rest =>
  obtain ⟨rfl, rfl⟩ := hcut
  cases c1 : (t.cls == 1)
  · cases c2 : (t.cls == 2)
    · have Hr : Hid (cleanB t = (dueZ t && fixZ t && t.left == 0)) := by show _ = _; simp [cleanB, c1, c2]
      generalize dueZ t = d at *
      generalize fixZ t = f at *
      cases d
      · go_wp2; go_ret; exact ⟨by rw [Hr.out]; rfl, rfl⟩
      · cases f <;> (go_wp2; go_ret; exact ⟨by rw [Hr.out]; rfl, rfl⟩)
    · have Hr : Hid (cleanB t = (dueZ t && fairZ t)) := by show _ = _; simp [cleanB, c1, c2]
      generalize dueZ t = d at *
      cases d <;> (go_wp2; go_ret; exact ⟨by rw [Hr.out]; rfl, rfl⟩)
  · have Hr : Hid (cleanB t = (fixZ t && fairZ t)) := by show _ = _; simp [cleanB, c1]
    generalize fixZ t = f at *
    cases f <;> (go_wp2; go_ret; exact ⟨by rw [Hr.out]; rfl, rfl⟩)
theorem l1Min_any (a b : Int) (w : World) :
    Calls Tryz.prog 155 #[.int .i64 a, .int .i64 b] w fun e w' => e = .returned (.int .i64 (min a b)) ∧ w' = w := by
  by_cases h0 : a < b
  · have Hr : Hid (min a b = a) := by show _ = _; omega
    go_enter Tryz.func155, Tryz.ntmps155
    go_wp2
    go_ret
    exact ⟨by rw [Hr.out]; rfl, rfl⟩
  · have Hr : Hid (min a b = b) := by show _ = _; omega
    go_enter Tryz.func155, Tryz.ntmps155
    go_wp2
    go_ret
    exact ⟨by rw [Hr.out]; rfl, rfl⟩

set_option maxHeartbeats 4000000 in
theorem specTaskOk_fixed (t : Tsk) (w : World) (b1 : inB t.no 1 1000 = true) (b2 : inB t.cls 1 3 = true) (b3 : inB t.cpu 0 3 = true) (b4 : inB t.st 1 2 = true) (b5 : cleanB t = true) (c1 : (t.cls == 1) = false) (c2 : (t.cls == 2) = true) :
    Calls Tryz.prog 109 #[tk t] w fun e w' => e = .returned (.bool (inB t.prio 1 20 && inB t.round 0 10 && inB t.left (min t.round 1) t.round && inB t.seq 0 1000000)) ∧ Keeps w w' := by
  go_enter Tryz.func109, Tryz.ntmps109
  go_wp2_with (first
      | (go_at_call 64; refine (l1In_any _ _ _ _).mono ?_; rintro e w' ⟨rfl, rfl⟩)
      | (go_at_call 154; refine (l3Clean_any _ _).mono ?_; rintro e w' ⟨rfl, rfl⟩))
  have kW : Keeps w ((w.alloc (.cells (tc t) 47)).alloc (.cells (tc t) 47)) := ((Keeps.refl _).alloc _).alloc _
  have r7 := Keeps.has (W := ((w.alloc (.cells (tc t) 47)).alloc (.cells (tc t) 47))) (b := w.heap.size) (o := 7) (v := .int .i64 t.left) (by simp [go_sem])
  have r9 := Keeps.has (W := ((w.alloc (.cells (tc t) 47)).alloc (.cells (tc t) 47))) (b := w.heap.size) (o := 9) (v := .int .i64 t.prio) (by simp [go_sem])
  have r10 := Keeps.has (W := ((w.alloc (.cells (tc t) 47)).alloc (.cells (tc t) 47))) (b := w.heap.size) (o := 10) (v := .int .i64 t.round) (by simp [go_sem])
  have r11 := Keeps.has (W := ((w.alloc (.cells (tc t) 47)).alloc (.cells (tc t) 47))) (b := w.heap.size) (o := 11) (v := .int .i64 t.seq) (by simp [go_sem])
  generalize ((w.alloc (.cells (tc t) 47)).alloc (.cells (tc t) 47)) = W at *
  have K0 : Keeps W W := Keeps.refl _
  cases d0 : inB t.prio 1 20
  · skip
    have Hr : Hid ((inB t.prio 1 20 && inB t.round 0 10 && inB t.left (min t.round 1) t.round && inB t.seq 0 1000000) = (false)) := by show _ = _; simp [d0]
    refine wp_region_held_drew (S := (fun w' => Keeps W w')) (by kernel_rfl) ?_ (fun hHeld => ?_)
    · exact K0.drew
    refine Plan.go [0, 1] ?_
    iterate 2 (refine takeL (by simp only [opsAt]; rfl) (by kernel_rfl) (by exact fun _ _ _ h => h) (by rfl) (by assumption) (fun w _ => by go_simp; try (with_reducible rfl)) ?_; try simp only [putAtH])
    refine Plan.nil ?_
    refine callH 2 (by kernel_rfl) (by simp only [opsAt]; rfl) (fun K hK => ?_)
    go_simp
    first
        | (go_at_call 64; refine (l1In_any _ _ _ _).mono ?_; rintro e w' ⟨rfl, rfl⟩)
        | (go_at_call 155; refine (l1Min_any _ _ _).mono ?_; rintro e w' ⟨rfl, rfl⟩)
    try go_wp2_with fail
    refine hK.out _ _ ?_ (fun hHeld => ?_)
    · assumption
    clear hK K
    try simp only [putAtH]
    refine takeH 3 (v := ?_) (by simp only [opsAt]; rfl) (by kernel_rfl) (by exact fun _ _ _ h => h) (by rfl) (by assumption) ?_ ?_
    rotate_left
    · (intro w _; go_simp; try (with_reducible rfl))
    try simp only [putAtH]
    refine Plan.go [4, 5, 6] ?_
    iterate 3 (refine skipL (by simp only [opsAt]; rfl) (by kernel_rfl) (by exact fun _ _ _ h => h) (by rfl) (by assumption) ?_; try simp only [putAtH])
    refine Plan.nil ?_
    refine Plan.go [7, 8] ?_
    iterate 2 (refine takeL (by simp only [opsAt]; rfl) (by kernel_rfl) (by exact fun _ _ _ h => h) (by rfl) (by assumption) (fun w _ => by go_simp; try (with_reducible rfl)) ?_; try simp only [putAtH])
    refine Plan.nil ?_
    refine Plan.go [9, 10, 11, 12, 13, 14, 15, 16] ?_
    iterate 8 (refine skipL (by simp only [opsAt]; rfl) (by kernel_rfl) (by exact fun _ _ _ h => h) (by rfl) (by assumption) ?_; try simp only [putAtH])
    refine Plan.nil ?_
    refine Plan.go [17, 18] ?_
    iterate 2 (refine takeL (by simp only [opsAt]; rfl) (by kernel_rfl) (by exact fun _ _ _ h => h) (by rfl) (by assumption) (fun w _ => by go_simp; try (with_reducible rfl)) ?_; try simp only [putAtH])
    refine Plan.nil ?_
    refine Plan.go [19, 20, 21] ?_
    iterate 3 (refine skipL (by simp only [opsAt]; rfl) (by kernel_rfl) (by exact fun _ _ _ h => h) (by rfl) (by assumption) ?_; try simp only [putAtH])
    refine Plan.nil ?_
    refine Plan.go [22, 23] ?_
    iterate 2 (refine takeL (by simp only [opsAt]; rfl) (by kernel_rfl) (by exact fun _ _ _ h => h) (by rfl) (by assumption) (fun w _ => by go_simp; try (with_reducible rfl)) ?_; try simp only [putAtH])
    refine Plan.nil ?_
    refine wpAnyH_done (by kernel_rfl) ?_ _
    go_wp2
    go_ret
    exact ⟨by rw [Hr.out]; rfl, kW.trans (by assumption)⟩
  · skip
    cases d1 : inB t.round 0 10
    · skip
      have Hr : Hid ((inB t.prio 1 20 && inB t.round 0 10 && inB t.left (min t.round 1) t.round && inB t.seq 0 1000000) = (false)) := by show _ = _; simp [d0, d1]
      refine wp_region_held_drew (S := (fun w' => Keeps W w')) (by kernel_rfl) ?_ (fun hHeld => ?_)
      · exact K0.drew
      refine Plan.go [0, 1] ?_
      iterate 2 (refine takeL (by simp only [opsAt]; rfl) (by kernel_rfl) (by exact fun _ _ _ h => h) (by rfl) (by assumption) (fun w _ => by go_simp; try (with_reducible rfl)) ?_; try simp only [putAtH])
      refine Plan.nil ?_
      refine callH 2 (by kernel_rfl) (by simp only [opsAt]; rfl) (fun K hK => ?_)
      go_simp
      first
        | (go_at_call 64; refine (l1In_any _ _ _ _).mono ?_; rintro e w' ⟨rfl, rfl⟩)
        | (go_at_call 155; refine (l1Min_any _ _ _).mono ?_; rintro e w' ⟨rfl, rfl⟩)
      try go_wp2_with fail
      refine hK.out _ _ ?_ (fun hHeld => ?_)
      · assumption
      clear hK K
      try simp only [putAtH]
      refine Plan.go [3, 4, 5] ?_
      iterate 3 (refine takeL (by simp only [opsAt]; rfl) (by kernel_rfl) (by exact fun _ _ _ h => h) (by rfl) (by assumption) (fun w _ => by go_simp; try (with_reducible rfl)) ?_; try simp only [putAtH])
      refine Plan.nil ?_
      refine callH 6 (by kernel_rfl) (by simp only [opsAt]; rfl) (fun K hK => ?_)
      go_simp
      first
        | (go_at_call 64; refine (l1In_any _ _ _ _).mono ?_; rintro e w' ⟨rfl, rfl⟩)
        | (go_at_call 155; refine (l1Min_any _ _ _).mono ?_; rintro e w' ⟨rfl, rfl⟩)
      try go_wp2_with fail
      refine hK.out _ _ ?_ (fun hHeld => ?_)
      · assumption
      clear hK K
      try simp only [putAtH]
      refine Plan.go [7, 8] ?_
      iterate 2 (refine takeL (by simp only [opsAt]; rfl) (by kernel_rfl) (by exact fun _ _ _ h => h) (by rfl) (by assumption) (fun w _ => by go_simp; try (with_reducible rfl)) ?_; try simp only [putAtH])
      refine Plan.nil ?_
      refine Plan.go [9, 10, 11, 12, 13, 14, 15, 16] ?_
      iterate 8 (refine skipL (by simp only [opsAt]; rfl) (by kernel_rfl) (by exact fun _ _ _ h => h) (by rfl) (by assumption) ?_; try simp only [putAtH])
      refine Plan.nil ?_
      refine Plan.go [17, 18] ?_
      iterate 2 (refine takeL (by simp only [opsAt]; rfl) (by kernel_rfl) (by exact fun _ _ _ h => h) (by rfl) (by assumption) (fun w _ => by go_simp; try (with_reducible rfl)) ?_; try simp only [putAtH])
      refine Plan.nil ?_
      refine Plan.go [19, 20, 21] ?_
      iterate 3 (refine skipL (by simp only [opsAt]; rfl) (by kernel_rfl) (by exact fun _ _ _ h => h) (by rfl) (by assumption) ?_; try simp only [putAtH])
      refine Plan.nil ?_
      refine Plan.go [22, 23] ?_
      iterate 2 (refine takeL (by simp only [opsAt]; rfl) (by kernel_rfl) (by exact fun _ _ _ h => h) (by rfl) (by assumption) (fun w _ => by go_simp; try (with_reducible rfl)) ?_; try simp only [putAtH])
      refine Plan.nil ?_
      refine wpAnyH_done (by kernel_rfl) ?_ _
      go_wp2
      go_ret
      exact ⟨by rw [Hr.out]; rfl, kW.trans (by assumption)⟩
    · skip
      cases d2 : inB t.left (min t.round 1) t.round
      · skip
        have Hr : Hid ((inB t.prio 1 20 && inB t.round 0 10 && inB t.left (min t.round 1) t.round && inB t.seq 0 1000000) = (false)) := by show _ = _; simp [d0, d1, d2]
        refine wp_region_held_drew (S := (fun w' => Keeps W w')) (by kernel_rfl) ?_ (fun hHeld => ?_)
        · exact K0.drew
        refine Plan.go [0, 1] ?_
        iterate 2 (refine takeL (by simp only [opsAt]; rfl) (by kernel_rfl) (by exact fun _ _ _ h => h) (by rfl) (by assumption) (fun w _ => by go_simp; try (with_reducible rfl)) ?_; try simp only [putAtH])
        refine Plan.nil ?_
        refine callH 2 (by kernel_rfl) (by simp only [opsAt]; rfl) (fun K hK => ?_)
        go_simp
        first
        | (go_at_call 64; refine (l1In_any _ _ _ _).mono ?_; rintro e w' ⟨rfl, rfl⟩)
        | (go_at_call 155; refine (l1Min_any _ _ _).mono ?_; rintro e w' ⟨rfl, rfl⟩)
        try go_wp2_with fail
        refine hK.out _ _ ?_ (fun hHeld => ?_)
        · assumption
        clear hK K
        try simp only [putAtH]
        refine Plan.go [3, 4, 5] ?_
        iterate 3 (refine takeL (by simp only [opsAt]; rfl) (by kernel_rfl) (by exact fun _ _ _ h => h) (by rfl) (by assumption) (fun w _ => by go_simp; try (with_reducible rfl)) ?_; try simp only [putAtH])
        refine Plan.nil ?_
        refine callH 6 (by kernel_rfl) (by simp only [opsAt]; rfl) (fun K hK => ?_)
        go_simp
        first
        | (go_at_call 64; refine (l1In_any _ _ _ _).mono ?_; rintro e w' ⟨rfl, rfl⟩)
        | (go_at_call 155; refine (l1Min_any _ _ _).mono ?_; rintro e w' ⟨rfl, rfl⟩)
        try go_wp2_with fail
        refine hK.out _ _ ?_ (fun hHeld => ?_)
        · assumption
        clear hK K
        try simp only [putAtH]
        refine Plan.go [7, 8, 9, 10, 11, 12, 14, 15] ?_
        iterate 8 (refine takeL (by simp only [opsAt]; rfl) (by kernel_rfl) (by exact fun _ _ _ h => h) (by rfl) (by assumption) (fun w _ => by go_simp; try (with_reducible rfl)) ?_; try simp only [putAtH])
        refine Plan.nil ?_
        refine callH 13 (by kernel_rfl) (by simp only [opsAt]; rfl) (fun K hK => ?_)
        go_simp
        first
        | (go_at_call 64; refine (l1In_any _ _ _ _).mono ?_; rintro e w' ⟨rfl, rfl⟩)
        | (go_at_call 155; refine (l1Min_any _ _ _).mono ?_; rintro e w' ⟨rfl, rfl⟩)
        try go_wp2_with fail
        refine hK.out _ _ ?_ (fun hHeld => ?_)
        · assumption
        clear hK K
        try simp only [putAtH]
        refine callH 16 (by kernel_rfl) (by simp only [opsAt]; rfl) (fun K hK => ?_)
        go_simp
        first
        | (go_at_call 64; refine (l1In_any _ _ _ _).mono ?_; rintro e w' ⟨rfl, rfl⟩)
        | (go_at_call 155; refine (l1Min_any _ _ _).mono ?_; rintro e w' ⟨rfl, rfl⟩)
        try go_wp2_with fail
        refine hK.out _ _ ?_ (fun hHeld => ?_)
        · assumption
        clear hK K
        try simp only [putAtH]
        refine Plan.go [17, 18] ?_
        iterate 2 (refine takeL (by simp only [opsAt]; rfl) (by kernel_rfl) (by exact fun _ _ _ h => h) (by rfl) (by assumption) (fun w _ => by go_simp; try (with_reducible rfl)) ?_; try simp only [putAtH])
        refine Plan.nil ?_
        refine Plan.go [19, 20, 21] ?_
        iterate 3 (refine skipL (by simp only [opsAt]; rfl) (by kernel_rfl) (by exact fun _ _ _ h => h) (by rfl) (by assumption) ?_; try simp only [putAtH])
        refine Plan.nil ?_
        refine Plan.go [22, 23] ?_
        iterate 2 (refine takeL (by simp only [opsAt]; rfl) (by kernel_rfl) (by exact fun _ _ _ h => h) (by rfl) (by assumption) (fun w _ => by go_simp; try (with_reducible rfl)) ?_; try simp only [putAtH])
        refine Plan.nil ?_
        refine wpAnyH_done (by kernel_rfl) ?_ _
        go_wp2
        go_ret
        exact ⟨by rw [Hr.out]; rfl, kW.trans (by assumption)⟩
      · skip
        have Hr : Hid ((inB t.prio 1 20 && inB t.round 0 10 && inB t.left (min t.round 1) t.round && inB t.seq 0 1000000) = (inB t.seq 0 1000000)) := by show _ = _; simp [d0, d1, d2]
        refine wp_region_held_drew (S := (fun w' => Keeps W w')) (by kernel_rfl) ?_ (fun hHeld => ?_)
        · exact K0.drew
        refine Plan.go [0, 1] ?_
        iterate 2 (refine takeL (by simp only [opsAt]; rfl) (by kernel_rfl) (by exact fun _ _ _ h => h) (by rfl) (by assumption) (fun w _ => by go_simp; try (with_reducible rfl)) ?_; try simp only [putAtH])
        refine Plan.nil ?_
        refine callH 2 (by kernel_rfl) (by simp only [opsAt]; rfl) (fun K hK => ?_)
        go_simp
        first
        | (go_at_call 64; refine (l1In_any _ _ _ _).mono ?_; rintro e w' ⟨rfl, rfl⟩)
        | (go_at_call 155; refine (l1Min_any _ _ _).mono ?_; rintro e w' ⟨rfl, rfl⟩)
        try go_wp2_with fail
        refine hK.out _ _ ?_ (fun hHeld => ?_)
        · assumption
        clear hK K
        try simp only [putAtH]
        refine Plan.go [3, 4, 5] ?_
        iterate 3 (refine takeL (by simp only [opsAt]; rfl) (by kernel_rfl) (by exact fun _ _ _ h => h) (by rfl) (by assumption) (fun w _ => by go_simp; try (with_reducible rfl)) ?_; try simp only [putAtH])
        refine Plan.nil ?_
        refine callH 6 (by kernel_rfl) (by simp only [opsAt]; rfl) (fun K hK => ?_)
        go_simp
        first
        | (go_at_call 64; refine (l1In_any _ _ _ _).mono ?_; rintro e w' ⟨rfl, rfl⟩)
        | (go_at_call 155; refine (l1Min_any _ _ _).mono ?_; rintro e w' ⟨rfl, rfl⟩)
        try go_wp2_with fail
        refine hK.out _ _ ?_ (fun hHeld => ?_)
        · assumption
        clear hK K
        try simp only [putAtH]
        refine Plan.go [7, 8, 9, 10, 11, 12, 14, 15] ?_
        iterate 8 (refine takeL (by simp only [opsAt]; rfl) (by kernel_rfl) (by exact fun _ _ _ h => h) (by rfl) (by assumption) (fun w _ => by go_simp; try (with_reducible rfl)) ?_; try simp only [putAtH])
        refine Plan.nil ?_
        refine callH 13 (by kernel_rfl) (by simp only [opsAt]; rfl) (fun K hK => ?_)
        go_simp
        first
        | (go_at_call 64; refine (l1In_any _ _ _ _).mono ?_; rintro e w' ⟨rfl, rfl⟩)
        | (go_at_call 155; refine (l1Min_any _ _ _).mono ?_; rintro e w' ⟨rfl, rfl⟩)
        try go_wp2_with fail
        refine hK.out _ _ ?_ (fun hHeld => ?_)
        · assumption
        clear hK K
        try simp only [putAtH]
        refine callH 16 (by kernel_rfl) (by simp only [opsAt]; rfl) (fun K hK => ?_)
        go_simp
        first
        | (go_at_call 64; refine (l1In_any _ _ _ _).mono ?_; rintro e w' ⟨rfl, rfl⟩)
        | (go_at_call 155; refine (l1Min_any _ _ _).mono ?_; rintro e w' ⟨rfl, rfl⟩)
        try go_wp2_with fail
        refine hK.out _ _ ?_ (fun hHeld => ?_)
        · assumption
        clear hK K
        try simp only [putAtH]
        refine Plan.go [17, 18, 19, 20] ?_
        iterate 4 (refine takeL (by simp only [opsAt]; rfl) (by kernel_rfl) (by exact fun _ _ _ h => h) (by rfl) (by assumption) (fun w _ => by go_simp; try (with_reducible rfl)) ?_; try simp only [putAtH])
        refine Plan.nil ?_
        refine callH 21 (by kernel_rfl) (by simp only [opsAt]; rfl) (fun K hK => ?_)
        go_simp
        first
        | (go_at_call 64; refine (l1In_any _ _ _ _).mono ?_; rintro e w' ⟨rfl, rfl⟩)
        | (go_at_call 155; refine (l1Min_any _ _ _).mono ?_; rintro e w' ⟨rfl, rfl⟩)
        try go_wp2_with fail
        refine hK.out _ _ ?_ (fun hHeld => ?_)
        · assumption
        clear hK K
        try simp only [putAtH]
        refine Plan.go [22, 23] ?_
        iterate 2 (refine takeL (by simp only [opsAt]; rfl) (by kernel_rfl) (by exact fun _ _ _ h => h) (by rfl) (by assumption) (fun w _ => by go_simp; try (with_reducible rfl)) ?_; try simp only [putAtH])
        refine Plan.nil ?_
        refine wpAnyH_done (by kernel_rfl) ?_ _
        go_wp2
        go_ret
        exact ⟨by rw [Hr.out]; rfl, kW.trans (by assumption)⟩

set_option maxHeartbeats 4000000 in
theorem specTaskOk_any (t : Tsk) (w : World) :
    Calls Tryz.prog 109 #[tk t] w fun e w' => e = .returned (.bool (taskB t)) ∧ Keeps w w' := by
  cases b1 : inB t.no 1 1000
  · have Hr : Hid (taskB t = (false)) := by show _ = _; simp [taskB, ofClassB, b1]
    go_enter Tryz.func109, Tryz.ntmps109
    go_wp2_with (first
        | (go_at_call 64; refine (l1In_any _ _ _ _).mono ?_; rintro e w' ⟨rfl, rfl⟩)
        | (go_at_call 155; refine (l1Min_any _ _ _).mono ?_; rintro e w' ⟨rfl, rfl⟩)
        | (go_at_call 156; refine (specNiceOk_any _ _).mono ?_; rintro e w' ⟨rfl, rfl⟩)
        | (go_at_call 115; refine (specShareOk_any _ _ _).mono ?_; rintro e w' ⟨rfl, rfl⟩)
        | (go_at_call 154; refine (l3Clean_any _ _).mono ?_; rintro e w' ⟨rfl, rfl⟩))
    go_ret
    exact ⟨by rw [Hr.out]; rfl, by repeat (first | exact Keeps.refl _ | refine Keeps.alloc ?_ _ | refine Keeps.drewN ?_ _)⟩
  · skip
    cases b2 : inB t.cls 1 3
    · have Hr : Hid (taskB t = (false)) := by show _ = _; simp [taskB, ofClassB, b1, b2]
      go_enter Tryz.func109, Tryz.ntmps109
      go_wp2_with (first
          | (go_at_call 64; refine (l1In_any _ _ _ _).mono ?_; rintro e w' ⟨rfl, rfl⟩)
          | (go_at_call 155; refine (l1Min_any _ _ _).mono ?_; rintro e w' ⟨rfl, rfl⟩)
          | (go_at_call 156; refine (specNiceOk_any _ _).mono ?_; rintro e w' ⟨rfl, rfl⟩)
          | (go_at_call 115; refine (specShareOk_any _ _ _).mono ?_; rintro e w' ⟨rfl, rfl⟩)
          | (go_at_call 154; refine (l3Clean_any _ _).mono ?_; rintro e w' ⟨rfl, rfl⟩))
      go_ret
      exact ⟨by rw [Hr.out]; rfl, by repeat (first | exact Keeps.refl _ | refine Keeps.alloc ?_ _ | refine Keeps.drewN ?_ _)⟩
    · skip
      cases b3 : inB t.cpu 0 3
      · have Hr : Hid (taskB t = (false)) := by show _ = _; simp [taskB, ofClassB, b1, b2, b3]
        go_enter Tryz.func109, Tryz.ntmps109
        go_wp2_with (first
            | (go_at_call 64; refine (l1In_any _ _ _ _).mono ?_; rintro e w' ⟨rfl, rfl⟩)
            | (go_at_call 155; refine (l1Min_any _ _ _).mono ?_; rintro e w' ⟨rfl, rfl⟩)
            | (go_at_call 156; refine (specNiceOk_any _ _).mono ?_; rintro e w' ⟨rfl, rfl⟩)
            | (go_at_call 115; refine (specShareOk_any _ _ _).mono ?_; rintro e w' ⟨rfl, rfl⟩)
            | (go_at_call 154; refine (l3Clean_any _ _).mono ?_; rintro e w' ⟨rfl, rfl⟩))
        go_ret
        exact ⟨by rw [Hr.out]; rfl, by repeat (first | exact Keeps.refl _ | refine Keeps.alloc ?_ _ | refine Keeps.drewN ?_ _)⟩
      · skip
        cases b4 : inB t.st 1 2
        · have Hr : Hid (taskB t = (false)) := by show _ = _; simp [taskB, ofClassB, b1, b2, b3, b4]
          go_enter Tryz.func109, Tryz.ntmps109
          go_wp2_with (first
              | (go_at_call 64; refine (l1In_any _ _ _ _).mono ?_; rintro e w' ⟨rfl, rfl⟩)
              | (go_at_call 155; refine (l1Min_any _ _ _).mono ?_; rintro e w' ⟨rfl, rfl⟩)
              | (go_at_call 156; refine (specNiceOk_any _ _).mono ?_; rintro e w' ⟨rfl, rfl⟩)
              | (go_at_call 115; refine (specShareOk_any _ _ _).mono ?_; rintro e w' ⟨rfl, rfl⟩)
              | (go_at_call 154; refine (l3Clean_any _ _).mono ?_; rintro e w' ⟨rfl, rfl⟩))
          go_ret
          exact ⟨by rw [Hr.out]; rfl, by repeat (first | exact Keeps.refl _ | refine Keeps.alloc ?_ _ | refine Keeps.drewN ?_ _)⟩
        · skip
          cases b5 : cleanB t
          · have Hr : Hid (taskB t = (false)) := by show _ = _; simp [taskB, ofClassB, b1, b2, b3, b4, b5]
            go_enter Tryz.func109, Tryz.ntmps109
            go_wp2_with (first
                | (go_at_call 64; refine (l1In_any _ _ _ _).mono ?_; rintro e w' ⟨rfl, rfl⟩)
                | (go_at_call 155; refine (l1Min_any _ _ _).mono ?_; rintro e w' ⟨rfl, rfl⟩)
                | (go_at_call 156; refine (specNiceOk_any _ _).mono ?_; rintro e w' ⟨rfl, rfl⟩)
                | (go_at_call 115; refine (specShareOk_any _ _ _).mono ?_; rintro e w' ⟨rfl, rfl⟩)
                | (go_at_call 154; refine (l3Clean_any _ _).mono ?_; rintro e w' ⟨rfl, rfl⟩))
            go_ret
            exact ⟨by rw [Hr.out]; rfl, by repeat (first | exact Keeps.refl _ | refine Keeps.alloc ?_ _ | refine Keeps.drewN ?_ _)⟩
          · skip
            cases c1 : (t.cls == 1)
            · cases c2 : (t.cls == 2)
              · skip
                cases d0 : (inB t.nice (-4) 4)
                · have Hr : Hid (taskB t = (false)) := by show _ = _; simp [taskB, ofClassB, b1, b2, b3, b4, b5, c1, c2, d0]
                  go_enter Tryz.func109, Tryz.ntmps109
                  go_wp2_with (first
                      | (go_at_call 64; refine (l1In_any _ _ _ _).mono ?_; rintro e w' ⟨rfl, rfl⟩)
                      | (go_at_call 155; refine (l1Min_any _ _ _).mono ?_; rintro e w' ⟨rfl, rfl⟩)
                      | (go_at_call 156; refine (specNiceOk_any _ _).mono ?_; rintro e w' ⟨rfl, rfl⟩)
                      | (go_at_call 115; refine (specShareOk_any _ _ _).mono ?_; rintro e w' ⟨rfl, rfl⟩)
                      | (go_at_call 154; refine (l3Clean_any _ _).mono ?_; rintro e w' ⟨rfl, rfl⟩))
                  go_ret
                  exact ⟨by rw [Hr.out]; rfl, by repeat (first | exact Keeps.refl _ | refine Keeps.alloc ?_ _ | refine Keeps.drewN ?_ _)⟩
                · skip
                  have Hr : Hid (taskB t = (inB t.v 0 100000000)) := by show _ = _; simp [taskB, ofClassB, b1, b2, b3, b4, b5, c1, c2, d0]
                  go_enter Tryz.func109, Tryz.ntmps109
                  go_wp2_with (first
                      | (go_at_call 64; refine (l1In_any _ _ _ _).mono ?_; rintro e w' ⟨rfl, rfl⟩)
                      | (go_at_call 155; refine (l1Min_any _ _ _).mono ?_; rintro e w' ⟨rfl, rfl⟩)
                      | (go_at_call 156; refine (specNiceOk_any _ _).mono ?_; rintro e w' ⟨rfl, rfl⟩)
                      | (go_at_call 115; refine (specShareOk_any _ _ _).mono ?_; rintro e w' ⟨rfl, rfl⟩)
                      | (go_at_call 154; refine (l3Clean_any _ _).mono ?_; rintro e w' ⟨rfl, rfl⟩))
                  go_ret
                  exact ⟨by rw [Hr.out]; rfl, by repeat (first | exact Keeps.refl _ | refine Keeps.alloc ?_ _ | refine Keeps.drewN ?_ _)⟩
              · skip
                exact (specTaskOk_fixed t w b1 b2 b3 b4 b5 c1 c2).mono (by rintro e w' ⟨rfl, hk⟩; exact ⟨by simp [taskB, ofClassB, b1, b2, b3, b4, b5, c1, c2], hk⟩)
            · skip
              cases d0 : (okB t.q t.p)
              · have Hr : Hid (taskB t = (false)) := by show _ = _; simp [taskB, ofClassB, b1, b2, b3, b4, b5, c1, d0]
                go_enter Tryz.func109, Tryz.ntmps109
                go_wp2_with (first
                    | (go_at_call 64; refine (l1In_any _ _ _ _).mono ?_; rintro e w' ⟨rfl, rfl⟩)
                    | (go_at_call 155; refine (l1Min_any _ _ _).mono ?_; rintro e w' ⟨rfl, rfl⟩)
                    | (go_at_call 156; refine (specNiceOk_any _ _).mono ?_; rintro e w' ⟨rfl, rfl⟩)
                    | (go_at_call 115; refine (specShareOk_any _ _ _).mono ?_; rintro e w' ⟨rfl, rfl⟩)
                    | (go_at_call 154; refine (l3Clean_any _ _).mono ?_; rintro e w' ⟨rfl, rfl⟩))
                go_ret
                exact ⟨by rw [Hr.out]; rfl, by repeat (first | exact Keeps.refl _ | refine Keeps.alloc ?_ _ | refine Keeps.drewN ?_ _)⟩
              · skip
                cases d1 : (inB t.left 0 t.q)
                · have Hr : Hid (taskB t = (false)) := by show _ = _; simp [taskB, ofClassB, b1, b2, b3, b4, b5, c1, d0, d1]
                  go_enter Tryz.func109, Tryz.ntmps109
                  go_wp2_with (first
                      | (go_at_call 64; refine (l1In_any _ _ _ _).mono ?_; rintro e w' ⟨rfl, rfl⟩)
                      | (go_at_call 155; refine (l1Min_any _ _ _).mono ?_; rintro e w' ⟨rfl, rfl⟩)
                      | (go_at_call 156; refine (specNiceOk_any _ _).mono ?_; rintro e w' ⟨rfl, rfl⟩)
                      | (go_at_call 115; refine (specShareOk_any _ _ _).mono ?_; rintro e w' ⟨rfl, rfl⟩)
                      | (go_at_call 154; refine (l3Clean_any _ _).mono ?_; rintro e w' ⟨rfl, rfl⟩))
                  go_ret
                  exact ⟨by rw [Hr.out]; rfl, by repeat (first | exact Keeps.refl _ | refine Keeps.alloc ?_ _ | refine Keeps.drewN ?_ _)⟩
                · skip
                  have Hr : Hid (taskB t = (inB t.due 0 100040)) := by show _ = _; simp [taskB, ofClassB, b1, b2, b3, b4, b5, c1, d0, d1]
                  go_enter Tryz.func109, Tryz.ntmps109
                  go_wp2_with (first
                      | (go_at_call 64; refine (l1In_any _ _ _ _).mono ?_; rintro e w' ⟨rfl, rfl⟩)
                      | (go_at_call 155; refine (l1Min_any _ _ _).mono ?_; rintro e w' ⟨rfl, rfl⟩)
                      | (go_at_call 156; refine (specNiceOk_any _ _).mono ?_; rintro e w' ⟨rfl, rfl⟩)
                      | (go_at_call 115; refine (specShareOk_any _ _ _).mono ?_; rintro e w' ⟨rfl, rfl⟩)
                      | (go_at_call 154; refine (l3Clean_any _ _).mono ?_; rintro e w' ⟨rfl, rfl⟩))
                  go_ret
                  exact ⟨by rw [Hr.out]; rfl, by repeat (first | exact Keeps.refl _ | refine Keeps.alloc ?_ _ | refine Keeps.drewN ?_ _)⟩
end Go.Proofs.YthpdlbcdbncnhaaGreatDoor
namespace Go.Proofs.YthpdlbcdbncnhaaGreatDoor
open Go.RowKit
attribute [local go_sem] Keeps.refl Keeps.alloc Keeps.drew Keeps.drewN

/-- The weight of a nice; 0 of others. -/
def weightI (x : Int) : Int :=
  if x = -4 then 24 else if x = -3 then 16 else if x = -2 then 12 else if x = -1 then 8 else if x = 0 then 6 else if x = 1 then 4 else if x = 2 then 3 else if x = 3 then 2 else if x = 4 then 1 else 0
/-- Its step; 0 of others. -/
def stepI (x : Int) : Int :=
  if x = -4 then 2 else if x = -3 then 3 else if x = -2 then 4 else if x = -1 then 6 else if x = 0 then 8 else if x = 1 then 12 else if x = 2 then 16 else if x = 3 then 24 else if x = 4 then 48 else 0
theorem nine {x : Int} (h1 : -4 ≤ x) (h2 : x ≤ 4) : x = -4 ∨ x = -3 ∨ x = -2 ∨ x = -1 ∨ x = 0 ∨ x = 1 ∨ x = 2 ∨ x = 3 ∨ x = 4 := by omega
theorem weightI_no {x : Int} (h : inB x (-4) 4 = false) : weightI x = 0 := by
  have hh : ¬ (-4 ≤ x ∧ x ≤ 4) := fun h' => by rw [inB_iff.2 h'] at h; cases h
  unfold weightI
  repeat rw [if_neg (by omega)]
theorem stepI_no {x : Int} (h : inB x (-4) 4 = false) : stepI x = 0 := by
  have hh : ¬ (-4 ≤ x ∧ x ≤ 4) := fun h' => by rw [inB_iff.2 h'] at h; cases h
  unfold stepI
  repeat rw [if_neg (by omega)]

set_option maxRecDepth 100000 in
set_option maxHeartbeats 1000000 in
theorem specWeightOf_any (x : Int) (w : World) :
    Calls Tryz.prog 259 #[.int .i64 x] w fun e w' => e = .returned (.int .i64 (weightI x)) ∧ Keeps w w' := by
  cases h : inB x (-4) 4
  · have Hr : Hid (weightI x = 0) := weightI_no h
    go_enter Tryz.func259, Tryz.ntmps259
    go_wp2_with (go_at_call 156; refine (specNiceOk_any _ _).mono ?_; rintro e w' ⟨rfl, rfl⟩)
    go_ret
    exact ⟨by rw [Hr.out]; rfl, Keeps.refl _⟩
  · obtain ⟨h1, h2⟩ := inB_iff.1 h
    rcases nine h1 h2 with rfl | rfl | rfl | rfl | rfl | rfl | rfl | rfl | rfl <;>
    · clear h h1 h2
      go_enter Tryz.func259, Tryz.ntmps259
      go_wp2_with (go_at_call 156; refine (specNiceOk_any _ _).mono ?_; rintro e w' ⟨rfl, rfl⟩)
      go_ret
      exact ⟨rfl, (Keeps.refl _).alloc _⟩

set_option maxRecDepth 100000 in
set_option maxHeartbeats 1000000 in
theorem specStepOf_any (x : Int) (w : World) :
    Calls Tryz.prog 258 #[.int .i64 x] w fun e w' => e = .returned (.int .i64 (stepI x)) ∧ Keeps w w' := by
  cases h : inB x (-4) 4
  · have Hr : Hid (stepI x = 0) := stepI_no h
    go_enter Tryz.func258, Tryz.ntmps258
    go_wp2_with (go_at_call 156; refine (specNiceOk_any _ _).mono ?_; rintro e w' ⟨rfl, rfl⟩)
    go_ret
    exact ⟨by rw [Hr.out]; rfl, Keeps.refl _⟩
  · obtain ⟨h1, h2⟩ := inB_iff.1 h
    rcases nine h1 h2 with rfl | rfl | rfl | rfl | rfl | rfl | rfl | rfl | rfl <;>
    · clear h h1 h2
      go_enter Tryz.func258, Tryz.ntmps258
      go_wp2_with (first
        | (go_at_call 156; refine (specNiceOk_any _ _).mono ?_; rintro e w' ⟨rfl, rfl⟩)
        | (go_at_call 259; refine (specWeightOf_any _ _).mono ?_; rintro e w' ⟨rfl, k⟩))
      go_ret
      exact ⟨congrArg (fun z => Ending.returned (Value.int .i64 z)) (show wrap64 (Int.tdiv 48 (weightI _)) = stepI _ by kernel_rfl), k⟩

end Go.Proofs.YthpdlbcdbncnhaaGreatDoor
namespace Go.Proofs.YthpdlbcdbncnhaaGreatDoor
open Go.RowKit

/-- From the place o of the block b on stands the task t. -/
abbrev putAt (w : World) (b o : Nat) (t : Tsk) : World := ((((((((((((((w.setCell ⟨b, o, none⟩ (.int .i64 t.no)).setCell ⟨b, o + 1, none⟩ (.int .i64 t.cls)).setCell ⟨b, o + 2, none⟩ (.int .i64 t.cpu)).setCell ⟨b, o + 3, none⟩ (.int .i64 t.st)).setCell ⟨b, o + 4, none⟩ (.bool t.idle)).setCell ⟨b, o + 5, none⟩ (.int .i64 t.q)).setCell ⟨b, o + 6, none⟩ (.int .i64 t.p)).setCell ⟨b, o + 7, none⟩ (.int .i64 t.left)).setCell ⟨b, o + 8, none⟩ (.int .i64 t.due)).setCell ⟨b, o + 9, none⟩ (.int .i64 t.prio)).setCell ⟨b, o + 10, none⟩ (.int .i64 t.round)).setCell ⟨b, o + 11, none⟩ (.int .i64 t.seq)).setCell ⟨b, o + 12, none⟩ (.int .i64 t.nice)).setCell ⟨b, o + 13, none⟩ (.int .i64 t.v))
theorem putAt_other {w : World} {b o b' o' : Nat} (t : Tsk) (h : b ≠ b' ∨ o' < o ∨ o + 14 ≤ o') : (putAt w b o t).cell? ⟨b', o', none⟩ = w.cell? ⟨b', o', none⟩ := by
  rw [setCell_other (by omega)]
  rw [setCell_other (by omega)]
  rw [setCell_other (by omega)]
  rw [setCell_other (by omega)]
  rw [setCell_other (by omega)]
  rw [setCell_other (by omega)]
  rw [setCell_other (by omega)]
  rw [setCell_other (by omega)]
  rw [setCell_other (by omega)]
  rw [setCell_other (by omega)]
  rw [setCell_other (by omega)]
  rw [setCell_other (by omega)]
  rw [setCell_other (by omega)]
  rw [setCell_other (by omega)]
theorem putAt_frozen {w : World} {b o b' o' : Nat} (t : Tsk) : (putAt w b o t).frozen? ⟨b', o', none⟩ = w.frozen? ⟨b', o', none⟩ := by simp
theorem putAt_in {w : World} {b o : Nat} (t : Tsk) (h : ∀ m, m < 14 → ∃ v, w.cell? ⟨b, o + m, none⟩ = some v) : ∀ m, m < 14 → (putAt w b o t).cell? ⟨b, o + m, none⟩ = (tc t)[m]? := by
  intro m hm
  obtain ⟨u, hu⟩ := h m hm
  by_cases e0 : m = 0
  · subst e0
    simp only [Nat.add_zero] at hu ⊢
    rw [setCell_other (by omega), setCell_other (by omega), setCell_other (by omega), setCell_other (by omega), setCell_other (by omega), setCell_other (by omega), setCell_other (by omega), setCell_other (by omega), setCell_other (by omega), setCell_other (by omega), setCell_other (by omega), setCell_other (by omega), setCell_other (by omega)]
    exact setCell_same (u := u) hu _
  by_cases e1 : m = 1
  · subst e1
    rw [setCell_other (by omega), setCell_other (by omega), setCell_other (by omega), setCell_other (by omega), setCell_other (by omega), setCell_other (by omega), setCell_other (by omega), setCell_other (by omega), setCell_other (by omega), setCell_other (by omega), setCell_other (by omega), setCell_other (by omega)]
    exact setCell_same (u := u) (by rw [setCell_other (by omega)]; exact hu) _
  by_cases e2 : m = 2
  · subst e2
    rw [setCell_other (by omega), setCell_other (by omega), setCell_other (by omega), setCell_other (by omega), setCell_other (by omega), setCell_other (by omega), setCell_other (by omega), setCell_other (by omega), setCell_other (by omega), setCell_other (by omega), setCell_other (by omega)]
    exact setCell_same (u := u) (by rw [setCell_other (by omega), setCell_other (by omega)]; exact hu) _
  by_cases e3 : m = 3
  · subst e3
    rw [setCell_other (by omega), setCell_other (by omega), setCell_other (by omega), setCell_other (by omega), setCell_other (by omega), setCell_other (by omega), setCell_other (by omega), setCell_other (by omega), setCell_other (by omega), setCell_other (by omega)]
    exact setCell_same (u := u) (by rw [setCell_other (by omega), setCell_other (by omega), setCell_other (by omega)]; exact hu) _
  by_cases e4 : m = 4
  · subst e4
    rw [setCell_other (by omega), setCell_other (by omega), setCell_other (by omega), setCell_other (by omega), setCell_other (by omega), setCell_other (by omega), setCell_other (by omega), setCell_other (by omega), setCell_other (by omega)]
    exact setCell_same (u := u) (by rw [setCell_other (by omega), setCell_other (by omega), setCell_other (by omega), setCell_other (by omega)]; exact hu) _
  by_cases e5 : m = 5
  · subst e5
    rw [setCell_other (by omega), setCell_other (by omega), setCell_other (by omega), setCell_other (by omega), setCell_other (by omega), setCell_other (by omega), setCell_other (by omega), setCell_other (by omega)]
    exact setCell_same (u := u) (by rw [setCell_other (by omega), setCell_other (by omega), setCell_other (by omega), setCell_other (by omega), setCell_other (by omega)]; exact hu) _
  by_cases e6 : m = 6
  · subst e6
    rw [setCell_other (by omega), setCell_other (by omega), setCell_other (by omega), setCell_other (by omega), setCell_other (by omega), setCell_other (by omega), setCell_other (by omega)]
    exact setCell_same (u := u) (by rw [setCell_other (by omega), setCell_other (by omega), setCell_other (by omega), setCell_other (by omega), setCell_other (by omega), setCell_other (by omega)]; exact hu) _
  by_cases e7 : m = 7
  · subst e7
    rw [setCell_other (by omega), setCell_other (by omega), setCell_other (by omega), setCell_other (by omega), setCell_other (by omega), setCell_other (by omega)]
    exact setCell_same (u := u) (by rw [setCell_other (by omega), setCell_other (by omega), setCell_other (by omega), setCell_other (by omega), setCell_other (by omega), setCell_other (by omega), setCell_other (by omega)]; exact hu) _
  by_cases e8 : m = 8
  · subst e8
    rw [setCell_other (by omega), setCell_other (by omega), setCell_other (by omega), setCell_other (by omega), setCell_other (by omega)]
    exact setCell_same (u := u) (by rw [setCell_other (by omega), setCell_other (by omega), setCell_other (by omega), setCell_other (by omega), setCell_other (by omega), setCell_other (by omega), setCell_other (by omega), setCell_other (by omega)]; exact hu) _
  by_cases e9 : m = 9
  · subst e9
    rw [setCell_other (by omega), setCell_other (by omega), setCell_other (by omega), setCell_other (by omega)]
    exact setCell_same (u := u) (by rw [setCell_other (by omega), setCell_other (by omega), setCell_other (by omega), setCell_other (by omega), setCell_other (by omega), setCell_other (by omega), setCell_other (by omega), setCell_other (by omega), setCell_other (by omega)]; exact hu) _
  by_cases e10 : m = 10
  · subst e10
    rw [setCell_other (by omega), setCell_other (by omega), setCell_other (by omega)]
    exact setCell_same (u := u) (by rw [setCell_other (by omega), setCell_other (by omega), setCell_other (by omega), setCell_other (by omega), setCell_other (by omega), setCell_other (by omega), setCell_other (by omega), setCell_other (by omega), setCell_other (by omega), setCell_other (by omega)]; exact hu) _
  by_cases e11 : m = 11
  · subst e11
    rw [setCell_other (by omega), setCell_other (by omega)]
    exact setCell_same (u := u) (by rw [setCell_other (by omega), setCell_other (by omega), setCell_other (by omega), setCell_other (by omega), setCell_other (by omega), setCell_other (by omega), setCell_other (by omega), setCell_other (by omega), setCell_other (by omega), setCell_other (by omega), setCell_other (by omega)]; exact hu) _
  by_cases e12 : m = 12
  · subst e12
    rw [setCell_other (by omega)]
    exact setCell_same (u := u) (by rw [setCell_other (by omega), setCell_other (by omega), setCell_other (by omega), setCell_other (by omega), setCell_other (by omega), setCell_other (by omega), setCell_other (by omega), setCell_other (by omega), setCell_other (by omega), setCell_other (by omega), setCell_other (by omega), setCell_other (by omega)]; exact hu) _
  by_cases e13 : m = 13
  · subst e13
    exact setCell_same (u := u) (by rw [setCell_other (by omega), setCell_other (by omega), setCell_other (by omega), setCell_other (by omega), setCell_other (by omega), setCell_other (by omega), setCell_other (by omega), setCell_other (by omega), setCell_other (by omega), setCell_other (by omega), setCell_other (by omega), setCell_other (by omega), setCell_other (by omega)]; exact hu) _
  omega
theorem putAt_row {w : World} {b o n : Nat} {T : TypeId} {f : Nat → Value} (h : w.rowIs b T n f) (t : Tsk) : ∃ f', (putAt w b o t).rowIs b T n f' := ⟨_, (((((((((((((h.set _ _).set _ _).set _ _).set _ _).set _ _).set _ _).set _ _).set _ _).set _ _).set _ _).set _ _).set _ _).set _ _).set _ _⟩
theorem Keeps.putAt {a w : World} {b o : Nat} (h : Keeps a w) (hp : a.heap.size ≤ b) (t : Tsk) : Keeps a (Go.Proofs.YthpdlbcdbncnhaaGreatDoor.putAt w b o t) := (((((((((((((h.setCell hp _).setCell hp _).setCell hp _).setCell hp _).setCell hp _).setCell hp _).setCell hp _).setCell hp _).setCell hp _).setCell hp _).setCell hp _).setCell hp _).setCell hp _).setCell hp _
end Go.Proofs.YthpdlbcdbncnhaaGreatDoor
namespace Go.Proofs.YthpdlbcdbncnhaaGreatDoor
open Go.RowKit
attribute [local go_sem] Keeps.refl Keeps.alloc Keeps.drew Keeps.drewN

set_option maxRecDepth 100000 in
theorem szTaskS_any (a : Option Addr) (cap n : Nat) (left : Int) (w : World) (hl : n ≤ maxLen) (h0 : 0 ≤ left) (h1 : left ≤ 1048576) :
    Calls Tryz.prog 31 #[.slice a n cap, .int .i64 left] w fun e w' => e = .returned (.int .i64 (if (n : Int) ≤ left then left - n else -1)) ∧ w' = w := by
  unfold maxLen at hl
  by_cases h : (n : Int) ≤ left
  · rw [if_pos h]
    go_enter Tryz.func31, Tryz.ntmps31
    go_wp2
    go_ret
    exact ⟨rfl, rfl⟩
  · rw [if_neg h]
    go_enter Tryz.func31, Tryz.ntmps31
    go_wp2
    go_ret
    exact ⟨rfl, rfl⟩

/-- The tasks ts lie there. -/
abbrev Ts (w : World) (a : Option Addr) (ts : List Tsk) : Prop := Lies 14 tc w a ts

theorem some_at {α : Type} {xs : List α} {k : Nat} (h : k < xs.length) : ∃ x, xs[k]? = some x := ⟨xs[k], List.getElem?_eq_getElem h⟩

set_option maxRecDepth 100000 in
set_option maxHeartbeats 1000000 in
theorem eqTaskS_same (a a' : Option Addr) (cap cap' : Nat) (ts : List Tsk) (w : World) (hl : ts.length ≤ maxLen) (hs : Ts w a ts) (hs' : Ts w a' ts) :
    Calls Tryz.prog 45 #[.slice a ts.length cap, .slice a' ts.length cap'] w fun e w' => e = .returned (.bool true) ∧ Keeps w w' := by
  unfold maxLen at hl
  generalize hn : ts.length = n at hl
  have Hn : Hid (ts.length = n) := hn
  clear hn
  have hne : ((n : Int) != (n : Int)) = false := by simp
  go_enter Tryz.func45, Tryz.ntmps45
  go_wp2
  go_loopw [5] (fun i wr => ∃ k : Nat, k ≤ n ∧ i = .int .i64 k ∧ Keeps w wr) (fun i _ => n - (intOf i).toNat)
  case atStart => exact ⟨0, Nat.zero_le _, rfl, Keeps.refl _⟩
  case round =>
    obtain ⟨k, hk, rfl, hK⟩ := hrel
    by_cases hlt : k < n
    · obtain ⟨t, ht⟩ := some_at (xs := ts) (k := k) (by rw [Hn.out]; exact hlt)
      obtain ⟨b, off, rfl, r0, r1⟩ := hs.at ht (by omega)
      obtain ⟨b', off', rfl, r0', r1'⟩ := hs'.at ht (by omega)
      have hlt' : (k : Int) < (n : Int) := by omega
      clear hs hs' ht
      go_wp2
      go_region_held3 (fun w' => Keeps w w') (first | exact Keeps.drew (by assumption) | exact Keeps.trans (by assumption) (by assumption))
        (first
        | (go_at_call 85; refine (eqTask_same t _).mono ?_; rintro e w1 ⟨rfl, hb⟩))
      go_wp2
      exact ⟨⟨k + 1, by omega, by go_num, by assumption⟩, by simp only [intOf]; omega⟩
    · go_wp2
      go_ret
      exact ⟨rfl, hK⟩

/-- The place of the first with that number, from the place k on. -/
def atFrom (ts : List Tsk) (no : Int) : Int := match ts.findIdx? (fun t => t.no == no) with
  | some i => i
  | none => -1

set_option maxRecDepth 100000 in
set_option maxHeartbeats 1000000 in
theorem specTaskAt_any (a : Option Addr) (cap : Nat) (ts : List Tsk) (no : Int) (w : World) (hl : ts.length ≤ maxLen) (hs : Ts w a ts) :
    Calls Tryz.prog 36 #[.slice a ts.length cap, .int .i64 no] w fun e w' => e = .returned (.int .i64 (atFrom ts no)) ∧ Keeps w w' := by
  unfold maxLen at hl
  generalize hn : ts.length = n at hl
  have Hn : Hid (ts.length = n) := hn
  clear hn
  go_enter Tryz.func36, Tryz.ntmps36
  go_wp2
  go_loopw [5] (fun i wr => ∃ k : Nat, k ≤ n ∧ i = .int .i64 k ∧ Keeps w wr ∧ Hid (∀ j t, j < k → ts[j]? = some t → (t.no == no) = false)) (fun i _ => n - (intOf i).toNat)
  case atStart => exact ⟨0, Nat.zero_le _, rfl, Keeps.refl _, fun j t hj => by omega⟩
  case round =>
    obtain ⟨k, hk, rfl, hK, H⟩ := hrel
    by_cases hlt : k < n
    · obtain ⟨t, ht⟩ := some_at (xs := ts) (k := k) (by rw [Hn.out]; exact hlt)
      obtain ⟨b, off, rfl, r0, r1⟩ := hs.at ht (by omega)
      have hlt' : (k : Int) < (n : Int) := by omega
      have Ht : Hid (ts[k]? = some t) := ht
      clear hs ht
      cases hq : (t.no == no)
      · go_wp2
        exact ⟨⟨k + 1, by omega, by go_num, hK, fun j s hj hs => by
          by_cases e : j = k
          · subst e; rw [Ht.out] at hs; cases hs; exact hq
          · exact H.out j s (by omega) hs⟩, by simp only [intOf]; omega⟩
      · have Hr : Hid (atFrom ts no = k) := by
          show _ = _
          have : ts.findIdx? (fun t => t.no == no) = some k := by
            rw [List.findIdx?_eq_some_iff_getElem]
            have hk' : k < ts.length := by rw [Hn.out]; exact hlt
            have e1 : ts[k] = t := by have := Ht.out; rw [List.getElem?_eq_getElem hk'] at this; simpa using this
            refine ⟨hk', by rw [e1]; exact hq, fun j hj => ?_⟩
            have := H.out j ts[j] (by omega) (List.getElem?_eq_getElem _)
            simp [this]
          simp [atFrom, this]
        go_wp2
        go_ret
        exact ⟨by rw [Hr.out]; rfl, hK⟩
    · have Hr : Hid (atFrom ts no = -1) := by
        show _ = _
        have : ts.findIdx? (fun t => t.no == no) = none := by
          rw [List.findIdx?_eq_none_iff]
          intro t ht
          obtain ⟨j, hj, rfl⟩ := List.mem_iff_getElem.1 ht
          exact H.out j _ (by have := Hn.out; omega) (List.getElem?_eq_getElem hj)
        simp [atFrom, this]
      go_wp2
      go_ret
      exact ⟨by rw [Hr.out]; rfl, hK⟩

set_option maxRecDepth 100000 in
set_option maxHeartbeats 2000000 in
theorem toTaskS_any (a : Option Addr) (cap : Nat) (ts : List Tsk) (w : World) (hl : ts.length ≤ 1048576) (hs : Ts w a ts) :
    Calls Tryz.prog 37 #[.slice a ts.length cap] w fun e w' => ∃ b, e = .returned (.slice (some ⟨b, 0, none⟩) ts.length ts.length) ∧ Ts w' (some ⟨b, 0, none⟩) ts ∧ (∃ f, w'.rowIs b 47 (ts.length * 14) f) ∧ w.heap.size ≤ b ∧ Keeps w w' := by
  generalize hn : ts.length = n at hl
  have Hn : Hid (ts.length = n) := hn
  clear hn
  obtain ⟨C, hC, hmk⟩ := run_make_any (P := Tryz.prog) 32 47 (tk Tsk.zero) 14 112 Tryz.underlying32 (by kernel_rfl) n (by omega) (by omega)
  obtain ⟨f0, hrow0⟩ := rowIs_new w C 47
  rw [hC] at hrow0
  clear hC
  go_enter Tryz.func37, Tryz.ntmps37
  go_wp2
  go_loopw [4] (fun i wr => ∃ k : Nat, k ≤ n ∧ i = .int .i64 k ∧ Keeps w wr ∧ (∃ f, wr.rowIs w.heap.size 47 (n * 14) f) ∧ Hid (∀ j t, j < k → ts[j]? = some t → ∀ m, m < 14 → wr.cell? ⟨w.heap.size, j * 14 + m, none⟩ = (tc t)[m]?)) (fun i _ => n - (intOf i).toNat)
  case atStart => exact ⟨0, Nat.zero_le _, rfl, (Keeps.refl _).alloc _, ⟨f0, hrow0⟩, fun j _ hj => by omega⟩
  case round =>
    obtain ⟨k, hk, rfl, hK, ⟨f, hrow⟩, hf⟩ := hrel
    clear hmk hrow0
    by_cases hlt : k < n
    · obtain ⟨t, ht⟩ := some_at (xs := ts) (k := k) (by rw [Hn.out]; exact hlt)
      obtain ⟨b, off, rfl, r0, r1⟩ := hs.at ht (by omega)
      have Ht : Hid (ts[k]? = some t) := ht
      clear ht hs
      have hlt' : (k : Int) < (n : Int) := by omega
      have s0 : ∀ w', Keeps wr w' → w'.cell? ⟨w.heap.size, k * 14, none⟩ = some (f (k * 14)) := fun w' h => (rowIs_keeps hrow h).cell (by omega)
      have s1 : ∀ w', Keeps wr w' → ∀ m, m < 14 → w'.cell? ⟨w.heap.size, k * 14 + m, none⟩ = some (f (k * 14 + m)) := fun w' h m hm => (rowIs_keeps hrow h).cell (by omega)
      have s2 : ∀ w', Keeps wr w' → ∀ o, w'.frozen? ⟨w.heap.size, o, none⟩ = false := fun w' h o => (rowIs_keeps hrow h).frozen _
      have HR : Hid (wr.rowIs w.heap.size 47 (n * 14) f) := hrow
      clear hrow
      go_wp2_with (go_at_call 77; refine (toTask_any t _).mono ?_; rintro e w1 ⟨rfl, hb⟩)
      have hR1 := rowIs_keeps HR.out hb
      refine ⟨⟨k + 1, by omega, by go_num, (hK.trans hb).putAt (b := w.heap.size) (o := k * 14) (Nat.le_refl _) t, putAt_row (o := k * 14) hR1 t, ?_⟩, by simp only [intOf]; omega⟩
      intro j s hj hjs m hm
      by_cases hjk : j = k
      · subst hjk
        rw [Ht.out] at hjs
        cases hjs
        exact putAt_in (o := j * 14) t (fun m hm => ⟨_, s1 _ hb m hm⟩) m hm
      · refine (putAt_other (w := w1) (b := w.heap.size) (o := k * 14) t (by omega)).trans ((hb.cells _ _ HR.out.lt).trans ?_)
        exact hf.out j s (by omega) hjs m hm
    · have e : k = n := by omega
      subst e
      go_wp2
      go_ret
      refine ⟨w.heap.size, rfl, .inr ⟨_, _, rfl, hrow.lt, fun i x hx m hm => ?_⟩, ⟨f, hrow⟩, Nat.le_refl _, hK⟩
      rw [Nat.zero_add]
      refine hf.out i x ?_ hx m hm
      have : i < ts.length := by
        rcases Nat.lt_or_ge i ts.length with h | h
        · exact h
        · simp [List.getElem?_eq_none h] at hx
      rw [Hn.out] at this
      exact this
end Go.Proofs.YthpdlbcdbncnhaaGreatDoor
