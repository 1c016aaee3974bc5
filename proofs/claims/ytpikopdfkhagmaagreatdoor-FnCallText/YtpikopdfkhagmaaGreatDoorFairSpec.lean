/-
  Weights and steps: the model's, and the laws' walks over contracts of the program's functions.
  Fair shares, as plain functions, and what holds of them.
  Fair shares: contracts of the model's functions.
  Fair shares: a contract of the model's function.
  Fair shares: a contract of the model's function.
-/
import Derived.Test.YtpikopdfkhagmaaGreatDoorLate2
import Derived.Test.YtpikopdfkhagmaaGreatDoorTaskSpec
import Derived.Test.YtpikopdfkhagmaaGreatDoorPutC
namespace Go.Proofs.YtpikopdfkhagmaaGreatDoor
open Go.RowKit
attribute [local go_sem] Keeps.refl Keeps.alloc Keeps.drew Keeps.drewN

/-- The weight of a nice; 0 of others. -/
def weightI (x : Int) : Int :=
  if x = -4 then 24 else if x = -3 then 16 else if x = -2 then 12 else if x = -1 then 8 else if x = 0 then 6 else if x = 1 then 4 else if x = 2 then 3 else if x = 3 then 2 else if x = 4 then 1 else 0
/-- Its step; 0 of others. -/
def stepI (x : Int) : Int :=
  if x = -4 then 2 else if x = -3 then 3 else if x = -2 then 4 else if x = -1 then 6 else if x = 0 then 8 else if x = 1 then 12 else if x = 2 then 16 else if x = 3 then 24 else if x = 4 then 48 else 0
theorem nine {x : Int} (h1 : -4 ≤ x) (h2 : x ≤ 4) : x = -4 ∨ x = -3 ∨ x = -2 ∨ x = -1 ∨ x = 0 ∨ x = 1 ∨ x = 2 ∨ x = 3 ∨ x = 4 := by omega
theorem weightI_no {x : Int} (h : inB x (-4) 4 = false) : weightI x = 0 := by
  have hh : ¬ (-4 ≤ x ∧ x ≤ 4) := fun h' => by rw [inB_iff.2 h'] at h; cases h
  unfold weightI
  repeat rw [if_neg (by omega)]
theorem stepI_no {x : Int} (h : inB x (-4) 4 = false) : stepI x = 0 := by
  have hh : ¬ (-4 ≤ x ∧ x ≤ 4) := fun h' => by rw [inB_iff.2 h'] at h; cases h
  unfold stepI
  repeat rw [if_neg (by omega)]

set_option maxRecDepth 100000 in
set_option maxHeartbeats 1000000 in
theorem specWeightOf_any (x : Int) (w : World) :
    Calls Tryz.prog 139 #[.int .i64 x] w fun e w' => e = .returned (.int .i64 (weightI x)) ∧ Keeps w w' := by
  cases h : inB x (-4) 4
  · have Hr : Hid (weightI x = 0) := weightI_no h
    go_enter Tryz.func139, Tryz.ntmps139
    go_wp2_with (go_at_call 78; refine (specNiceOk_any _ _).mono ?_; rintro e w' ⟨rfl, rfl⟩)
    go_ret
    exact ⟨by rw [Hr.out]; rfl, Keeps.refl _⟩
  · obtain ⟨h1, h2⟩ := inB_iff.1 h
    rcases nine h1 h2 with rfl | rfl | rfl | rfl | rfl | rfl | rfl | rfl | rfl <;>
    · clear h h1 h2
      go_enter Tryz.func139, Tryz.ntmps139
      go_wp2_with (go_at_call 78; refine (specNiceOk_any _ _).mono ?_; rintro e w' ⟨rfl, rfl⟩)
      go_ret
      exact ⟨rfl, (Keeps.refl _).alloc _⟩

set_option maxRecDepth 100000 in
set_option maxHeartbeats 1000000 in
theorem specStepOf_any (x : Int) (w : World) :
    Calls Tryz.prog 138 #[.int .i64 x] w fun e w' => e = .returned (.int .i64 (stepI x)) ∧ Keeps w w' := by
  cases h : inB x (-4) 4
  · have Hr : Hid (stepI x = 0) := stepI_no h
    go_enter Tryz.func138, Tryz.ntmps138
    go_wp2_with (go_at_call 78; refine (specNiceOk_any _ _).mono ?_; rintro e w' ⟨rfl, rfl⟩)
    go_ret
    exact ⟨by rw [Hr.out]; rfl, Keeps.refl _⟩
  · obtain ⟨h1, h2⟩ := inB_iff.1 h
    rcases nine h1 h2 with rfl | rfl | rfl | rfl | rfl | rfl | rfl | rfl | rfl <;>
    · clear h h1 h2
      go_enter Tryz.func138, Tryz.ntmps138
      go_wp2_with (first
        | (go_at_call 78; refine (specNiceOk_any _ _).mono ?_; rintro e w' ⟨rfl, rfl⟩)
        | (go_at_call 139; refine (specWeightOf_any _ _).mono ?_; rintro e w' ⟨rfl, k⟩))
      go_ret
      exact ⟨congrArg (fun z => Ending.returned (Value.int .i64 z)) (show wrap64 (Int.tdiv 48 (weightI _)) = stepI _ by kernel_rfl), k⟩

end Go.Proofs.YtpikopdfkhagmaaGreatDoor
namespace Go.Proofs.YtpikopdfkhagmaaGreatDoor
open Go.RowKit

/-- It is a task that shares fairly. -/
def fairB (t : Tsk) : Bool := taskB t && t.cls == 3
def fairBefB (a b : Tsk) : Bool := fairB a && fairB b && (decide (a.v < b.v) || a.v == b.v && decide (a.no < b.no))
def fairTo (t : Tsk) (x : Int) : Tsk := if inB x 0 100000000 then { t with v := x } else t
def fairSpendT (t : Tsk) : Tsk := if fairB t then fairTo t (t.v + stepI t.nice) else t
def fairWakeT (t : Tsk) (floor : Int) : Tsk := if fairB t then fairTo t (max t.v floor) else t
def moveB (t : Tsk) (cpu frm dst : Int) : Bool := fairB t && inB cpu 0 3 && inB frm 0 100000000 && inB dst 0 100000000 && !decide (100000000 < dst + max (t.v - frm) 0)
def fairMoveT (t : Tsk) (cpu frm dst : Int) : Tsk := if moveB t cpu frm dst then { t with cpu := cpu, v := dst + max (t.v - frm) 0 } else t
/-- The least, one more looked at. -/
def leastS (least : Int) (t : Tsk) : Int := if fairB t && (decide (least < 0) || decide (t.v < least)) then t.v else least
def leastV (ts : List Tsk) : Int := ts.foldl leastS (-1)
def fairFloorI (ts : List Tsk) (floor : Int) : Int := if leastV ts < 0 then floor else max floor (leastV ts)
/-- What such a task holds. -/
structure IsFair (t : Tsk) : Prop where
  cls : t.cls = 3
  no : 1 ≤ t.no ∧ t.no ≤ 1000
  cpu : 0 ≤ t.cpu ∧ t.cpu ≤ 3
  st : 1 ≤ t.st ∧ t.st ≤ 2
  nice : -4 ≤ t.nice ∧ t.nice ≤ 4
  v : 0 ≤ t.v ∧ t.v ≤ 100000000
  none : t.q = 0 ∧ t.p = 0 ∧ t.left = 0 ∧ t.due = 0 ∧ t.prio = 0 ∧ t.round = 0 ∧ t.seq = 0
theorem fairB_iff (t : Tsk) : fairB t = true ↔ IsFair t := by
  constructor
  · intro h
    simp only [fairB, Bool.and_eq_true, beq_iff_eq] at h
    obtain ⟨h1, h2⟩ := h
    simp [taskB, cleanB, ofClassB, h2, dueZ, fixZ, inB_iff] at h1
    obtain ⟨⟨⟨⟨hno, hcpu⟩, hst⟩, hz⟩, hn, hv⟩ := h1
    exact ⟨h2, by omega, by omega, by omega, by omega, by omega, by omega, by omega, by omega, by omega, by omega, by omega, by omega⟩
  · rintro ⟨h2, hno, hcpu, hst, hn, hv, h0, h1, h3, h4, h5, h6, h7⟩
    simp [fairB, taskB, cleanB, ofClassB, h2, dueZ, fixZ, inB_iff, h0, h1, h3, h4, h5, h6, h7]
    omega
theorem stepI_bd (x : Int) : 0 ≤ stepI x ∧ stepI x ≤ 48 := by
  unfold stepI
  repeat' split
  all_goals omega
end Go.Proofs.YtpikopdfkhagmaaGreatDoor
namespace Go.Proofs.YtpikopdfkhagmaaGreatDoor
open Go.RowKit
attribute [local go_sem] Keeps.refl Keeps.alloc Keeps.drew Keeps.drewN

set_option maxRecDepth 100000 in
theorem l1Max_any (a b : Int) (w : World) :
    Calls Tryz.prog 49 #[.int .i64 a, .int .i64 b] w fun e w' => e = .returned (.int .i64 (max a b)) ∧ w' = w := by
  by_cases h : a > b
  · have Hr : Hid (max a b = a) := by show _ = _; omega
    go_enter Tryz.func49, Tryz.ntmps49
    go_wp2
    go_ret
    exact ⟨by rw [Hr.out]; rfl, rfl⟩
  · have Hr : Hid (max a b = b) := by show _ = _; omega
    have hd : decide (a > b) = false := by simpa using h
    go_enter Tryz.func49, Tryz.ntmps49
    go_wp2
    go_ret
    exact ⟨by rw [Hr.out]; rfl, rfl⟩

set_option maxRecDepth 100000 in
theorem l6Fair_any (t : Tsk) (w : World) :
    Calls Tryz.prog 120 #[tk t] w fun e w' => e = .returned (.bool (fairB t)) ∧ Keeps w w' := by
  go_enter Tryz.func120, Tryz.ntmps120
  go_wp2_with fail
  refine (specTaskOk_any t _).mono ?_
  rintro e w1 ⟨rfl, k1⟩
  have B1 := (Blk.new w (tc t) 90).keeps k1
  have K1 : Keeps w w1 := ((Keeps.refl w).alloc _).trans k1
  obtain ⟨_, b1, b2⟩ := B1
  clear k1
  cases hb : taskB t
  · have Hr : Hid (fairB t = false) := by show _ = _; simp [fairB, hb]
    go_wp2
    go_ret
    exact ⟨by rw [Hr.out]; rfl, K1⟩
  · have Hr : Hid (fairB t = (t.cls == 3)) := by show _ = _; simp [fairB, hb]
    go_wp2
    go_ret
    exact ⟨by rw [Hr.out]; rfl, K1⟩

set_option maxRecDepth 100000 in
set_option maxHeartbeats 2000000 in
theorem specFairBefore_any (a b : Tsk) (w : World) :
    Calls Tryz.prog 134 #[tk a, tk b] w fun e w' => e = .returned (.bool (fairBefB a b)) ∧ Keeps w w' := by
  go_enter Tryz.func134, Tryz.ntmps134
  go_wp2_with fail
  have kW : Keeps w ((w.alloc (.cells (tc a) 90)).alloc (.cells (tc b) 90)) := ((Keeps.refl w).alloc _).alloc _
  have r1 : ∀ w', Keeps ((w.alloc (.cells (tc a) 90)).alloc (.cells (tc b) 90)) w' → ∀ k, w'.cell? ⟨w.heap.size, k, none⟩ = (tc a)[k]? := fun w' h => (((Blk.new w (tc a) 90).alloc _).keeps h).cells
  have r2 : ∀ w', Keeps ((w.alloc (.cells (tc a) 90)).alloc (.cells (tc b) 90)) w' → ∀ k, w'.cell? ⟨w.heap.size + 1, k, none⟩ = (tc b)[k]? := fun w' h => by
    have := (Blk.new (w.alloc (.cells (tc a) 90)) (tc b) 90).keeps h
    simp only [World.size_alloc] at this
    exact this.cells
  generalize (w.alloc (.cells (tc a) 90)).alloc (.cells (tc b) 90) = W at *
  refine (l6Fair_any a _).mono ?_
  rintro e w1 ⟨rfl, k1⟩
  cases ha : fairB a
  · have Hr : Hid (fairBefB a b = false) := by show _ = _; simp [fairBefB, ha]
    go_wp2
    go_ret
    exact ⟨by rw [Hr.out]; rfl, kW.trans k1⟩
  · go_wp2_with fail
    refine (l6Fair_any b _).mono ?_
    rintro e w2 ⟨rfl, k2⟩
    have K2 := k1.trans k2
    cases hb : fairB b
    · have Hr : Hid (fairBefB a b = false) := by show _ = _; simp [fairBefB, hb]
      go_wp2
      go_ret
      exact ⟨by rw [Hr.out]; rfl, kW.trans K2⟩
    · cases h1 : decide (a.v < b.v)
      · cases h2 : (a.v == b.v)
        · have Hr : Hid (fairBefB a b = false) := by show _ = _; simp only [fairBefB, h1, h2, Bool.false_and, Bool.or_false, Bool.and_false]
          go_wp2
          go_ret
          exact ⟨by rw [Hr.out]; rfl, kW.trans K2⟩
        · have Hr : Hid (fairBefB a b = decide (a.no < b.no)) := by show _ = _; simp only [fairBefB, ha, hb, h1, h2, Bool.true_and, Bool.false_or]
          go_wp2
          go_ret
          exact ⟨by rw [Hr.out]; rfl, kW.trans K2⟩
      · have Hr : Hid (fairBefB a b = true) := by show _ = _; simp only [fairBefB, ha, hb, h1, Bool.true_or, Bool.and_true]
        go_wp2
        go_ret
        exact ⟨by rw [Hr.out]; rfl, kW.trans K2⟩

set_option maxRecDepth 100000 in
set_option maxHeartbeats 2000000 in
theorem l6To_any (t : Tsk) (x : Int) (w : World) :
    Calls Tryz.prog 135 #[tk t, .int .i64 x] w fun e w' => e = .returned (tk (fairTo t x)) ∧ Keeps w w' := by
  cases hb : inB x 0 100000000
  · have Hn : Hid (fairTo t x = t) := by show _ = _; simp [fairTo, hb]
    go_enter Tryz.func135, Tryz.ntmps135
    go_wp2_with (go_at_call 29; refine (l1In_any _ _ _ _).mono ?_; rintro e w' ⟨rfl, rfl⟩; rw [hb])
    exact bodyPost_ret (v := tk t) (by simp [results, Tryz.results135, go_sem]) rfl ⟨by rw [Hn.out], by repeat (first | exact Keeps.refl _ | refine Keeps.alloc ?_ _ | refine Keeps.drewN ?_ _ | refine Keeps.setCell ?_ (by simp [go_sem]) _)⟩
  · have Hn : Hid (fairTo t x = { t with v := x }) := by show _ = _; simp [fairTo, hb]
    go_enter Tryz.func135, Tryz.ntmps135
    go_wp2_with (go_at_call 29; refine (l1In_any _ _ _ _).mono ?_; rintro e w' ⟨rfl, rfl⟩; rw [hb])
    exact bodyPost_ret (v := tk { t with v := x }) (by simp [results, Tryz.results135, go_sem]) rfl ⟨by rw [Hn.out], by repeat (first | exact Keeps.refl _ | refine Keeps.alloc ?_ _ | refine Keeps.drewN ?_ _ | refine Keeps.setCell ?_ (by simp [go_sem]) _)⟩

end Go.Proofs.YtpikopdfkhagmaaGreatDoor
namespace Go.Proofs.YtpikopdfkhagmaaGreatDoor
open Go.RowKit
attribute [local go_sem] Keeps.refl Keeps.alloc Keeps.drew Keeps.drewN

set_option maxRecDepth 100000 in
set_option maxHeartbeats 4000000 in
theorem specFairWake_any (t : Tsk) (floor : Int) (w : World) :
    Calls Tryz.prog 125 #[tk t, .int .i64 floor] w fun e w' => e = .returned (tk (fairWakeT t floor)) ∧ Keeps w w' := by
  go_enter Tryz.func125, Tryz.ntmps125
  go_wp2_with fail
  refine (l6Fair_any t _).mono ?_
  rintro e w1 ⟨rfl, k1⟩
  have B1 := ((Blk.new w (tc t) 90).alloc (.cells (tc Tsk.zero) 90)).keeps k1
  have B2 := (Blk.new (w.alloc (.cells (tc t) 90)) (tc Tsk.zero) 90).keeps k1
  have K1 : Hid (Keeps w w1) := (((Keeps.refl w).alloc _).alloc _).trans k1
  simp only [World.size_alloc] at B2
  have R : Hid (Blk w1 (w.heap.size + 1) (tc Tsk.zero)) := B2
  have B0 : Hid (Blk w1 w.heap.size (tc t)) := B1
  obtain ⟨_, b1, b2⟩ := B1
  obtain ⟨_, c1, c2⟩ := B2
  clear k1
  cases hd : fairB t
  · have Hn : Hid (fairWakeT t floor = t) := by show _ = _; simp [fairWakeT, hd]
    go_wp2
    have D := R.out.putC (tc (t)).toList rfl
    have K := Keeps.putC (b := w.heap.size + 1) (by omega) (tc (t)).toList 0 K1.out
    change bodyPost _ _ _ _ _ (putC w1 (w.heap.size + 1) 0 (tc (t)).toList)
    generalize putC w1 (w.heap.size + 1) 0 (tc (t)).toList = X at D K ⊢
    exact bodyPost_ret (v := tk (t)) (by simp [results, Tryz.results125, go_sem, D.cells]) rfl ⟨by rw [Hn.out], K⟩
  · have Hn : Hid (fairWakeT t floor = fairTo t (max t.v floor)) := by show _ = _; simp [fairWakeT, hd]
    obtain ⟨N, HN⟩ : ∃ N, Hid (fairTo t (max t.v floor) = N) := ⟨_, rfl⟩
    go_wp2_with fail
    have H0 : Has w w.heap.size (tc t) w1 := ⟨K1.out, B0.out⟩
    have r1 : ∀ w', Has w w.heap.size (tc t) w' → ∀ k, w'.cell? ⟨w.heap.size, k, none⟩ = (tc t)[k]? := fun w' h => h.box.cells
    clear b1 b2 c1 c2
    refine wp_region_held_drew (S := (fun w' => Has w w.heap.size (tc t) w')) (by kernel_rfl) ?_ (fun hHeld => ?_)
    · exact H0.go (Keeps.refl _).drew
    refine Plan.go [0, 1, 2, 3] ?_
    iterate 4 (refine takeL (by simp only [opsAt]; rfl) (by kernel_rfl) (by exact fun _ _ _ h => h) (by rfl) (by assumption) (fun w _ => by go_simp; try (with_reducible rfl)) ?_; try simp only [putAtH])
    refine Plan.nil ?_
    refine callH 4 (by kernel_rfl) (by simp only [opsAt]; rfl) (fun K hK => ?_)
    go_simp
    first
      | (go_at_call 49; refine (l1Max_any _ _ _).mono ?_; rintro e w2 ⟨rfl, rfl⟩)
      | (go_at_call 135; refine (l6To_any t _ _).mono ?_; rintro e w3 ⟨rfl, k3⟩; rw [HN.out])
    try go_wp2_with fail
    refine hK.out _ _ ?_ (fun hHeld => ?_)
    · first | exact Has.go (by assumption) (by assumption) | assumption
    clear hK K
    try simp only [putAtH]
    refine callH 5 (by kernel_rfl) (by simp only [opsAt]; rfl) (fun K hK => ?_)
    go_simp
    first
      | (go_at_call 49; refine (l1Max_any _ _ _).mono ?_; rintro e w2 ⟨rfl, rfl⟩)
      | (go_at_call 135; refine (l6To_any t _ _).mono ?_; rintro e w3 ⟨rfl, k3⟩; rw [HN.out])
    try go_wp2_with fail
    refine hK.out _ _ ?_ (fun hHeld => ?_)
    · first | exact Has.go (by assumption) (by assumption) | assumption
    clear hK K
    try simp only [putAtH]
    refine callH 6 (by kernel_rfl) (by simp only [opsAt]; rfl) (fun K hK => ?_)
    have HB := R.out.keeps ((Keeps.refl w1).drew.trans k3); have HD : Hid (Blk w3 (w.heap.size + 1) (tc Tsk.zero)) := HB; obtain ⟨_, q1, q2⟩ := HB
    go_simp
    try go_wp2_with fail
    refine hK.out _ _ ?_ (fun hHeld => ?_)
    · exact Has.put (by assumption) (r := w.heap.size + 1) (by omega) (by omega) 0 (tc N).toList
    clear hK K
    try simp only [putAtH]
    refine wpAnyH_done (by kernel_rfl) ?_ _
    go_wp2
    have D := HD.out.putC (tc N).toList rfl
    have K := Keeps.putC (b := w.heap.size + 1) (by omega) (tc N).toList 0 (K1.out.trans ((Keeps.refl w1).drew.trans k3))
    change bodyPost _ _ _ _ _ (putC w3 (w.heap.size + 1) 0 (tc N).toList)
    generalize putC w3 (w.heap.size + 1) 0 (tc N).toList = X at D K ⊢
    exact bodyPost_ret (v := tk N) (by simp [results, Tryz.results125, go_sem, D.cells]) rfl ⟨by rw [Hn.out, HN.out], K⟩
end Go.Proofs.YtpikopdfkhagmaaGreatDoor
namespace Go.Proofs.YtpikopdfkhagmaaGreatDoor
open Go.RowKit
attribute [local go_sem] Keeps.refl Keeps.alloc Keeps.drew Keeps.drewN

set_option maxRecDepth 100000 in
set_option maxHeartbeats 4000000 in
theorem specFairSpend_any (t : Tsk) (w : World) :
    Calls Tryz.prog 130 #[tk t] w fun e w' => e = .returned (tk (fairSpendT t)) ∧ Keeps w w' := by
  go_enter Tryz.func130, Tryz.ntmps130
  go_wp2_with fail
  refine (l6Fair_any t _).mono ?_
  rintro e w1 ⟨rfl, k1⟩
  have B1 := ((Blk.new w (tc t) 90).alloc (.cells (tc Tsk.zero) 90)).keeps k1
  have B2 := (Blk.new (w.alloc (.cells (tc t) 90)) (tc Tsk.zero) 90).keeps k1
  have K1 : Hid (Keeps w w1) := (((Keeps.refl w).alloc _).alloc _).trans k1
  simp only [World.size_alloc] at B2
  have R : Hid (Blk w1 (w.heap.size + 1) (tc Tsk.zero)) := B2
  have B0 : Hid (Blk w1 w.heap.size (tc t)) := B1
  obtain ⟨_, b1, b2⟩ := B1
  obtain ⟨_, c1, c2⟩ := B2
  clear k1
  cases hd : fairB t
  · have Hn : Hid (fairSpendT t = t) := by show _ = _; simp [fairSpendT, hd]
    go_wp2
    have D := R.out.putC (tc (t)).toList rfl
    have K := Keeps.putC (b := w.heap.size + 1) (by omega) (tc (t)).toList 0 K1.out
    change bodyPost _ _ _ _ _ (putC w1 (w.heap.size + 1) 0 (tc (t)).toList)
    generalize putC w1 (w.heap.size + 1) 0 (tc (t)).toList = X at D K ⊢
    exact bodyPost_ret (v := tk (t)) (by simp [results, Tryz.results130, go_sem, D.cells]) rfl ⟨by rw [Hn.out], K⟩
  · have H := (fairB_iff t).1 hd
    obtain ⟨v0, v1⟩ := H.v
    have hst := stepI_bd t.nice
    have e1 : IntKind.i64.wrap (t.v + stepI t.nice) = t.v + stepI t.nice := Go.IntWalk.i64_in _ (by omega)
    have Hn : Hid (fairSpendT t = fairTo t (t.v + stepI t.nice)) := by show _ = _; simp [fairSpendT, hd]
    clear H hst
    obtain ⟨N, HN⟩ : ∃ N, Hid (fairTo t (t.v + stepI t.nice) = N) := ⟨_, rfl⟩
    go_wp2_with fail
    have H0 : Has w w.heap.size (tc t) w1 := ⟨K1.out, B0.out⟩
    have r1 : ∀ w', Has w w.heap.size (tc t) w' → ∀ k, w'.cell? ⟨w.heap.size, k, none⟩ = (tc t)[k]? := fun w' h => h.box.cells
    clear b1 b2 c1 c2
    refine wp_region_held_drew (S := (fun w' => Has w w.heap.size (tc t) w')) (by kernel_rfl) ?_ (fun hHeld => ?_)
    · exact H0.go (Keeps.refl _).drew
    refine Plan.go [0, 1, 2, 3, 4] ?_
    iterate 5 (refine takeL (by simp only [opsAt]; rfl) (by kernel_rfl) (by exact fun _ _ _ h => h) (by rfl) (by assumption) (fun w _ => by go_simp; try (with_reducible rfl)) ?_; try simp only [putAtH])
    refine Plan.nil ?_
    refine callH 5 (by kernel_rfl) (by simp only [opsAt]; rfl) (fun K hK => ?_)
    go_simp
    first
      | (go_at_call 138; refine (specStepOf_any _ _).mono ?_; rintro e w2 ⟨rfl, k2⟩)
      | (go_at_call 135; refine (l6To_any t _ _).mono ?_; rintro e w3 ⟨rfl, k3⟩; rw [HN.out])
    try go_wp2_with fail
    refine hK.out _ _ ?_ (fun hHeld => ?_)
    · first | exact Has.go (by assumption) (by assumption) | assumption
    clear hK K
    try simp only [putAtH]
    refine takeH 6 (v := ?_) (by simp only [opsAt]; rfl) (by kernel_rfl) (by exact fun _ _ _ h => h) (by rfl) (by assumption) ?_ ?_
    rotate_left
    · (intro w _; go_simp; try (with_reducible rfl))
    try simp only [putAtH]
    refine callH 7 (by kernel_rfl) (by simp only [opsAt]; rfl) (fun K hK => ?_)
    go_simp
    first
      | (go_at_call 138; refine (specStepOf_any _ _).mono ?_; rintro e w2 ⟨rfl, k2⟩)
      | (go_at_call 135; refine (l6To_any t _ _).mono ?_; rintro e w3 ⟨rfl, k3⟩; rw [HN.out])
    try go_wp2_with fail
    refine hK.out _ _ ?_ (fun hHeld => ?_)
    · first | exact Has.go (by assumption) (by assumption) | assumption
    clear hK K
    try simp only [putAtH]
    refine callH 8 (by kernel_rfl) (by simp only [opsAt]; rfl) (fun K hK => ?_)
    have HB := R.out.keeps (((Keeps.refl w1).drew.trans k2).trans k3); have HD : Hid (Blk w3 (w.heap.size + 1) (tc Tsk.zero)) := HB; obtain ⟨_, q1, q2⟩ := HB
    go_simp
    try go_wp2_with fail
    refine hK.out _ _ ?_ (fun hHeld => ?_)
    · exact Has.put (by assumption) (r := w.heap.size + 1) (by omega) (by omega) 0 (tc N).toList
    clear hK K
    try simp only [putAtH]
    refine wpAnyH_done (by kernel_rfl) ?_ _
    go_wp2
    have D := HD.out.putC (tc N).toList rfl
    have K := Keeps.putC (b := w.heap.size + 1) (by omega) (tc N).toList 0 (K1.out.trans (((Keeps.refl w1).drew.trans k2).trans k3))
    change bodyPost _ _ _ _ _ (putC w3 (w.heap.size + 1) 0 (tc N).toList)
    generalize putC w3 (w.heap.size + 1) 0 (tc N).toList = X at D K ⊢
    exact bodyPost_ret (v := tk N) (by simp [results, Tryz.results130, go_sem, D.cells]) rfl ⟨by rw [Hn.out, HN.out], K⟩
end Go.Proofs.YtpikopdfkhagmaaGreatDoor
