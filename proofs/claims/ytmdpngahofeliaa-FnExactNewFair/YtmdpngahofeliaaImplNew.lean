/-
  New tasks: the program's.
-/
import Derived.Test.YtmdpngahofeliaaImplTaskOk
namespace Go.Proofs.Ytmdpngahofeliaa
open Go.RowKit

set_option maxRecDepth 100000 in
set_option maxHeartbeats 2000000 in
theorem onlyRight_any (t : Tsk) (w : World) :
    Calls Try.prog 77 #[tk t] w fun e w' => e = .returned (.tuple #[tk (newT t), .bool (taskB t)]) ∧ Keeps w w' := by
  go_enter Try.func77, Try.ntmps77
  go_wp2_with fail
  have kW : Keeps w ((w.alloc (.cells (tc t) 25)).alloc (.cells (tc Tsk.zero) 25)) := ((Keeps.refl _).alloc _).alloc _
  have B0 := (Blk.new w (tc t) 25).alloc (.cells (tc Tsk.zero) 25)
  have B1 := Blk.new (w.alloc (.cells (tc t) 25)) (tc Tsk.zero) 25
  rw [show (w.alloc (.cells (tc t) 25)).heap.size = w.heap.size + 1 by simp] at B1
  refine (implTaskOk_says t _).mono ?_
  rintro e w1 ⟨rfl, k1⟩
  have C0 := B0.keeps k1
  have C1 := B1.keeps k1
  have k2 := kW.trans k1
  clear B0 B1 k1 kW
  obtain ⟨_, r1, r2⟩ := C0
  have D1 : Hid (Blk w1 (w.heap.size + 1) (tc Tsk.zero)) := C1
  obtain ⟨_, r3, r4⟩ := C1
  cases hb : taskB t
  · have Hn : Hid (newT t = Tsk.zero) := by show _ = _; simp [newT, hb]
    have Hb : Hid (taskB t = false) := hb
    go_wp2
    have D := D1.out.putT Tsk.zero
    have K := k2.putT (b := w.heap.size + 1) (by omega) Tsk.zero
    change bodyPost _ _ _ _ _ (putT w1 (w.heap.size + 1) Tsk.zero)
    generalize putT w1 (w.heap.size + 1) Tsk.zero = X at D K ⊢
    exact bodyPost_ret (v := .tuple #[tk Tsk.zero, .bool false]) (by simp [results, Try.results77, go_sem, D.cells]) rfl ⟨by rw [Hn.out, Hb.out], K⟩
  · have Hn : Hid (newT t = t) := by show _ = _; simp [newT, hb]
    have Hb : Hid (taskB t = true) := hb
    go_wp2
    have D := D1.out.putT t
    have K := k2.putT (b := w.heap.size + 1) (by omega) t
    change bodyPost _ _ _ _ _ (putT w1 (w.heap.size + 1) t)
    generalize putT w1 (w.heap.size + 1) t = X at D K ⊢
    exact bodyPost_ret (v := .tuple #[tk t, .bool true]) (by simp [results, Try.results77, go_sem, D.cells]) rfl ⟨by rw [Hn.out, Hb.out], K⟩

/-- A new task with a deadline at whatever number. -/
def dueAt (no cpu q p d : Int) : Tsk := ⟨no, 1, cpu, 1, false, q, p, q, d, 0, 0, 0, 0, 0⟩
theorem wrap64_in {n : Int} (h : -9223372036854775808 ≤ n ∧ n ≤ 9223372036854775807) : wrap64 n = n := by
  unfold wrap64; omega
theorem taskB_dueAt {no cpu q p d : Int} (h : okB q p = false) : taskB (dueAt no cpu q p d) = false := by
  simp [taskB, ofClassB, dueAt, h]

set_option maxRecDepth 100000 in
set_option maxHeartbeats 2000000 in
theorem implNewDue_says : SaysNewDue := by
  intro no cpu q p now w
  cases h1 : inB now 0 100000
  · have Hb : Hid (dueNewB no cpu q p now = false) := by show _ = _; simp [dueNewB, h1]
    have Hn : Hid (dueNewT no cpu q p now = Tsk.zero) := by show _ = _; simp [dueNewT, Hb.out]
    go_enter Try.func24, Try.ntmps24
    go_wp2_with (go_at_call 76; refine (isWithin_any _ _ _ _).mono ?_; rintro e w' ⟨rfl, rfl⟩)
    exact bodyPost_ret (v := .tuple #[tk Tsk.zero, .bool false]) (by simp [results, Try.results24, go_sem, Tsk.zero]) rfl ⟨by rw [Hn.out, Hb.out], (Keeps.refl _).alloc _⟩
  · have hd : ∃ d, Hid (wrap64 (now + p) = d) := ⟨_, rfl⟩
    obtain ⟨d, Hd⟩ := hd
    have Hb : Hid (dueNewB no cpu q p now = taskB (dueAt no cpu q p d)) := by
      show _ = _
      cases h2 : okB q p
      · rw [taskB_dueAt h2]; simp [dueNewB, h2]
      · obtain ⟨i1, i2⟩ := inB_iff.1 h1
        obtain ⟨⟨i3, i4⟩, i5, i6⟩ := okB_iff.1 h2
        have : d = now + p := by rw [← Hd.out]; exact wrap64_in (by omega)
        subst this
        simp [dueNewB, h1, h2, dueAt, dueT]
    have Hn : Hid (dueNewT no cpu q p now = newT (dueAt no cpu q p d)) := by
      show _ = _
      cases h2 : okB q p
      · unfold dueNewT newT; rw [Hb.out, taskB_dueAt h2]; rfl
      · obtain ⟨i1, i2⟩ := inB_iff.1 h1
        obtain ⟨⟨i3, i4⟩, i5, i6⟩ := okB_iff.1 h2
        have : d = now + p := by rw [← Hd.out]; exact wrap64_in (by omega)
        subst this
        unfold dueNewT newT; rw [Hb.out]; rfl
    have hw : wrap64 (now + p) = d := Hd.out
    go_enter Try.func24, Try.ntmps24
    go_wp2_with (go_at_call 76; refine (isWithin_any _ _ _ _).mono ?_; rintro e w' ⟨rfl, rfl⟩)
    have hT : (dueAt no cpu q p d).asDue = dueAt no cpu q p d := rfl
    have H0 : Has w (w.heap.size + 1) (dnc (dueAt no cpu q p d)) (((w.alloc (.cells (tc Tsk.zero) 25)).alloc (.cells (dnc (dueAt no cpu q p d)) 73))) := ⟨((Keeps.refl _).alloc _).alloc _, by have := Blk.new (w.alloc (.cells (tc Tsk.zero) 25)) (dnc (dueAt no cpu q p d)) 73; simpa only [World.size_alloc] using this⟩
    have R0 : Blk (((w.alloc (.cells (tc Tsk.zero) 25)).alloc (.cells (dnc (dueAt no cpu q p d)) 73))) w.heap.size (tc Tsk.zero) := (Blk.new w _ _).alloc _
    have r1 : ∀ w', Has w (w.heap.size + 1) (dnc (dueAt no cpu q p d)) w' → ∀ k, w'.cell? ⟨w.heap.size + 1, k, none⟩ = (dnc (dueAt no cpu q p d))[k]? := fun w' h => h.box.cells
    obtain ⟨N, HN⟩ : ∃ N, Hid (newT (dueAt no cpu q p d) = N) := ⟨_, rfl⟩
    obtain ⟨g, Hg⟩ : ∃ g, Hid (taskB (dueAt no cpu q p d) = g) := ⟨_, rfl⟩
    refine wp_region_held_drew (S := (fun w' => Has w (w.heap.size + 1) (dnc (dueAt no cpu q p d)) w')) (by kernel_rfl) ?_ (fun hHeld => ?_)
    · exact H0.go (Keeps.refl _).drew
    refine wpAnyH_take (i := 0) (v := ?_) (by simp only [List.getElem?_toArray, List.getElem?_cons_zero]; rfl) (by kernel_rfl) (by kernel_rfl) (by kernel_rfl) (by exact fun _ _ _ h => h) (Or.inl ⟨by rfl, ?_⟩) (by assumption) ?_
    rotate_left
    · (intro w hSw; (try dsimp only at hSw); go_simp; try (with_reducible rfl))
    try simp only [Act.put, List.setIfInBounds_toArray, List.set_cons_zero, List.set_cons_succ]
    refine wpAnyH_take (i := 1) (v := ?_) (by simp only [List.getElem?_toArray, List.getElem?_cons_succ, List.getElem?_cons_zero]; rfl) (by kernel_rfl) (by kernel_rfl) (by kernel_rfl) (by exact fun _ _ _ h => h) (Or.inl ⟨by rfl, ?_⟩) (by assumption) ?_
    rotate_left
    · (intro w hSw; (try dsimp only at hSw); go_simp; try (with_reducible rfl))
    try simp only [Act.put, List.setIfInBounds_toArray, List.set_cons_zero, List.set_cons_succ]
    refine wpAnyH_take (i := 3) (v := ?_) (by simp only [List.getElem?_toArray, List.getElem?_cons_succ, List.getElem?_cons_zero]; rfl) (by kernel_rfl) (by kernel_rfl) (by kernel_rfl) (by exact fun _ _ _ h => h) (Or.inl ⟨by rfl, ?_⟩) (by assumption) ?_
    rotate_left
    · (intro w hSw; (try dsimp only at hSw); go_simp; try (with_reducible rfl))
    try simp only [Act.put, List.setIfInBounds_toArray, List.set_cons_zero, List.set_cons_succ]
    refine wpAnyH_ready (rs := [2]) (by kernel_rfl) (by simp) ?_
    refine AllReadyH.cons (by simp only [List.getElem?_toArray, List.getElem?_cons_succ, List.getElem?_cons_zero]; rfl) (fun K hK => ?_) AllReadyH.nil
    go_simp
    first
          | (go_at_call 78; refine (readyHead_any _ _ _ _).mono ?_; rintro e w1 ⟨rfl, k1⟩)
          | (go_at_call 68; refine (dueWhole_any (dueAt no cpu q p d) _).mono ?_; rintro e w2 ⟨rfl, k2⟩; rw [hT])
          | (go_at_call 77; refine (onlyRight_any (dueAt no cpu q p d) _).mono ?_; rintro e w3 ⟨rfl, k3⟩; rw [HN.out, Hg.out])
    try go_wp2_with fail
    refine hK.out _ _ ?_ (fun hHeld => ?_)
    · exact hHeld.go (by assumption)
    clear hK K
    try simp only [Act.put, List.setIfInBounds_toArray, List.set_cons_zero, List.set_cons_succ]
    refine wpAnyH_take (i := 4) (v := ?_) (by simp only [List.getElem?_toArray, List.getElem?_cons_succ, List.getElem?_cons_zero]; rfl) (by kernel_rfl) (by kernel_rfl) (by kernel_rfl) (by exact fun _ _ _ h => h) (Or.inl ⟨by rfl, ?_⟩) (by assumption) ?_
    rotate_left
    · (intro w hSw; (try dsimp only at hSw); go_simp; try (with_reducible rfl))
    try simp only [Act.put, List.setIfInBounds_toArray, List.set_cons_zero, List.set_cons_succ]
    refine wpAnyH_ready (rs := [5]) (by kernel_rfl) (by simp) ?_
    refine AllReadyH.cons (by simp only [List.getElem?_toArray, List.getElem?_cons_succ, List.getElem?_cons_zero]; rfl) (fun K hK => ?_) AllReadyH.nil
    go_simp
    first
          | (go_at_call 78; refine (readyHead_any _ _ _ _).mono ?_; rintro e w1 ⟨rfl, k1⟩)
          | (go_at_call 68; refine (dueWhole_any (dueAt no cpu q p d) _).mono ?_; rintro e w2 ⟨rfl, k2⟩; rw [hT])
          | (go_at_call 77; refine (onlyRight_any (dueAt no cpu q p d) _).mono ?_; rintro e w3 ⟨rfl, k3⟩; rw [HN.out, Hg.out])
    try go_wp2_with fail
    refine hK.out _ _ ?_ (fun hHeld => ?_)
    · exact hHeld.go (by assumption)
    clear hK K
    try simp only [Act.put, List.setIfInBounds_toArray, List.set_cons_zero, List.set_cons_succ]
    refine wpAnyH_ready (rs := [6]) (by kernel_rfl) (by simp) ?_
    refine AllReadyH.cons (by simp only [List.getElem?_toArray, List.getElem?_cons_succ, List.getElem?_cons_zero]; rfl) (fun K hK => ?_) AllReadyH.nil
    go_simp
    first
          | (go_at_call 78; refine (readyHead_any _ _ _ _).mono ?_; rintro e w1 ⟨rfl, k1⟩)
          | (go_at_call 68; refine (dueWhole_any (dueAt no cpu q p d) _).mono ?_; rintro e w2 ⟨rfl, k2⟩; rw [hT])
          | (go_at_call 77; refine (onlyRight_any (dueAt no cpu q p d) _).mono ?_; rintro e w3 ⟨rfl, k3⟩; rw [HN.out, Hg.out])
    try go_wp2_with fail
    refine hK.out _ _ ?_ (fun hHeld => ?_)
    · exact hHeld.go (by assumption)
    clear hK K
    try simp only [Act.put, List.setIfInBounds_toArray, List.set_cons_zero, List.set_cons_succ]
    refine wpAnyH_take (i := 7) (v := ?_) (by simp only [List.getElem?_toArray, List.getElem?_cons_succ, List.getElem?_cons_zero]; rfl) (by kernel_rfl) (by kernel_rfl) (by kernel_rfl) (by exact fun _ _ _ h => h) (Or.inl ⟨by rfl, ?_⟩) (by assumption) ?_
    rotate_left
    · (intro w hSw; (try dsimp only at hSw); go_simp; try (with_reducible rfl))
    try simp only [Act.put, List.setIfInBounds_toArray, List.set_cons_zero, List.set_cons_succ]
    refine wpAnyH_take (i := 8) (v := ?_) (by simp only [List.getElem?_toArray, List.getElem?_cons_succ, List.getElem?_cons_zero]; rfl) (by kernel_rfl) (by kernel_rfl) (by kernel_rfl) (by exact fun _ _ _ h => h) (Or.inl ⟨by rfl, ?_⟩) (by assumption) ?_
    rotate_left
    · (intro w hSw; (try dsimp only at hSw); go_simp; try (with_reducible rfl))
    try simp only [Act.put, List.setIfInBounds_toArray, List.set_cons_zero, List.set_cons_succ]
    refine wpAnyH_ready (rs := [9]) (by kernel_rfl) (by simp) ?_
    refine AllReadyH.cons (by simp only [List.getElem?_toArray, List.getElem?_cons_succ, List.getElem?_cons_zero]; rfl) (fun K hK => ?_) AllReadyH.nil
    have HB := R0.keeps ((Keeps.refl _).drew.trans (k1.trans (k2.trans k3))); have HD : Hid (Blk w3 w.heap.size (tc Tsk.zero)) := HB; obtain ⟨_, q1, q2⟩ := HB
    go_simp
    try go_wp2_with fail
    refine hK.out _ _ ?_ (fun hHeld => ?_)
    · exact hHeld.put (r := w.heap.size) (by omega) (by omega) 0 (tc N).toList
    clear hK K
    try simp only [Act.put, List.setIfInBounds_toArray, List.set_cons_zero, List.set_cons_succ]
    refine wpAnyH_take (i := 10) (v := ?_) (by simp only [List.getElem?_toArray, List.getElem?_cons_succ, List.getElem?_cons_zero]; rfl) (by kernel_rfl) (by kernel_rfl) (by kernel_rfl) (by exact fun _ _ _ h => h) (Or.inl ⟨by rfl, ?_⟩) (by assumption) ?_
    rotate_left
    · (intro w hSw; (try dsimp only at hSw); go_simp; try (with_reducible rfl))
    try simp only [Act.put, List.setIfInBounds_toArray, List.set_cons_zero, List.set_cons_succ]
    refine wpAnyH_done (by kernel_rfl) ?_ _
    go_wp2
    have D := HD.out.putC (tc N).toList rfl
    have K := hHeld.keeps
    change bodyPost _ _ _ _ _ (putC w3 w.heap.size 0 (tc N).toList)
    change Keeps w (putC w3 w.heap.size 0 (tc N).toList) at K
    generalize putC w3 w.heap.size 0 (tc N).toList = X at D K ⊢
    exact bodyPost_ret (v := .tuple #[tk N, .bool g]) (by simp [results, Try.results24, go_sem, D.cells]) rfl ⟨by first | rw [HN.out, Hg.out] | rw [Hn.out, Hb.out, HN.out, Hg.out], K⟩

set_option maxRecDepth 100000 in
set_option maxHeartbeats 2000000 in
theorem implNewFixed_says : SaysNewFixed := by
  intro no cpu prio round seq w
  go_enter Try.func27, Try.ntmps27
  go_wp2_with fail
  have hT : (fixT no cpu prio round seq).asFix = fixT no cpu prio round seq := rfl
  have H0 : Has w (w.heap.size + 1) (fnc (fixT no cpu prio round seq)) (((w.alloc (.cells (tc Tsk.zero) 25)).alloc (.cells (fnc (fixT no cpu prio round seq)) 80))) := ⟨((Keeps.refl _).alloc _).alloc _, by have := Blk.new (w.alloc (.cells (tc Tsk.zero) 25)) (fnc (fixT no cpu prio round seq)) 80; simpa only [World.size_alloc] using this⟩
  have R0 : Blk (((w.alloc (.cells (tc Tsk.zero) 25)).alloc (.cells (fnc (fixT no cpu prio round seq)) 80))) w.heap.size (tc Tsk.zero) := (Blk.new w _ _).alloc _
  have r1 : ∀ w', Has w (w.heap.size + 1) (fnc (fixT no cpu prio round seq)) w' → ∀ k, w'.cell? ⟨w.heap.size + 1, k, none⟩ = (fnc (fixT no cpu prio round seq))[k]? := fun w' h => h.box.cells
  obtain ⟨N, HN⟩ : ∃ N, Hid (newT (fixT no cpu prio round seq) = N) := ⟨_, rfl⟩
  obtain ⟨g, Hg⟩ : ∃ g, Hid (taskB (fixT no cpu prio round seq) = g) := ⟨_, rfl⟩
  refine wp_region_held_drew (S := (fun w' => Has w (w.heap.size + 1) (fnc (fixT no cpu prio round seq)) w')) (by kernel_rfl) ?_ (fun hHeld => ?_)
  · exact H0.go (Keeps.refl _).drew
  refine wpAnyH_take (i := 0) (v := ?_) (by simp only [List.getElem?_toArray, List.getElem?_cons_zero]; rfl) (by kernel_rfl) (by kernel_rfl) (by kernel_rfl) (by exact fun _ _ _ h => h) (Or.inl ⟨by rfl, ?_⟩) (by assumption) ?_
  rotate_left
  · (intro w hSw; (try dsimp only at hSw); go_simp; try (with_reducible rfl))
  try simp only [Act.put, List.setIfInBounds_toArray, List.set_cons_zero, List.set_cons_succ]
  refine wpAnyH_take (i := 1) (v := ?_) (by simp only [List.getElem?_toArray, List.getElem?_cons_succ, List.getElem?_cons_zero]; rfl) (by kernel_rfl) (by kernel_rfl) (by kernel_rfl) (by exact fun _ _ _ h => h) (Or.inl ⟨by rfl, ?_⟩) (by assumption) ?_
  rotate_left
  · (intro w hSw; (try dsimp only at hSw); go_simp; try (with_reducible rfl))
  try simp only [Act.put, List.setIfInBounds_toArray, List.set_cons_zero, List.set_cons_succ]
  refine wpAnyH_take (i := 3) (v := ?_) (by simp only [List.getElem?_toArray, List.getElem?_cons_succ, List.getElem?_cons_zero]; rfl) (by kernel_rfl) (by kernel_rfl) (by kernel_rfl) (by exact fun _ _ _ h => h) (Or.inl ⟨by rfl, ?_⟩) (by assumption) ?_
  rotate_left
  · (intro w hSw; (try dsimp only at hSw); go_simp; try (with_reducible rfl))
  try simp only [Act.put, List.setIfInBounds_toArray, List.set_cons_zero, List.set_cons_succ]
  refine wpAnyH_ready (rs := [2]) (by kernel_rfl) (by simp) ?_
  refine AllReadyH.cons (by simp only [List.getElem?_toArray, List.getElem?_cons_succ, List.getElem?_cons_zero]; rfl) (fun K hK => ?_) AllReadyH.nil
  go_simp
  first
        | (go_at_call 78; refine (readyHead_any _ _ _ _).mono ?_; rintro e w1 ⟨rfl, k1⟩)
        | (go_at_call 71; refine (fixedWhole_any (fixT no cpu prio round seq) _).mono ?_; rintro e w2 ⟨rfl, k2⟩; rw [hT])
        | (go_at_call 77; refine (onlyRight_any (fixT no cpu prio round seq) _).mono ?_; rintro e w3 ⟨rfl, k3⟩; rw [HN.out, Hg.out])
  try go_wp2_with fail
  refine hK.out _ _ ?_ (fun hHeld => ?_)
  · exact hHeld.go (by assumption)
  clear hK K
  try simp only [Act.put, List.setIfInBounds_toArray, List.set_cons_zero, List.set_cons_succ]
  refine wpAnyH_take (i := 4) (v := ?_) (by simp only [List.getElem?_toArray, List.getElem?_cons_succ, List.getElem?_cons_zero]; rfl) (by kernel_rfl) (by kernel_rfl) (by kernel_rfl) (by exact fun _ _ _ h => h) (Or.inl ⟨by rfl, ?_⟩) (by assumption) ?_
  rotate_left
  · (intro w hSw; (try dsimp only at hSw); go_simp; try (with_reducible rfl))
  try simp only [Act.put, List.setIfInBounds_toArray, List.set_cons_zero, List.set_cons_succ]
  refine wpAnyH_ready (rs := [5]) (by kernel_rfl) (by simp) ?_
  refine AllReadyH.cons (by simp only [List.getElem?_toArray, List.getElem?_cons_succ, List.getElem?_cons_zero]; rfl) (fun K hK => ?_) AllReadyH.nil
  go_simp
  first
        | (go_at_call 78; refine (readyHead_any _ _ _ _).mono ?_; rintro e w1 ⟨rfl, k1⟩)
        | (go_at_call 71; refine (fixedWhole_any (fixT no cpu prio round seq) _).mono ?_; rintro e w2 ⟨rfl, k2⟩; rw [hT])
        | (go_at_call 77; refine (onlyRight_any (fixT no cpu prio round seq) _).mono ?_; rintro e w3 ⟨rfl, k3⟩; rw [HN.out, Hg.out])
  try go_wp2_with fail
  refine hK.out _ _ ?_ (fun hHeld => ?_)
  · exact hHeld.go (by assumption)
  clear hK K
  try simp only [Act.put, List.setIfInBounds_toArray, List.set_cons_zero, List.set_cons_succ]
  refine wpAnyH_ready (rs := [6]) (by kernel_rfl) (by simp) ?_
  refine AllReadyH.cons (by simp only [List.getElem?_toArray, List.getElem?_cons_succ, List.getElem?_cons_zero]; rfl) (fun K hK => ?_) AllReadyH.nil
  go_simp
  first
        | (go_at_call 78; refine (readyHead_any _ _ _ _).mono ?_; rintro e w1 ⟨rfl, k1⟩)
        | (go_at_call 71; refine (fixedWhole_any (fixT no cpu prio round seq) _).mono ?_; rintro e w2 ⟨rfl, k2⟩; rw [hT])
        | (go_at_call 77; refine (onlyRight_any (fixT no cpu prio round seq) _).mono ?_; rintro e w3 ⟨rfl, k3⟩; rw [HN.out, Hg.out])
  try go_wp2_with fail
  refine hK.out _ _ ?_ (fun hHeld => ?_)
  · exact hHeld.go (by assumption)
  clear hK K
  try simp only [Act.put, List.setIfInBounds_toArray, List.set_cons_zero, List.set_cons_succ]
  refine wpAnyH_take (i := 7) (v := ?_) (by simp only [List.getElem?_toArray, List.getElem?_cons_succ, List.getElem?_cons_zero]; rfl) (by kernel_rfl) (by kernel_rfl) (by kernel_rfl) (by exact fun _ _ _ h => h) (Or.inl ⟨by rfl, ?_⟩) (by assumption) ?_
  rotate_left
  · (intro w hSw; (try dsimp only at hSw); go_simp; try (with_reducible rfl))
  try simp only [Act.put, List.setIfInBounds_toArray, List.set_cons_zero, List.set_cons_succ]
  refine wpAnyH_take (i := 8) (v := ?_) (by simp only [List.getElem?_toArray, List.getElem?_cons_succ, List.getElem?_cons_zero]; rfl) (by kernel_rfl) (by kernel_rfl) (by kernel_rfl) (by exact fun _ _ _ h => h) (Or.inl ⟨by rfl, ?_⟩) (by assumption) ?_
  rotate_left
  · (intro w hSw; (try dsimp only at hSw); go_simp; try (with_reducible rfl))
  try simp only [Act.put, List.setIfInBounds_toArray, List.set_cons_zero, List.set_cons_succ]
  refine wpAnyH_ready (rs := [9]) (by kernel_rfl) (by simp) ?_
  refine AllReadyH.cons (by simp only [List.getElem?_toArray, List.getElem?_cons_succ, List.getElem?_cons_zero]; rfl) (fun K hK => ?_) AllReadyH.nil
  have HB := R0.keeps ((Keeps.refl _).drew.trans (k1.trans (k2.trans k3))); have HD : Hid (Blk w3 w.heap.size (tc Tsk.zero)) := HB; obtain ⟨_, q1, q2⟩ := HB
  go_simp
  try go_wp2_with fail
  refine hK.out _ _ ?_ (fun hHeld => ?_)
  · exact hHeld.put (r := w.heap.size) (by omega) (by omega) 0 (tc N).toList
  clear hK K
  try simp only [Act.put, List.setIfInBounds_toArray, List.set_cons_zero, List.set_cons_succ]
  refine wpAnyH_take (i := 10) (v := ?_) (by simp only [List.getElem?_toArray, List.getElem?_cons_succ, List.getElem?_cons_zero]; rfl) (by kernel_rfl) (by kernel_rfl) (by kernel_rfl) (by exact fun _ _ _ h => h) (Or.inl ⟨by rfl, ?_⟩) (by assumption) ?_
  rotate_left
  · (intro w hSw; (try dsimp only at hSw); go_simp; try (with_reducible rfl))
  try simp only [Act.put, List.setIfInBounds_toArray, List.set_cons_zero, List.set_cons_succ]
  refine wpAnyH_done (by kernel_rfl) ?_ _
  go_wp2
  have D := HD.out.putC (tc N).toList rfl
  have K := hHeld.keeps
  change bodyPost _ _ _ _ _ (putC w3 w.heap.size 0 (tc N).toList)
  change Keeps w (putC w3 w.heap.size 0 (tc N).toList) at K
  generalize putC w3 w.heap.size 0 (tc N).toList = X at D K ⊢
  exact bodyPost_ret (v := .tuple #[tk N, .bool g]) (by simp [results, Try.results27, go_sem, D.cells]) rfl ⟨by first | rw [HN.out, Hg.out] | rw [Hn.out, Hb.out, HN.out, Hg.out], K⟩

set_option maxRecDepth 100000 in
set_option maxHeartbeats 2000000 in
theorem implNewFair_says : SaysNewFair := by
  intro no cpu nice v w
  go_enter Try.func29, Try.ntmps29
  go_wp2_with fail
  have hT : (fairT no cpu nice v).asFair = fairT no cpu nice v := rfl
  have H0 : Has w (w.heap.size + 1) (rnc (fairT no cpu nice v)) (((w.alloc (.cells (tc Tsk.zero) 25)).alloc (.cells (rnc (fairT no cpu nice v)) 85))) := ⟨((Keeps.refl _).alloc _).alloc _, by have := Blk.new (w.alloc (.cells (tc Tsk.zero) 25)) (rnc (fairT no cpu nice v)) 85; simpa only [World.size_alloc] using this⟩
  have R0 : Blk (((w.alloc (.cells (tc Tsk.zero) 25)).alloc (.cells (rnc (fairT no cpu nice v)) 85))) w.heap.size (tc Tsk.zero) := (Blk.new w _ _).alloc _
  have r1 : ∀ w', Has w (w.heap.size + 1) (rnc (fairT no cpu nice v)) w' → ∀ k, w'.cell? ⟨w.heap.size + 1, k, none⟩ = (rnc (fairT no cpu nice v))[k]? := fun w' h => h.box.cells
  obtain ⟨N, HN⟩ : ∃ N, Hid (newT (fairT no cpu nice v) = N) := ⟨_, rfl⟩
  obtain ⟨g, Hg⟩ : ∃ g, Hid (taskB (fairT no cpu nice v) = g) := ⟨_, rfl⟩
  refine wp_region_held_drew (S := (fun w' => Has w (w.heap.size + 1) (rnc (fairT no cpu nice v)) w')) (by kernel_rfl) ?_ (fun hHeld => ?_)
  · exact H0.go (Keeps.refl _).drew
  refine wpAnyH_take (i := 0) (v := ?_) (by simp only [List.getElem?_toArray, List.getElem?_cons_zero]; rfl) (by kernel_rfl) (by kernel_rfl) (by kernel_rfl) (by exact fun _ _ _ h => h) (Or.inl ⟨by rfl, ?_⟩) (by assumption) ?_
  rotate_left
  · (intro w hSw; (try dsimp only at hSw); go_simp; try (with_reducible rfl))
  try simp only [Act.put, List.setIfInBounds_toArray, List.set_cons_zero, List.set_cons_succ]
  refine wpAnyH_take (i := 1) (v := ?_) (by simp only [List.getElem?_toArray, List.getElem?_cons_succ, List.getElem?_cons_zero]; rfl) (by kernel_rfl) (by kernel_rfl) (by kernel_rfl) (by exact fun _ _ _ h => h) (Or.inl ⟨by rfl, ?_⟩) (by assumption) ?_
  rotate_left
  · (intro w hSw; (try dsimp only at hSw); go_simp; try (with_reducible rfl))
  try simp only [Act.put, List.setIfInBounds_toArray, List.set_cons_zero, List.set_cons_succ]
  refine wpAnyH_take (i := 3) (v := ?_) (by simp only [List.getElem?_toArray, List.getElem?_cons_succ, List.getElem?_cons_zero]; rfl) (by kernel_rfl) (by kernel_rfl) (by kernel_rfl) (by exact fun _ _ _ h => h) (Or.inl ⟨by rfl, ?_⟩) (by assumption) ?_
  rotate_left
  · (intro w hSw; (try dsimp only at hSw); go_simp; try (with_reducible rfl))
  try simp only [Act.put, List.setIfInBounds_toArray, List.set_cons_zero, List.set_cons_succ]
  refine wpAnyH_ready (rs := [2]) (by kernel_rfl) (by simp) ?_
  refine AllReadyH.cons (by simp only [List.getElem?_toArray, List.getElem?_cons_succ, List.getElem?_cons_zero]; rfl) (fun K hK => ?_) AllReadyH.nil
  go_simp
  first
        | (go_at_call 78; refine (readyHead_any _ _ _ _).mono ?_; rintro e w1 ⟨rfl, k1⟩)
        | (go_at_call 74; refine (fairWhole_any (fairT no cpu nice v) _).mono ?_; rintro e w2 ⟨rfl, k2⟩; rw [hT])
        | (go_at_call 77; refine (onlyRight_any (fairT no cpu nice v) _).mono ?_; rintro e w3 ⟨rfl, k3⟩; rw [HN.out, Hg.out])
  try go_wp2_with fail
  refine hK.out _ _ ?_ (fun hHeld => ?_)
  · exact hHeld.go (by assumption)
  clear hK K
  try simp only [Act.put, List.setIfInBounds_toArray, List.set_cons_zero, List.set_cons_succ]
  refine wpAnyH_take (i := 4) (v := ?_) (by simp only [List.getElem?_toArray, List.getElem?_cons_succ, List.getElem?_cons_zero]; rfl) (by kernel_rfl) (by kernel_rfl) (by kernel_rfl) (by exact fun _ _ _ h => h) (Or.inl ⟨by rfl, ?_⟩) (by assumption) ?_
  rotate_left
  · (intro w hSw; (try dsimp only at hSw); go_simp; try (with_reducible rfl))
  try simp only [Act.put, List.setIfInBounds_toArray, List.set_cons_zero, List.set_cons_succ]
  refine wpAnyH_ready (rs := [5]) (by kernel_rfl) (by simp) ?_
  refine AllReadyH.cons (by simp only [List.getElem?_toArray, List.getElem?_cons_succ, List.getElem?_cons_zero]; rfl) (fun K hK => ?_) AllReadyH.nil
  go_simp
  first
        | (go_at_call 78; refine (readyHead_any _ _ _ _).mono ?_; rintro e w1 ⟨rfl, k1⟩)
        | (go_at_call 74; refine (fairWhole_any (fairT no cpu nice v) _).mono ?_; rintro e w2 ⟨rfl, k2⟩; rw [hT])
        | (go_at_call 77; refine (onlyRight_any (fairT no cpu nice v) _).mono ?_; rintro e w3 ⟨rfl, k3⟩; rw [HN.out, Hg.out])
  try go_wp2_with fail
  refine hK.out _ _ ?_ (fun hHeld => ?_)
  · exact hHeld.go (by assumption)
  clear hK K
  try simp only [Act.put, List.setIfInBounds_toArray, List.set_cons_zero, List.set_cons_succ]
  refine wpAnyH_ready (rs := [6]) (by kernel_rfl) (by simp) ?_
  refine AllReadyH.cons (by simp only [List.getElem?_toArray, List.getElem?_cons_succ, List.getElem?_cons_zero]; rfl) (fun K hK => ?_) AllReadyH.nil
  go_simp
  first
        | (go_at_call 78; refine (readyHead_any _ _ _ _).mono ?_; rintro e w1 ⟨rfl, k1⟩)
        | (go_at_call 74; refine (fairWhole_any (fairT no cpu nice v) _).mono ?_; rintro e w2 ⟨rfl, k2⟩; rw [hT])
        | (go_at_call 77; refine (onlyRight_any (fairT no cpu nice v) _).mono ?_; rintro e w3 ⟨rfl, k3⟩; rw [HN.out, Hg.out])
  try go_wp2_with fail
  refine hK.out _ _ ?_ (fun hHeld => ?_)
  · exact hHeld.go (by assumption)
  clear hK K
  try simp only [Act.put, List.setIfInBounds_toArray, List.set_cons_zero, List.set_cons_succ]
  refine wpAnyH_take (i := 7) (v := ?_) (by simp only [List.getElem?_toArray, List.getElem?_cons_succ, List.getElem?_cons_zero]; rfl) (by kernel_rfl) (by kernel_rfl) (by kernel_rfl) (by exact fun _ _ _ h => h) (Or.inl ⟨by rfl, ?_⟩) (by assumption) ?_
  rotate_left
  · (intro w hSw; (try dsimp only at hSw); go_simp; try (with_reducible rfl))
  try simp only [Act.put, List.setIfInBounds_toArray, List.set_cons_zero, List.set_cons_succ]
  refine wpAnyH_take (i := 8) (v := ?_) (by simp only [List.getElem?_toArray, List.getElem?_cons_succ, List.getElem?_cons_zero]; rfl) (by kernel_rfl) (by kernel_rfl) (by kernel_rfl) (by exact fun _ _ _ h => h) (Or.inl ⟨by rfl, ?_⟩) (by assumption) ?_
  rotate_left
  · (intro w hSw; (try dsimp only at hSw); go_simp; try (with_reducible rfl))
  try simp only [Act.put, List.setIfInBounds_toArray, List.set_cons_zero, List.set_cons_succ]
  refine wpAnyH_ready (rs := [9]) (by kernel_rfl) (by simp) ?_
  refine AllReadyH.cons (by simp only [List.getElem?_toArray, List.getElem?_cons_succ, List.getElem?_cons_zero]; rfl) (fun K hK => ?_) AllReadyH.nil
  have HB := R0.keeps ((Keeps.refl _).drew.trans (k1.trans (k2.trans k3))); have HD : Hid (Blk w3 w.heap.size (tc Tsk.zero)) := HB; obtain ⟨_, q1, q2⟩ := HB
  go_simp
  try go_wp2_with fail
  refine hK.out _ _ ?_ (fun hHeld => ?_)
  · exact hHeld.put (r := w.heap.size) (by omega) (by omega) 0 (tc N).toList
  clear hK K
  try simp only [Act.put, List.setIfInBounds_toArray, List.set_cons_zero, List.set_cons_succ]
  refine wpAnyH_take (i := 10) (v := ?_) (by simp only [List.getElem?_toArray, List.getElem?_cons_succ, List.getElem?_cons_zero]; rfl) (by kernel_rfl) (by kernel_rfl) (by kernel_rfl) (by exact fun _ _ _ h => h) (Or.inl ⟨by rfl, ?_⟩) (by assumption) ?_
  rotate_left
  · (intro w hSw; (try dsimp only at hSw); go_simp; try (with_reducible rfl))
  try simp only [Act.put, List.setIfInBounds_toArray, List.set_cons_zero, List.set_cons_succ]
  refine wpAnyH_done (by kernel_rfl) ?_ _
  go_wp2
  have D := HD.out.putC (tc N).toList rfl
  have K := hHeld.keeps
  change bodyPost _ _ _ _ _ (putC w3 w.heap.size 0 (tc N).toList)
  change Keeps w (putC w3 w.heap.size 0 (tc N).toList) at K
  generalize putC w3 w.heap.size 0 (tc N).toList = X at D K ⊢
  exact bodyPost_ret (v := .tuple #[tk N, .bool g]) (by simp [results, Try.results29, go_sem, D.cells]) rfl ⟨by first | rw [HN.out, Hg.out] | rw [Hn.out, Hb.out, HN.out, Hg.out], K⟩

end Go.Proofs.Ytmdpngahofeliaa
