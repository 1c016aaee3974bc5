/-
  A list of tasks: the program's TasksOk.
  A task is put among others: the program's TaskPut.
-/
import Derived.Test.YtioffjgnfkjmkaaGItask2
import Derived.Test.YtioffjgnfkjmkaaGTask3
namespace Go.Proofs.Ytioffjgnfkjmkaa
open Go.RowKit
attribute [local go_sem] Keeps.refl Keeps.alloc Keeps.drew Keeps.drewN

theorem tasksB_long {ts : List Tsk} (h : 12 < ts.length) : tasksB ts = false := by
  have : decide (ts.length ≤ 12) = false := by simp; omega
  simp [tasksB, this]

set_option maxRecDepth 100000 in
set_option maxHeartbeats 4000000 in
theorem implTasksOk_says : SaysTasksOk := by
  intro a cap ts w hl hs
  unfold maxLen at hl
  generalize hn : ts.length = n at hl
  have Hn : Hid (ts.length = n) := hn
  clear hn
  by_cases h12 : n ≤ 12
  case neg =>
    have hd : decide (12 < (n : Int)) = true := by simp; omega
    have Hr : Hid (tasksB ts = false) := tasksB_long (by rw [Hn.out]; omega)
    go_enter Try.func21, Try.ntmps21
    go_wp2
    go_ret
    exact ⟨by rw [Hr.out]; rfl, Keeps.refl _⟩
  have hd : decide (12 < (n : Int)) = false := by simp; omega
  go_enter Try.func21, Try.ntmps21
  go_wp2
  go_loopw [10] (fun i wr => ∃ k : Nat, k ≤ n ∧ i = .int .i64 k ∧ Keeps w wr ∧ Hid (∀ j t, j < k → ts[j]? = some t → taskB t = true) ∧ Hid (∀ j s t, j + 1 < k → ts[j]? = some s → ts[j + 1]? = some t → s.no < t.no)) (fun i _ => n - (intOf i).toNat)
  case atStart => exact ⟨0, Nat.zero_le _, rfl, Keeps.refl _, fun j t hj => by omega, fun j s t hj => by omega⟩
  case round =>
    obtain ⟨k, hk, rfl, hK, H1, H2⟩ := hrel
    by_cases hlt : k < n
    · obtain ⟨t, ht⟩ := some_at (xs := ts) (k := k) (by rw [Hn.out]; exact hlt)
      have hlt' : (k : Int) < (n : Int) := by omega
      have Ht : Hid (ts[k]? = some t) := ht
      have kW : Keeps w (wr.alloc (.cells (tc t) 30)) := hK.alloc _
      have q1 : ∀ w', Keeps (wr.alloc (.cells (tc t) 30)) w' → ∀ k, w'.cell? ⟨wr.heap.size, k, none⟩ = (tc t)[k]? := fun w' h => ((Blk.new wr (tc t) 30).keeps h).cells
      have K0 := Keeps.refl (wr.alloc (.cells (tc t) 30))
      cases hb : taskB t
      · obtain ⟨b, off, rfl, r0, r1⟩ := hs.at ht (by omega)
        have Hr : Hid (tasksB ts = false) := tasksB_bad ht hb
        clear hs ht
        go_wp2_with fail
        clear r0 r1 hK
        generalize wr.alloc (.cells (tc t) 30) = W at *
        generalize wr.heap.size = s at *
        refine wp_region_held_drew (S := (fun w' => Keeps W w')) (by kernel_rfl) ?_ (fun hHeld => ?_)
        · exact K0.drew
        refine takeH 0 (v := ?_) (by simp only [opsAt]; rfl) (by kernel_rfl) (by exact fun _ _ _ h => h) (by rfl) (by assumption) ?_ ?_
        rotate_left
        · (intro w _; go_simp; try (with_reducible rfl))
        try simp only [putAtH]
        refine callH 1 (by kernel_rfl) (by simp only [opsAt]; rfl) (fun K hK => ?_)
        go_simp
        first
          | (go_at_call 19; refine (implTaskOk_says t _).mono ?_; rintro e w' ⟨rfl, hkk⟩; rw [hb])
        try go_wp2_with fail
        refine hK.out _ _ ?_ (fun hHeld => ?_)
        · exact Keeps.trans (by assumption) (by assumption)
        clear hK K
        try simp only [putAtH]
        refine takeH 2 (v := ?_) (by simp only [opsAt]; rfl) (by kernel_rfl) (by exact fun _ _ _ h => h) (by rfl) (by assumption) ?_ ?_
        rotate_left
        · (intro w _; go_simp; try (with_reducible rfl))
        try simp only [putAtH]
        refine takeH 3 (v := ?_) (by simp only [opsAt]; rfl) (by kernel_rfl) (by exact fun _ _ _ h => h) (by rfl) (by assumption) ?_ ?_
        rotate_left
        · (intro w _; go_simp; try (with_reducible rfl))
        try simp only [putAtH]
        refine skipH 4 (by simp only [opsAt]; rfl) (by kernel_rfl) (by exact fun _ _ _ h => h) (by rfl) (by assumption) ?_
        try simp only [putAtH]
        refine skipH 5 (by simp only [opsAt]; rfl) (by kernel_rfl) (by exact fun _ _ _ h => h) (by rfl) (by assumption) ?_
        try simp only [putAtH]
        refine skipH 6 (by simp only [opsAt]; rfl) (by kernel_rfl) (by exact fun _ _ _ h => h) (by rfl) (by assumption) ?_
        try simp only [putAtH]
        refine skipH 7 (by simp only [opsAt]; rfl) (by kernel_rfl) (by exact fun _ _ _ h => h) (by rfl) (by assumption) ?_
        try simp only [putAtH]
        refine skipH 8 (by simp only [opsAt]; rfl) (by kernel_rfl) (by exact fun _ _ _ h => h) (by rfl) (by assumption) ?_
        try simp only [putAtH]
        refine skipH 9 (by simp only [opsAt]; rfl) (by kernel_rfl) (by exact fun _ _ _ h => h) (by rfl) (by assumption) ?_
        try simp only [putAtH]
        refine skipH 10 (by simp only [opsAt]; rfl) (by kernel_rfl) (by exact fun _ _ _ h => h) (by rfl) (by assumption) ?_
        try simp only [putAtH]
        refine skipH 11 (by simp only [opsAt]; rfl) (by kernel_rfl) (by exact fun _ _ _ h => h) (by rfl) (by assumption) ?_
        try simp only [putAtH]
        refine skipH 12 (by simp only [opsAt]; rfl) (by kernel_rfl) (by exact fun _ _ _ h => h) (by rfl) (by assumption) ?_
        try simp only [putAtH]
        refine skipH 13 (by simp only [opsAt]; rfl) (by kernel_rfl) (by exact fun _ _ _ h => h) (by rfl) (by assumption) ?_
        try simp only [putAtH]
        refine skipH 14 (by simp only [opsAt]; rfl) (by kernel_rfl) (by exact fun _ _ _ h => h) (by rfl) (by assumption) ?_
        try simp only [putAtH]
        refine skipH 15 (by simp only [opsAt]; rfl) (by kernel_rfl) (by exact fun _ _ _ h => h) (by rfl) (by assumption) ?_
        try simp only [putAtH]
        refine skipH 16 (by simp only [opsAt]; rfl) (by kernel_rfl) (by exact fun _ _ _ h => h) (by rfl) (by assumption) ?_
        try simp only [putAtH]
        refine takeH 17 (v := ?_) (by simp only [opsAt]; rfl) (by kernel_rfl) (by exact fun _ _ _ h => h) (by rfl) (by assumption) ?_ ?_
        rotate_left
        · (intro w _; go_simp; try (with_reducible rfl))
        try simp only [putAtH]
        refine wpAnyH_done (by kernel_rfl) ?_ _
        go_wp2
        go_ret
        exact ⟨by rw [Hr.out]; rfl, kW.trans (by assumption)⟩
      · rcases Nat.eq_zero_or_pos k with h0 | h0
        · obtain ⟨b, off, rfl, r0, r1⟩ := hs.at ht (by omega)
          have hz : decide (0 < k) = false := by simp; omega
          have H0 : Hid (k = 0) := h0
          clear hs ht h0
          go_wp2_with fail
          clear r0 r1 hK
          generalize wr.alloc (.cells (tc t) 30) = W at *
          generalize wr.heap.size = s at *
          refine wp_region_held_drew (S := (fun w' => Keeps W w')) (by kernel_rfl) ?_ (fun hHeld => ?_)
          · exact K0.drew
          refine takeH 0 (v := ?_) (by simp only [opsAt]; rfl) (by kernel_rfl) (by exact fun _ _ _ h => h) (by rfl) (by assumption) ?_ ?_
          rotate_left
          · (intro w _; go_simp; try (with_reducible rfl))
          try simp only [putAtH]
          refine callH 1 (by kernel_rfl) (by simp only [opsAt]; rfl) (fun K hK => ?_)
          go_simp
          first
            | (go_at_call 19; refine (implTaskOk_says t _).mono ?_; rintro e w' ⟨rfl, hkk⟩; rw [hb])
          try go_wp2_with fail
          refine hK.out _ _ ?_ (fun hHeld => ?_)
          · exact Keeps.trans (by assumption) (by assumption)
          clear hK K
          try simp only [putAtH]
          refine takeH 2 (v := ?_) (by simp only [opsAt]; rfl) (by kernel_rfl) (by exact fun _ _ _ h => h) (by rfl) (by assumption) ?_ ?_
          rotate_left
          · (intro w _; go_simp; try (with_reducible rfl))
          try simp only [putAtH]
          refine takeH 3 (v := ?_) (by simp only [opsAt]; rfl) (by kernel_rfl) (by exact fun _ _ _ h => h) (by rfl) (by assumption) ?_ ?_
          rotate_left
          · (intro w _; go_simp; try (with_reducible rfl))
          try simp only [putAtH]
          refine takeH 4 (v := ?_) (by simp only [opsAt]; rfl) (by kernel_rfl) (by exact fun _ _ _ h => h) (by rfl) (by assumption) ?_ ?_
          rotate_left
          · (intro w _; go_simp; try (with_reducible rfl))
          try simp only [putAtH]
          refine takeH 5 (v := ?_) (by simp only [opsAt]; rfl) (by kernel_rfl) (by exact fun _ _ _ h => h) (by rfl) (by assumption) ?_ ?_
          rotate_left
          · (intro w _; go_simp; try (with_reducible rfl))
          try simp only [putAtH]
          refine takeH 6 (v := ?_) (by simp only [opsAt]; rfl) (by kernel_rfl) (by exact fun _ _ _ h => h) (by rfl) (by assumption) ?_ ?_
          rotate_left
          · (intro w _; go_simp; try (with_reducible rfl))
          try simp only [putAtH]
          refine skipH 7 (by simp only [opsAt]; rfl) (by kernel_rfl) (by exact fun _ _ _ h => h) (by rfl) (by assumption) ?_
          try simp only [putAtH]
          refine skipH 8 (by simp only [opsAt]; rfl) (by kernel_rfl) (by exact fun _ _ _ h => h) (by rfl) (by assumption) ?_
          try simp only [putAtH]
          refine skipH 9 (by simp only [opsAt]; rfl) (by kernel_rfl) (by exact fun _ _ _ h => h) (by rfl) (by assumption) ?_
          try simp only [putAtH]
          refine skipH 10 (by simp only [opsAt]; rfl) (by kernel_rfl) (by exact fun _ _ _ h => h) (by rfl) (by assumption) ?_
          try simp only [putAtH]
          refine skipH 11 (by simp only [opsAt]; rfl) (by kernel_rfl) (by exact fun _ _ _ h => h) (by rfl) (by assumption) ?_
          try simp only [putAtH]
          refine skipH 12 (by simp only [opsAt]; rfl) (by kernel_rfl) (by exact fun _ _ _ h => h) (by rfl) (by assumption) ?_
          try simp only [putAtH]
          refine skipH 13 (by simp only [opsAt]; rfl) (by kernel_rfl) (by exact fun _ _ _ h => h) (by rfl) (by assumption) ?_
          try simp only [putAtH]
          refine skipH 14 (by simp only [opsAt]; rfl) (by kernel_rfl) (by exact fun _ _ _ h => h) (by rfl) (by assumption) ?_
          try simp only [putAtH]
          refine skipH 15 (by simp only [opsAt]; rfl) (by kernel_rfl) (by exact fun _ _ _ h => h) (by rfl) (by assumption) ?_
          try simp only [putAtH]
          refine takeH 16 (v := ?_) (by simp only [opsAt]; rfl) (by kernel_rfl) (by exact fun _ _ _ h => h) (by rfl) (by assumption) ?_ ?_
          rotate_left
          · (intro w _; go_simp; try (with_reducible rfl))
          try simp only [putAtH]
          refine takeH 17 (v := ?_) (by simp only [opsAt]; rfl) (by kernel_rfl) (by exact fun _ _ _ h => h) (by rfl) (by assumption) ?_ ?_
          rotate_left
          · (intro w _; go_simp; try (with_reducible rfl))
          try simp only [putAtH]
          refine wpAnyH_done (by kernel_rfl) ?_ _
          go_wp2
          exact ⟨⟨k + 1, by omega, by go_num, kW.trans (by assumption), fun j s hj hjs => by
            obtain rfl : j = k := by have := H0.out; omega
            rw [Ht.out] at hjs; cases hjs; exact hb, fun j s u hj => by have := H0.out; omega⟩, by simp only [intOf]; omega⟩
        · obtain ⟨m, hm⟩ : ∃ m, k = m + 1 := ⟨k - 1, by omega⟩
          obtain ⟨s, hs1⟩ := some_at (xs := ts) (k := m) (by rw [Hn.out]; omega)
          obtain ⟨b, off, rfl, r0, r1⟩ := hs.at ht (by omega)
          obtain ⟨b', off', e', p0, p1⟩ := hs.at hs1 (by omega)
          simp only [Option.some.injEq, Addr.mk.injEq] at e'
          obtain ⟨rfl, rfl, -⟩ := e'
          have Hs : Hid (ts[m]? = some s) := hs1
          have hk1 : (m : Int) < (n : Int) := by omega
          have hp : 0 < k := h0
          have hm1 : (k : Int) - 1 = (m : Int) := by omega
          have hw : IntKind.i64.wrap (m : Int) = (m : Int) := Go.IntWalk.i64_in _ (by omega)
          have Hm : Hid (k = m + 1) := hm
          have p2 : ∀ w', Keeps (wr.alloc (.cells (tc t) 30)) w' → w'.cell? ⟨b, off + m * 14, none⟩ = (tc s)[0]? := fun w' h => p0 w' (kW.trans h)
          clear hs ht hs1 p0 p1 hm h0
          cases hd : decide (t.no ≤ s.no)
          · go_wp2_with fail
            clear r0 r1 hK
            generalize wr.alloc (.cells (tc t) 30) = W at *
            generalize wr.heap.size = g at *
            refine wp_region_held_drew (S := (fun w' => Keeps W w')) (by kernel_rfl) ?_ (fun hHeld => ?_)
            · exact K0.drew
            refine takeH 0 (v := ?_) (by simp only [opsAt]; rfl) (by kernel_rfl) (by exact fun _ _ _ h => h) (by rfl) (by assumption) ?_ ?_
            rotate_left
            · (intro w _; go_simp; try (with_reducible rfl))
            try simp only [putAtH]
            refine callH 1 (by kernel_rfl) (by simp only [opsAt]; rfl) (fun K hK => ?_)
            go_simp
            first
              | (go_at_call 19; refine (implTaskOk_says t _).mono ?_; rintro e w' ⟨rfl, hkk⟩; rw [hb])
            try go_wp2_with fail
            refine hK.out _ _ ?_ (fun hHeld => ?_)
            · exact Keeps.trans (by assumption) (by assumption)
            clear hK K
            try simp only [putAtH]
            refine takeH 2 (v := ?_) (by simp only [opsAt]; rfl) (by kernel_rfl) (by exact fun _ _ _ h => h) (by rfl) (by assumption) ?_ ?_
            rotate_left
            · (intro w _; go_simp; try (with_reducible rfl))
            try simp only [putAtH]
            refine takeH 3 (v := ?_) (by simp only [opsAt]; rfl) (by kernel_rfl) (by exact fun _ _ _ h => h) (by rfl) (by assumption) ?_ ?_
            rotate_left
            · (intro w _; go_simp; try (with_reducible rfl))
            try simp only [putAtH]
            refine takeH 4 (v := ?_) (by simp only [opsAt]; rfl) (by kernel_rfl) (by exact fun _ _ _ h => h) (by rfl) (by assumption) ?_ ?_
            rotate_left
            · (intro w _; go_simp; try (with_reducible rfl))
            try simp only [putAtH]
            refine takeH 5 (v := ?_) (by simp only [opsAt]; rfl) (by kernel_rfl) (by exact fun _ _ _ h => h) (by rfl) (by assumption) ?_ ?_
            rotate_left
            · (intro w _; go_simp; try (with_reducible rfl))
            try simp only [putAtH]
            refine takeH 6 (v := ?_) (by simp only [opsAt]; rfl) (by kernel_rfl) (by exact fun _ _ _ h => h) (by rfl) (by assumption) ?_ ?_
            rotate_left
            · (intro w _; go_simp; try (with_reducible rfl))
            try simp only [putAtH]
            refine takeH 7 (v := ?_) (by simp only [opsAt]; rfl) (by kernel_rfl) (by exact fun _ _ _ h => h) (by rfl) (by assumption) ?_ ?_
            rotate_left
            · (intro w _; go_simp; try (with_reducible rfl))
            try simp only [putAtH]
            refine takeH 8 (v := ?_) (by simp only [opsAt]; rfl) (by kernel_rfl) (by exact fun _ _ _ h => h) (by rfl) (by assumption) ?_ ?_
            rotate_left
            · (intro w _; go_simp; try (with_reducible rfl))
            try simp only [putAtH]
            refine takeH 9 (v := ?_) (by simp only [opsAt]; rfl) (by kernel_rfl) (by exact fun _ _ _ h => h) (by rfl) (by assumption) ?_ ?_
            rotate_left
            · (intro w _; go_simp; try (with_reducible rfl))
            try simp only [putAtH]
            refine takeH 10 (v := ?_) (by simp only [opsAt]; rfl) (by kernel_rfl) (by exact fun _ _ _ h => h) (by rfl) (by assumption) ?_ ?_
            rotate_left
            · (intro w _; go_simp; try (with_reducible rfl))
            try simp only [putAtH]
            refine takeH 11 (v := ?_) (by simp only [opsAt]; rfl) (by kernel_rfl) (by exact fun _ _ _ h => h) (by rfl) (by assumption) ?_ ?_
            rotate_left
            · (intro w _; go_simp; try (with_reducible rfl))
            try simp only [putAtH]
            refine takeH 12 (v := ?_) (by simp only [opsAt]; rfl) (by kernel_rfl) (by exact fun _ _ _ h => h) (by rfl) (by assumption) ?_ ?_
            rotate_left
            · (intro w _; go_simp; try (with_reducible rfl))
            try simp only [putAtH]
            refine takeH 13 (v := ?_) (by simp only [opsAt]; rfl) (by kernel_rfl) (by exact fun _ _ _ h => h) (by rfl) (by assumption) ?_ ?_
            rotate_left
            · (intro w _; go_simp; try (with_reducible rfl))
            try simp only [putAtH]
            refine takeH 14 (v := ?_) (by simp only [opsAt]; rfl) (by kernel_rfl) (by exact fun _ _ _ h => h) (by rfl) (by assumption) ?_ ?_
            rotate_left
            · (intro w _; go_simp; try (with_reducible rfl))
            try simp only [putAtH]
            refine takeH 15 (v := ?_) (by simp only [opsAt]; rfl) (by kernel_rfl) (by exact fun _ _ _ h => h) (by rfl) (by assumption) ?_ ?_
            rotate_left
            · (intro w _; go_simp; try (with_reducible rfl))
            try simp only [putAtH]
            refine takeH 16 (v := ?_) (by simp only [opsAt]; rfl) (by kernel_rfl) (by exact fun _ _ _ h => h) (by rfl) (by assumption) ?_ ?_
            rotate_left
            · (intro w _; go_simp; try (with_reducible rfl))
            try simp only [putAtH]
            refine takeH 17 (v := ?_) (by simp only [opsAt]; rfl) (by kernel_rfl) (by exact fun _ _ _ h => h) (by rfl) (by assumption) ?_ ?_
            rotate_left
            · (intro w _; go_simp; try (with_reducible rfl))
            try simp only [putAtH]
            refine wpAnyH_done (by kernel_rfl) ?_ _
            go_wp2
            exact ⟨⟨k + 1, by omega, by go_num, kW.trans (by assumption), fun j x hj hjx => by
              by_cases e : j = k
              · subst e; rw [Ht.out] at hjx; cases hjx; exact hb
              · exact H1.out j x (by omega) hjx, fun j x y hj hx hy => by
              have hk := Hm.out
              by_cases e : j = m
              · subst e; rw [← hk] at hy; rw [Hs.out] at hx; rw [Ht.out] at hy; cases hx; cases hy
                have := of_decide_eq_false hd; omega
              · exact H2.out j x y (by omega) hx hy⟩, by simp only [intOf]; omega⟩
          · have Hr : Hid (tasksB ts = false) := tasksB_down Hs.out (by rw [← Hm.out]; exact Ht.out) (of_decide_eq_true hd)
            go_wp2_with fail
            clear r0 r1 hK
            generalize wr.alloc (.cells (tc t) 30) = W at *
            generalize wr.heap.size = g at *
            refine wp_region_held_drew (S := (fun w' => Keeps W w')) (by kernel_rfl) ?_ (fun hHeld => ?_)
            · exact K0.drew
            refine takeH 0 (v := ?_) (by simp only [opsAt]; rfl) (by kernel_rfl) (by exact fun _ _ _ h => h) (by rfl) (by assumption) ?_ ?_
            rotate_left
            · (intro w _; go_simp; try (with_reducible rfl))
            try simp only [putAtH]
            refine callH 1 (by kernel_rfl) (by simp only [opsAt]; rfl) (fun K hK => ?_)
            go_simp
            first
              | (go_at_call 19; refine (implTaskOk_says t _).mono ?_; rintro e w' ⟨rfl, hkk⟩; rw [hb])
            try go_wp2_with fail
            refine hK.out _ _ ?_ (fun hHeld => ?_)
            · exact Keeps.trans (by assumption) (by assumption)
            clear hK K
            try simp only [putAtH]
            refine takeH 2 (v := ?_) (by simp only [opsAt]; rfl) (by kernel_rfl) (by exact fun _ _ _ h => h) (by rfl) (by assumption) ?_ ?_
            rotate_left
            · (intro w _; go_simp; try (with_reducible rfl))
            try simp only [putAtH]
            refine takeH 3 (v := ?_) (by simp only [opsAt]; rfl) (by kernel_rfl) (by exact fun _ _ _ h => h) (by rfl) (by assumption) ?_ ?_
            rotate_left
            · (intro w _; go_simp; try (with_reducible rfl))
            try simp only [putAtH]
            refine takeH 4 (v := ?_) (by simp only [opsAt]; rfl) (by kernel_rfl) (by exact fun _ _ _ h => h) (by rfl) (by assumption) ?_ ?_
            rotate_left
            · (intro w _; go_simp; try (with_reducible rfl))
            try simp only [putAtH]
            refine takeH 5 (v := ?_) (by simp only [opsAt]; rfl) (by kernel_rfl) (by exact fun _ _ _ h => h) (by rfl) (by assumption) ?_ ?_
            rotate_left
            · (intro w _; go_simp; try (with_reducible rfl))
            try simp only [putAtH]
            refine takeH 6 (v := ?_) (by simp only [opsAt]; rfl) (by kernel_rfl) (by exact fun _ _ _ h => h) (by rfl) (by assumption) ?_ ?_
            rotate_left
            · (intro w _; go_simp; try (with_reducible rfl))
            try simp only [putAtH]
            refine takeH 7 (v := ?_) (by simp only [opsAt]; rfl) (by kernel_rfl) (by exact fun _ _ _ h => h) (by rfl) (by assumption) ?_ ?_
            rotate_left
            · (intro w _; go_simp; try (with_reducible rfl))
            try simp only [putAtH]
            refine takeH 8 (v := ?_) (by simp only [opsAt]; rfl) (by kernel_rfl) (by exact fun _ _ _ h => h) (by rfl) (by assumption) ?_ ?_
            rotate_left
            · (intro w _; go_simp; try (with_reducible rfl))
            try simp only [putAtH]
            refine takeH 9 (v := ?_) (by simp only [opsAt]; rfl) (by kernel_rfl) (by exact fun _ _ _ h => h) (by rfl) (by assumption) ?_ ?_
            rotate_left
            · (intro w _; go_simp; try (with_reducible rfl))
            try simp only [putAtH]
            refine takeH 10 (v := ?_) (by simp only [opsAt]; rfl) (by kernel_rfl) (by exact fun _ _ _ h => h) (by rfl) (by assumption) ?_ ?_
            rotate_left
            · (intro w _; go_simp; try (with_reducible rfl))
            try simp only [putAtH]
            refine takeH 11 (v := ?_) (by simp only [opsAt]; rfl) (by kernel_rfl) (by exact fun _ _ _ h => h) (by rfl) (by assumption) ?_ ?_
            rotate_left
            · (intro w _; go_simp; try (with_reducible rfl))
            try simp only [putAtH]
            refine takeH 12 (v := ?_) (by simp only [opsAt]; rfl) (by kernel_rfl) (by exact fun _ _ _ h => h) (by rfl) (by assumption) ?_ ?_
            rotate_left
            · (intro w _; go_simp; try (with_reducible rfl))
            try simp only [putAtH]
            refine takeH 13 (v := ?_) (by simp only [opsAt]; rfl) (by kernel_rfl) (by exact fun _ _ _ h => h) (by rfl) (by assumption) ?_ ?_
            rotate_left
            · (intro w _; go_simp; try (with_reducible rfl))
            try simp only [putAtH]
            refine takeH 14 (v := ?_) (by simp only [opsAt]; rfl) (by kernel_rfl) (by exact fun _ _ _ h => h) (by rfl) (by assumption) ?_ ?_
            rotate_left
            · (intro w _; go_simp; try (with_reducible rfl))
            try simp only [putAtH]
            refine takeH 15 (v := ?_) (by simp only [opsAt]; rfl) (by kernel_rfl) (by exact fun _ _ _ h => h) (by rfl) (by assumption) ?_ ?_
            rotate_left
            · (intro w _; go_simp; try (with_reducible rfl))
            try simp only [putAtH]
            refine takeH 16 (v := ?_) (by simp only [opsAt]; rfl) (by kernel_rfl) (by exact fun _ _ _ h => h) (by rfl) (by assumption) ?_ ?_
            rotate_left
            · (intro w _; go_simp; try (with_reducible rfl))
            try simp only [putAtH]
            refine takeH 17 (v := ?_) (by simp only [opsAt]; rfl) (by kernel_rfl) (by exact fun _ _ _ h => h) (by rfl) (by assumption) ?_ ?_
            rotate_left
            · (intro w _; go_simp; try (with_reducible rfl))
            try simp only [putAtH]
            refine wpAnyH_done (by kernel_rfl) ?_ _
            go_wp2
            go_ret
            exact ⟨by rw [Hr.out]; rfl, kW.trans (by assumption)⟩
    · have Hr : Hid (tasksB ts = true) := by
        show _ = _
        have hh : ∀ (j : Nat) (t : Tsk), ts[j]? = some t → j < k := fun j t h => by
          rcases Nat.lt_or_ge j ts.length with h' | h'
          · have := Hn.out; omega
          · simp [List.getElem?_eq_none h'] at h
        rw [tasksB_all (fun j t h => H1.out j t (hh j t h) h) (fun j s t h1 h2 => H2.out j s t (hh _ t h2) h1 h2), Hn.out]
        simp [h12]
      go_wp2
      go_ret
      exact ⟨by rw [Hr.out]; rfl, hK⟩
end Go.Proofs.Ytioffjgnfkjmkaa
namespace Go.Proofs.Ytioffjgnfkjmkaa
open Go.RowKit
attribute [local go_sem] Keeps.refl Keeps.alloc Keeps.drew Keeps.drewN

/-- The place of the first whose number is not below no; behind all, where there is none. -/
def placeL (no : Int) : List Tsk → Nat
  | [] => 0
  | x :: r => if decide (no ≤ x.no) then 0 else placeL no r + 1
theorem placeL_le (no : Int) (ts : List Tsk) : placeL no ts ≤ ts.length := by
  induction ts with
  | nil => simp [placeL]
  | cons x r ih => simp only [placeL]; split <;> simp; omega
theorem placeL_here {no : Int} : ∀ {ts : List Tsk} {k : Nat} {t : Tsk}, ts[k]? = some t → decide (no ≤ t.no) = true → (∀ (j : Nat) (s : Tsk), j < k → ts[j]? = some s → decide (no ≤ s.no) = false) → placeL no ts = k
  | [], k, t, h, _, _ => by simp at h
  | x :: r, 0, t, h, hd, _ => by simp at h; subst h; simp only [placeL, hd, if_true]
  | x :: r, k + 1, t, h, hd, H => by
    have h0 := H 0 x (by omega) rfl
    simp only [placeL, h0, Bool.false_eq_true, if_false]
    rw [placeL_here (ts := r) (k := k) (t := t) (by simpa using h) hd (fun j s hj hs => H (j + 1) s (by omega) (by simpa using hs))]
theorem placeL_none {no : Int} : ∀ {ts : List Tsk}, (∀ (j : Nat) (s : Tsk), ts[j]? = some s → decide (no ≤ s.no) = false) → placeL no ts = ts.length
  | [], _ => rfl
  | x :: r, H => by
    have h0 := H 0 x rfl
    simp only [placeL, h0, Bool.false_eq_true, if_false, List.length_cons]
    rw [placeL_none (ts := r) (fun j s hs => H (j + 1) s (by simpa using hs))]
theorem ins_place (t : Tsk) : ∀ ts : List Tsk, ins t ts = ts.take (placeL t.no ts) ++ t :: ts.drop (placeL t.no ts)
  | [] => rfl
  | x :: r => by
    simp only [ins, placeL]
    cases h : decide (t.no ≤ x.no)
    · simp [ins_place t r]
    · simp

set_option maxRecDepth 100000 in
set_option maxHeartbeats 1000000 in
theorem placeFor_any (a : Option Addr) (cap : Nat) (ts : List Tsk) (no : Int) (w : World) (hl : ts.length ≤ maxLen) (hs : Ts w a ts) :
    Calls Try.prog 89 #[.slice a ts.length cap, .int .i64 no] w fun e w' => e = .returned (.int .i64 (placeL no ts)) ∧ Keeps w w' := by
  unfold maxLen at hl
  generalize hn : ts.length = n at hl
  have Hn : Hid (ts.length = n) := hn
  clear hn
  go_enter Try.func89, Try.ntmps89
  go_wp2
  go_loopw [9] (fun i wr => ∃ k : Nat, k ≤ n ∧ i = .int .i64 k ∧ Keeps w wr ∧ Hid (∀ j t, j < k → ts[j]? = some t → decide (no ≤ t.no) = false)) (fun i _ => n - (intOf i).toNat)
  case atStart => exact ⟨0, Nat.zero_le _, rfl, Keeps.refl _, fun j t hj => by omega⟩
  case round =>
    obtain ⟨k, hk, rfl, hK, H⟩ := hrel
    by_cases hlt : k < n
    · obtain ⟨t, ht⟩ := some_at (xs := ts) (k := k) (by rw [Hn.out]; exact hlt)
      obtain ⟨b, off, rfl, r0, r1⟩ := hs.at ht (by omega)
      have hlt' : (k : Int) < (n : Int) := by omega
      have Ht : Hid (ts[k]? = some t) := ht
      clear hs ht
      cases hq : decide (no ≤ t.no)
      · go_wp2
        exact ⟨⟨k + 1, by omega, by go_num, hK.alloc _, fun j s hj hs => by
          by_cases e : j = k
          · subst e; rw [Ht.out] at hs; cases hs; exact hq
          · exact H.out j s (by omega) hs⟩, by simp only [intOf]; omega⟩
      · have Hr : Hid (placeL no ts = k) := placeL_here Ht.out hq H.out
        go_wp2
        go_ret
        exact ⟨by rw [Hr.out]; rfl, hK.alloc _⟩
    · have Hr : Hid (placeL no ts = n) := by
        show _ = _
        rw [placeL_none fun j s hs => H.out j s (by
          rcases Nat.lt_or_ge j ts.length with h' | h'
          · have := Hn.out; omega
          · simp [List.getElem?_eq_none h'] at hs) hs, Hn.out]
      go_wp2
      go_ret
      exact ⟨by rw [Hr.out]; rfl, hK⟩

set_option maxRecDepth 100000 in
set_option maxHeartbeats 1000000 in
theorem copyOfTasks_any (ba off cap : Nat) (ts : List Tsk) (w : World) (hl : ts.length ≤ 12) (hs : Ts w (some ⟨ba, off, none⟩) ts) :
    Calls Try.prog 44 #[.slice (some ⟨ba, off, none⟩) ts.length cap] w fun e w' => ∃ v, e = .returned v ∧ OwnT w' w.heap.size v ts ∧ Keeps w w' := by
  generalize hn : ts.length = n at hl
  have Hn : Hid (ts.length = n) := hn
  clear hn
  obtain ⟨C, hC, hmk⟩ := run_make_any (P := Try.prog) 26 30 (tk Tsk.zero) 14 112 Try.underlying26 (by kernel_rfl) n (by omega) (by omega)
  have hr0 := Row.new w C 30
  have hs0 := hs.keeps ((Keeps.refl w).alloc (.cells C 30))
  have HC : Hid (C.size = n * 14) := hC
  clear hC
  go_enter Try.func44, Try.ntmps44
  go_upto_region 2 with fail
  have kW : Keeps w (w.alloc (.cells C 30)) := (Keeps.refl w).alloc _
  clear hmk hs
  generalize w.alloc (.cells C 30) = W at *
  have hrun : ∀ ty, (Builtin.copy_ #[26, 26] ty #[.slice (some ⟨w.heap.size, 0, none⟩) n n, .slice (some ⟨ba, off, none⟩) n cap]).run Try.prog W = .ok (goInt n) (W.setRow w.heap.size (setL C 0 (flatC tc ts))) := fun ty => by
    have := run_copy_lies (P := Try.prog) tc 14 tc_size (by decide) tc_one W 26 26 ty 30 (some ⟨w.heap.size, 0, none⟩) (some ⟨ba, off, none⟩) n n n cap C 30 w.heap.size 0 ts Try.underlying26 (by kernel_rfl) hr0 (by rw [Hn.out]; simp) (fun _ => rfl) hs0 (by rw [Hn.out, HC.out]; omega)
    rwa [Hn.out] at this
  have R1 : Hid (Row (W.setRow w.heap.size (setL C 0 (flatC tc ts))) w.heap.size 30 (flatC tc ts).toArray) := by
    have e := setL_all (L := flatC tc ts) (C := C) (by rw [flatC_length tc_size, Hn.out, HC.out])
    have := hr0.setRow (setL C 0 (flatC tc ts))
    show Row _ _ _ _
    rw [← e]; exact this
  have K1 : Hid (Keeps w (W.setRow w.heap.size (setL C 0 (flatC tc ts)))) := kW.setRow (Nat.le_refl _) _
  clear hr0 hs0 kW
  generalize W.setRow w.heap.size (setL C 0 (flatC tc ts)) = X at *
  go_wp2
  go_ret
  refine ⟨_, rfl, ?_, K1.out⟩
  have := R1.out.own (sz := 14) tc_size (base := w.heap.size) (Nat.le_refl _) (by rw [Hn.out]; unfold maxLen; omega)
  rwa [Hn.out] at this

theorem setL_none (C : Array Value) (k : Nat) : setL C k (flatC tc []) = C := rfl
theorem Lies.part {α : Type} {sz : Nat} {c : α → Array Value} {w : World} {b off : Nat} {xs : List α} (h : Lies sz c w (some ⟨b, off, none⟩) xs) (k : Nat) : Lies sz c w (some ⟨b, off, none⟩) (xs.take k) := by
  rcases h with rfl | ⟨b', off', e, hb, h⟩
  · simp; exact .inl rfl
  · refine .inr ⟨b', off', e, hb, fun i x hx => h i x ?_⟩
    rw [List.getElem?_take] at hx
    split at hx
    · exact hx
    · cases hx
theorem Lies.rest {α : Type} {sz : Nat} {c : α → Array Value} {w : World} {b off : Nat} {xs : List α} (h : Lies sz c w (some ⟨b, off, none⟩) xs) (k : Nat) : Lies sz c w (some ⟨b, off + k * sz, none⟩) (xs.drop k) := by
  rcases h with rfl | ⟨b', off', e, hb, h⟩
  · simp; exact .inl rfl
  · simp only [Option.some.injEq, Addr.mk.injEq] at e
    obtain ⟨rfl, rfl, -⟩ := e
    refine .inr ⟨b, _, rfl, hb, fun i x hx m hm => ?_⟩
    rw [List.getElem?_drop] at hx
    have := h (k + i) x hx m hm
    rw [← this]
    congr 2
    rw [Nat.add_mul]; omega

set_option maxRecDepth 100000 in
set_option maxHeartbeats 2000000 in
theorem withTask_any (ba off cap : Nat) (ts : List Tsk) (t : Tsk) (w : World) (hl : ts.length ≤ 12) (hcap : ts.length ≤ cap) (hs : Ts w (some ⟨ba, off, none⟩) ts) :
    Calls Try.prog 43 #[.slice (some ⟨ba, off, none⟩) ts.length cap, tk t] w fun e w' => ∃ g, e = .returned (.slice (some ⟨g, 0, none⟩) (ts.length + 1) (ts.length + 1)) ∧ OwnT w' w.heap.size (.slice (some ⟨g, 0, none⟩) (ts.length + 1) (ts.length + 1)) (ins t ts) ∧ Keeps w w' := by
  have hlm : ts.length ≤ maxLen := by unfold maxLen; omega
  generalize hn : ts.length = n at hl hcap
  have Hn : Hid (ts.length = n) := hn
  clear hn
  obtain ⟨C, hC, hmk⟩ := run_make_any (P := Try.prog) 26 30 (tk Tsk.zero) 14 112 Try.underlying26 (by kernel_rfl) (n + 1) (by omega) (by omega)
  have HC : Hid (C.size = (n + 1) * 14) := hC
  clear hC
  rw [show ((n + 1 : Nat) : Int) = (n : Int) + 1 by omega] at hmk
  go_enter Try.func43, Try.ntmps43
  go_wp2_with fail
  have B0 := Blk.new w (tc t) 30
  have kW : Keeps w (w.alloc (.cells (tc t) 30)) := (Keeps.refl w).alloc _
  have hs0 := hs.keeps kW
  have hpf := placeFor_any (some ⟨ba, off, none⟩) cap ts t.no _ hlm hs0
  rw [Hn.out] at hpf
  refine hpf.mono ?_
  clear hpf
  rintro e w1 ⟨rfl, k1⟩
  have HK : Hid (placeL t.no ts ≤ n) := by have := placeL_le t.no ts; rw [Hn.out] at this; exact this
  have HI : Hid (ins t ts = ts.take (placeL t.no ts) ++ t :: ts.drop (placeL t.no ts)) := ins_place t ts
  generalize placeL t.no ts = k at *
  have hkn : k ≤ n := HK.out
  have B1 := B0.keeps k1
  have hs1 := hs0.keeps k1
  have K1 : Hid (Keeps w w1) := kW.trans k1
  clear B0 kW hs0 k1 hs
  go_upto_region 3 with fail
  have R0 := Row.new w1 C 30
  have kW : Keeps w1 (w1.alloc (.cells C 30)) := (Keeps.refl w1).alloc _
  have hwg : w.heap.size < w1.heap.size := B1.lt
  clear hmk
  generalize w1.alloc (.cells C 30) = W1 at *
  obtain ⟨g, Hg⟩ : ∃ g, Hid (w1.heap.size = g) := ⟨_, rfl⟩
  have hgl : w1.heap.size ≤ g := by have := Hg.out; omega
  rw [Hg.out] at R0 ⊢
  have hrun1 : ∀ ty, (Builtin.copy_ #[26, 26] ty #[.slice (some ⟨g, 0, none⟩) (n + 1) (n + 1), .slice (some ⟨ba, off, none⟩) k cap]).run Try.prog W1 = .ok (goInt k) (W1.setRow g (setL C 0 (flatC tc (ts.take k)))) := fun ty => by
    have := run_copy_lies (P := Try.prog) tc 14 tc_size (by decide) tc_one W1 26 26 ty 30 (some ⟨g, 0, none⟩) (some ⟨ba, off, none⟩) (n + 1) (n + 1) k cap C 30 g 0 (ts.take k) Try.underlying26 (by kernel_rfl) R0 (by simp only [List.length_take, Hn.out]; show _ = min _ _; omega) (fun _ => rfl) ((hs1.keeps kW).part k) (by simp only [List.length_take, Hn.out, HC.out]; omega)
    rwa [show (ts.take k).length = k by simp only [List.length_take, Hn.out]; omega] at this
  have R1 := R0.setRow (setL C 0 (flatC tc (ts.take k)))
  have kX := kW.setRow hgl (setL C 0 (flatC tc (ts.take k)))
  have HC1 : Hid ((setL C 0 (flatC tc (ts.take k))).size = (n + 1) * 14) := by show _ = _; rw [setL_size]; exact HC.out
  obtain ⟨C1, E1⟩ : ∃ C1, Hid (setL C 0 (flatC tc (ts.take k)) = C1) := ⟨_, rfl⟩
  rw [E1.out] at R1 kX HC1 hrun1
  clear R0 kW
  generalize W1.setRow g C1 = X1 at *
  have bx : ∀ m, X1.cell? ⟨w.heap.size, m, none⟩ = (tc t)[m]? := (B1.keeps kX).cells
  have s0 : X1.cell? ⟨g, k * 14, none⟩ = some (C1.getD (k * 14) undef) := by
    rw [R1.cell]; have := HC1.out; rw [Array.getElem?_eq_getElem (by omega)]; simp [Array.getD, show k * 14 < C1.size by omega]
  have s1 : ∀ m, m < 14 → X1.cell? ⟨g, k * 14 + m, none⟩ = some (C1.getD (k * 14 + m) undef) := fun m hm => by
    rw [R1.cell]; have := HC1.out; rw [Array.getElem?_eq_getElem (by omega)]; simp [Array.getD, show k * 14 + m < C1.size by omega]
  have s2 : ∀ m, X1.frozen? ⟨g, m, none⟩ = false := R1.frozen
  have hkl : (k : Int) < (n : Int) + 1 := by omega
  have hkc : k ≤ cap := by omega
  have HR1 : Hid (Row X1 g 30 C1) := R1
  have HkX : Hid (Keeps w1 X1) := kX
  clear R1 kX
  go_upto_region 5 with fail
  clear hrun1 bx s0 s1 s2
  have R2 := HR1.out.putC (tc t).toList (k * 14)
  have k2 := Keeps.putC hgl (tc t).toList (k * 14) HkX.out
  change Code.wp _ _ _ _ (putC X1 g (k * 14) (tc t).toList)
  generalize putC X1 g (k * 14) (tc t).toList = X2 at *
  have HX : ∀ X : World, Keeps w1 X → Row X g 30 (setL (setL C1 (k * 14) (tc t).toList) ((k + 1) * 14) (flatC tc (ts.drop k))) → OwnT X w.heap.size (.slice (some ⟨g, 0, none⟩) (n + 1) (n + 1)) (ins t ts) ∧ Keeps w X := fun X kX rX => by
    refine ⟨?_, K1.out.trans kX⟩
    have hA : (flatC tc (ts.take k)).length = k * 14 := by rw [flatC_length tc_size]; simp only [List.length_take, Hn.out]; congr 1; omega
    have hD : (flatC tc (ts.drop k)).length = (n - k) * 14 := by rw [flatC_length tc_size]; simp only [List.length_drop, Hn.out]
    have e := setL_three C (flatC tc (ts.take k)) (tc t).toList (flatC tc (ts.drop k)) (by rw [hA, hD, HC.out]; simp; omega)
    rw [hA, E1.out, show (tc t).toList.length = 14 from rfl, show k * 14 + 14 = (k + 1) * 14 by omega] at e
    rw [e] at rX
    have e2 : flatC tc (ins t ts) = flatC tc (ts.take k) ++ ((tc t).toList ++ flatC tc (ts.drop k)) := by rw [HI.out, flatC_append]; rfl
    rw [← e2] at rX
    have := rX.own (sz := 14) tc_size (base := w.heap.size) (by omega) (by rw [ins_length, Hn.out]; unfold maxLen; omega)
    rwa [ins_length, Hn.out] at this
  by_cases hkn' : k = n
  · have hrun2 : ∀ ty d a dl dc sc, (Builtin.copy_ #[26, 26] ty #[.slice d dl dc, .slice a 0 sc]).run Try.prog X2.drew = .ok (goInt 0) X2.drew := fun ty d a dl dc sc => run_copy_none_any X2.drew _ _ ty 30 d a 14 dl dc 0 sc Try.underlying26 (by kernel_rfl) (by simp)
    have hX := HX X2.drew k2.drew (by
      have e : ts.drop k = [] := List.drop_eq_nil_of_le (by rw [Hn.out]; omega)
      rw [e, setL_none]; exact R2.keeps (Keeps.refl _).drew)
    have HX2 : Hid (OwnT X2.drew w.heap.size (.slice (some ⟨g, 0, none⟩) (n + 1) (n + 1)) (ins t ts) ∧ Keeps w X2.drew) := hX
    clear hX HX
    subst hkn'
    go_region
    go_wp2
    all_goals (go_ret; exact ⟨g, rfl, HX2.out⟩)
  · have hk1 : k < n := by omega
    have hne : ¬ cap = k := by omega
    have hX := HX (X2.drew.setRow g (setL (setL C1 (k * 14) (tc t).toList) ((k + 1) * 14) (flatC tc (ts.drop k)))) (k2.drew.setRow hgl _) ((R2.keeps (Keeps.refl _).drew).setRow _)
    have hrun2 : ∀ ty, (Builtin.copy_ #[26, 26] ty #[.slice (some ⟨g, (k + 1) * 14, none⟩) (n - k) (n - k), .slice (some ⟨ba, off + k * 14, none⟩) (n - k) (cap - k)]).run Try.prog X2.drew = .ok (goInt ((n - k : Nat) : Int)) (X2.drew.setRow g (setL (setL C1 (k * 14) (tc t).toList) ((k + 1) * 14) (flatC tc (ts.drop k)))) := fun ty => by
      have := run_copy_lies (P := Try.prog) tc 14 tc_size (by decide) tc_one X2.drew 26 26 ty 30 (some ⟨g, (k + 1) * 14, none⟩) (some ⟨ba, off + k * 14, none⟩) (n - k) (n - k) (n - k) (cap - k) _ 30 g ((k + 1) * 14) (ts.drop k) Try.underlying26 (by kernel_rfl) (R2.keeps (Keeps.refl _).drew) (by simp only [List.length_drop, Hn.out]; show _ = min _ _; omega) (fun _ => rfl) ((hs1.keeps k2.drew).rest k) (by simp only [List.length_drop, Hn.out, setL_size, HC1.out]; omega)
      rwa [show (ts.drop k).length = n - k by simp only [List.length_drop, Hn.out]] at this
    generalize X2.drew.setRow g (setL (setL C1 (k * 14) (tc t).toList) ((k + 1) * 14) (flatC tc (ts.drop k))) = X3 at *
    have HX2 : Hid (OwnT X3 w.heap.size (.slice (some ⟨g, 0, none⟩) (n + 1) (n + 1)) (ins t ts) ∧ Keeps w X3) := hX
    clear hX HX
    go_region
    go_wp2
    all_goals (go_ret; exact ⟨g, rfl, HX2.out⟩)

set_option maxRecDepth 100000 in
set_option maxHeartbeats 2000000 in
theorem implTaskPut_says : SaysTaskPut := by
  intro ba off cap ts t w hl hcap hs
  have hlm : ts.length ≤ maxLen := hl
  unfold maxLen at hl
  generalize hn : ts.length = n at hl hcap
  have Hn : Hid (ts.length = n) := hn
  clear hn
  go_enter Try.func13, Try.ntmps13
  go_wp2_with fail
  have kW : Keeps w (w.alloc (.cells (tc t) 30)) := (Keeps.refl _).alloc _
  have B0 := Blk.new w (tc t) 30
  have hs0 := hs.keeps kW
  have c1 := implTasksOk_says (some ⟨ba, off, none⟩) cap ts _ hlm hs0
  rw [Hn.out] at c1
  refine c1.mono ?_
  clear c1
  rintro e w1 ⟨rfl, k1⟩
  have B1 := B0.keeps k1
  have hs1 := hs0.keeps k1
  have kw1 := kW.trans k1
  clear kW B0 hs0 k1 hs
  cases hb : tasksB ts
  · have Hb : Hid (putB ts t = false) := by show _ = _; simp [putB, hb]
    have Hp : Hid (putL ts t = []) := by show _ = _; simp [putL, hb]
    go_wp2
    go_ret2
    exact ⟨_, by rw [Hb.out]; rfl, by rw [Hp.out]; exact ⟨rfl, .inl ⟨rfl, rfl⟩⟩, kw1⟩
  · have h12 : n ≤ 12 := by rw [← Hn.out]; exact tasksB_len hb
    have Hts : Hid (tasksB ts = true) := hb
    clear hb
    obtain ⟨_, b1, b2⟩ := B1
    go_wp2_with fail
    have c2 := withTask_any ba off cap ts t w1 (by rw [Hn.out]; exact h12) (by rw [Hn.out]; exact hcap) hs1
    rw [Hn.out] at c2
    refine c2.mono ?_
    clear c2
    rintro e w2 ⟨g, rfl, own2, k2⟩
    have hil : Hid ((ins t ts).length = n + 1) := by show _ = _; rw [ins_length, Hn.out]
    have hl2 : Lies 14 tc w2 (some ⟨g, 0, none⟩) (ins t ts) := by
      obtain ⟨a, c, e, l, -, -⟩ := own2.slice tc_size
      simp only [Value.slice.injEq] at e
      obtain ⟨rfl, -, -⟩ := e
      exact l
    have O2 : Hid (OwnT w2 w1.heap.size (.slice (some ⟨g, 0, none⟩) (n + 1) (n + 1)) (ins t ts)) := own2
    have hs2 := hs1.keeps k2
    have kw2 := kw1.trans k2
    have hw1 := kw1.size
    clear own2 hs1 k2 b1 b2
    go_wp2_with fail
    have c3 := implTasksOk_says (some ⟨g, 0, none⟩) (n + 1) (ins t ts) w2 (by rw [hil.out]; unfold maxLen; omega) hl2
    rw [hil.out] at c3
    refine c3.mono ?_
    clear c3
    rintro e w3 ⟨rfl, k3⟩
    cases hb : tasksB (ins t ts)
    · have Hb : Hid (putB ts t = false) := by show _ = _; simp [putB, hb]
      have Hp : Hid (putL ts t = ts) := by show _ = _; simp [putL, hb, Hts.out]
      go_wp2_with fail
      have c4 := copyOfTasks_any ba off cap ts w3 (by rw [Hn.out]; exact h12) (hs2.keeps k3)
      rw [Hn.out] at c4
      refine c4.mono ?_
      clear c4
      rintro e w4 ⟨v, rfl, own4, k4⟩
      have O4 : Hid (OwnT w4 w3.heap.size v ts) := own4
      clear own4
      go_wp2
      go_ret2
      exact ⟨_, by rw [Hb.out]; rfl, by rw [Hp.out]; exact O4.out.base (kw2.trans k3).size, (kw2.trans k3).trans k4⟩
    · have Hb : Hid (putB ts t = true) := by show _ = _; simp [putB, hb, Hts.out]
      have Hp : Hid (putL ts t = ins t ts) := by show _ = _; simp [putL, hb, Hts.out]
      go_wp2
      go_ret2
      exact ⟨_, by rw [Hb.out]; rfl, by rw [Hp.out]; exact (O2.out.keeps k3).base hw1, kw2.trans k3⟩
end Go.Proofs.Ytioffjgnfkjmkaa
