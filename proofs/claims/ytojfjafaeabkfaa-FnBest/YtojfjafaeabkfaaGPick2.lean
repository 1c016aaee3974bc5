/-
  Picking: contracts of the model's Executor, Able, CanTurn, Pick and BestOf, as they are asked.
  The walks of the exact laws of chapter 8, over contracts of the program's functions.
-/
import Derived.Test.YtojfjafaeabkfaaGPick1
import Derived.Test.YtojfjafaeabkfaaGLock4
import Derived.Test.YtojfjafaeabkfaaGLock3
import Derived.Test.YtojfjafaeabkfaaGTask3
namespace Go.Proofs.Ytojfjafaeabkfaa
open Go.RowKit
attribute [local go_sem] Keeps.refl Keeps.alloc Keeps.drew Keeps.drewN

set_option maxRecDepth 100000 in
set_option maxHeartbeats 2000000 in
theorem specExecutor_any {w : World} {a : Option Addr} {n cap : Nat} {ts : List Tsk} {b : Option Addr} {m cap2 : Nat} {ls : List Lk} (h : Two w a n cap ts b m cap2 ls) (no : Int) :
    Calls Try.prog 16 #[.slice a n cap, .slice b m cap2, .int .i64 no] w fun e w' => e = .returned (.int .i64 (execP ts ls no)) ∧ Keeps w w' := by
  have H : Hid (Two w a n cap ts b m cap2 ls) := h
  clear h
  cases h1 : tasksB ts
  · have Hr : Hid (execP ts ls no = 0) := by show _ = _; simp [execP, bothB, h1]
    go_enter Try.func16, Try.ntmps16
    go_wp2_with (go_at_call 40; refine (H.out.t.sTasksOk h1 (Keeps.refl _)).mono ?_; rintro e w1 ⟨rfl, k1⟩)
    go_ret
    exact ⟨by rw [Hr.out]; rfl, k1⟩
  · cases h2 : locksB ls
    · have Hr : Hid (execP ts ls no = 0) := by show _ = _; simp [execP, bothB, h2]
      go_enter Try.func16, Try.ntmps16
      go_wp2_with (first
        | (go_at_call 40; refine (H.out.t.sTasksOk h1 (Keeps.refl _)).mono ?_; rintro e w1 ⟨rfl, k1⟩)
        | (go_at_call 48; refine (H.out.l.sLocksOk h2 k1).mono ?_; rintro e w2 ⟨rfl, k2⟩; have K2 := k1.trans k2))
      go_ret
      exact ⟨by rw [Hr.out]; rfl, K2⟩
    · have Hr : Hid (execP ts ls no = execI ts ls no) := by show _ = _; simp [execP, bothB, h1, h2]
      obtain ⟨z, Hz⟩ : ∃ z, Hid (execI ts ls no = z) := ⟨_, rfl⟩
      go_enter Try.func16, Try.ntmps16
      go_wp2_with (first
        | (go_at_call 40; refine (H.out.t.sTasksOk h1 (Keeps.refl _)).mono ?_; rintro e w1 ⟨rfl, k1⟩)
        | (go_at_call 48; refine (H.out.l.sLocksOk h2 k1).mono ?_; rintro e w2 ⟨rfl, k2⟩; have K2 := k1.trans k2)
        | (go_at_call 49; refine (H.out.exec no Hz.out K2).mono ?_; rintro e w3 ⟨rfl, k3⟩; have K3 := K2.trans k3))
      go_ret
      exact ⟨by rw [Hr.out, Hz.out]; rfl, K3⟩
set_option maxRecDepth 100000 in
set_option maxHeartbeats 2000000 in
theorem specAble_any {w : World} {a : Option Addr} {n cap : Nat} {ts : List Tsk} {b : Option Addr} {m cap2 : Nat} {ls : List Lk} (h : Two w a n cap ts b m cap2 ls) (no : Int) :
    Calls Try.prog 22 #[.slice a n cap, .slice b m cap2, .int .i64 no] w fun e w' => e = .returned (.bool (ableP ts ls no)) ∧ Keeps w w' := by
  have H : Hid (Two w a n cap ts b m cap2 ls) := h
  clear h
  cases h1 : tasksB ts
  · have Hr : Hid (ableP ts ls no = false) := by show _ = _; simp [ableP, bothB, h1]
    go_enter Try.func22, Try.ntmps22
    go_wp2_with (go_at_call 40; refine (H.out.t.sTasksOk h1 (Keeps.refl _)).mono ?_; rintro e w1 ⟨rfl, k1⟩)
    go_ret
    exact ⟨by rw [Hr.out]; rfl, k1⟩
  · cases h2 : locksB ls
    · have Hr : Hid (ableP ts ls no = false) := by show _ = _; simp [ableP, bothB, h2]
      go_enter Try.func22, Try.ntmps22
      go_wp2_with (first
        | (go_at_call 40; refine (H.out.t.sTasksOk h1 (Keeps.refl _)).mono ?_; rintro e w1 ⟨rfl, k1⟩)
        | (go_at_call 48; refine (H.out.l.sLocksOk h2 k1).mono ?_; rintro e w2 ⟨rfl, k2⟩; have K2 := k1.trans k2))
      go_ret
      exact ⟨by rw [Hr.out]; rfl, K2⟩
    · have Hr : Hid (ableP ts ls no = ableB ts ls no) := by show _ = _; simp [ableP, bothB, h1, h2]
      obtain ⟨z, Hz⟩ : ∃ z, Hid (ableB ts ls no = z) := ⟨_, rfl⟩
      go_enter Try.func22, Try.ntmps22
      go_wp2_with (first
        | (go_at_call 40; refine (H.out.t.sTasksOk h1 (Keeps.refl _)).mono ?_; rintro e w1 ⟨rfl, k1⟩)
        | (go_at_call 48; refine (H.out.l.sLocksOk h2 k1).mono ?_; rintro e w2 ⟨rfl, k2⟩; have K2 := k1.trans k2)
        | (go_at_call 55; refine (H.out.able no Hz.out K2).mono ?_; rintro e w3 ⟨rfl, k3⟩; have K3 := K2.trans k3))
      go_ret
      exact ⟨by rw [Hr.out, Hz.out]; rfl, K3⟩
set_option maxRecDepth 100000 in
set_option maxHeartbeats 2000000 in
theorem specCanTurn_any {w : World} {a : Option Addr} {n cap : Nat} {ts : List Tsk} {b : Option Addr} {m cap2 : Nat} {ls : List Lk} (h : Two w a n cap ts b m cap2 ls) (no : Int) :
    Calls Try.prog 24 #[.slice a n cap, .slice b m cap2, .int .i64 no] w fun e w' => e = .returned (.bool (canP ts ls no)) ∧ Keeps w w' := by
  have H : Hid (Two w a n cap ts b m cap2 ls) := h
  clear h
  cases h1 : tasksB ts
  · have Hr : Hid (canP ts ls no = false) := by show _ = _; simp [canP, bothB, h1]
    go_enter Try.func24, Try.ntmps24
    go_wp2_with (go_at_call 40; refine (H.out.t.sTasksOk h1 (Keeps.refl _)).mono ?_; rintro e w1 ⟨rfl, k1⟩)
    go_ret
    exact ⟨by rw [Hr.out]; rfl, k1⟩
  · cases h2 : locksB ls
    · have Hr : Hid (canP ts ls no = false) := by show _ = _; simp [canP, bothB, h2]
      go_enter Try.func24, Try.ntmps24
      go_wp2_with (first
        | (go_at_call 40; refine (H.out.t.sTasksOk h1 (Keeps.refl _)).mono ?_; rintro e w1 ⟨rfl, k1⟩)
        | (go_at_call 48; refine (H.out.l.sLocksOk h2 k1).mono ?_; rintro e w2 ⟨rfl, k2⟩; have K2 := k1.trans k2))
      go_ret
      exact ⟨by rw [Hr.out]; rfl, K2⟩
    · have Hr : Hid (canP ts ls no = canB ts ls no) := by show _ = _; simp [canP, bothB, h1, h2]
      obtain ⟨z, Hz⟩ : ∃ z, Hid (canB ts ls no = z) := ⟨_, rfl⟩
      go_enter Try.func24, Try.ntmps24
      go_wp2_with (first
        | (go_at_call 40; refine (H.out.t.sTasksOk h1 (Keeps.refl _)).mono ?_; rintro e w1 ⟨rfl, k1⟩)
        | (go_at_call 48; refine (H.out.l.sLocksOk h2 k1).mono ?_; rintro e w2 ⟨rfl, k2⟩; have K2 := k1.trans k2)
        | (go_at_call 57; refine (H.out.can no Hz.out K2).mono ?_; rintro e w3 ⟨rfl, k3⟩; have K3 := K2.trans k3))
      go_ret
      exact ⟨by rw [Hr.out, Hz.out]; rfl, K3⟩

set_option maxRecDepth 100000 in
set_option maxHeartbeats 4000000 in
theorem specBestOf_any {w : World} {a : Option Addr} {n cap : Nat} {ts : List Tsk} (h : OnT w a n cap ts) (b : Option Addr) (cap2 : Nat) (xs : List Int) (hx : xs.length ≤ maxLen) (hs : Ns w b xs) :
    Calls Try.prog 26 #[.slice a n cap, .slice b xs.length cap2] w fun e w' => e = .returned (.int .i64 (bestI ts xs)) ∧ Keeps w w' := by
  have H : Hid (OnT w a n cap ts) := h
  have Hn : Hid (ts.length = n) := h.len
  have hn : n ≤ 9223372036854775807 := by rw [← h.len]; have := h.small; unfold maxLen at this; omega
  clear h
  have HX0 : Hid (∀ x w', Keeps w w' → Calls Try.prog 59 #[.slice b xs.length cap2, .int .i64 x] w' fun e w'' => e = .returned (.bool (hasB xs x)) ∧ Keeps w' w'') := fun x w' k => specHas_any b cap2 xs x w' hx (hs.keeps k)
  generalize hq : xs.length = q at HX0
  have Hq : Hid (xs.length = q) := hq
  clear hx hs hq
  cases hb : tasksB ts
  · have Hr : Hid (bestI ts xs = 0) := by show _ = _; simp [bestI, hb]
    go_enter Try.func26, Try.ntmps26
    go_wp2
    go_loopw [5, 6] (fun at' i wr => i = .int .i64 0 ∧ at' = .int .i64 (-1) ∧ wr = w) (fun _ _ _ => 0)
    case atStart => exact ⟨rfl, rfl, rfl⟩
    case round =>
    obtain ⟨rfl, rfl, hw⟩ := hrel
    have hw2 := hw.symm
    subst hw2
    clear hw
    by_cases hlt : 0 < n
    · have hlt' : (0 : Int) < (n : Int) := by omega
      go_wp2_with (go_at_call 40; refine (H.out.sTasksOk hb (Keeps.refl _)).mono ?_; rintro e w1 ⟨rfl, k1⟩)
      go_ret
      exact ⟨by rw [Hr.out]; rfl, k1⟩
    · have hlt' : decide ((0 : Int) < (n : Int)) = false := by simp; omega
      have hlt2 : decide (0 < n) = false := by simp; omega
      go_wp2
      go_ret
      exact ⟨by rw [Hr.out]; rfl, Keeps.refl _⟩
  obtain ⟨cand, Hc⟩ : ∃ cand, Hid (candL xs = cand) := ⟨_, rfl⟩
  have HP : Hid (bestI ts xs = noAt ts (topN ts cand n)) := by show _ = _; unfold bestI; rw [hb, Hc.out, Hn.out]; rfl
  go_enter Try.func26, Try.ntmps26
  go_wp2
  go_loopw [5, 6] (fun at' i wr => ∃ (k : Nat) (A : Int), k ≤ n ∧ i = .int .i64 k ∧ at' = .int .i64 A ∧ Hid (topN ts cand k = A) ∧ Keeps w wr) (fun _ i _ => n - (intOf i).toNat)
  case atStart => exact ⟨0, -1, Nat.zero_le _, rfl, rfl, rfl, Keeps.refl _⟩
  case round =>
  obtain ⟨k, A, hk, rfl, rfl, HA, hK⟩ := hrel
  have hAr : -1 ≤ A ∧ A < k := by rw [← HA.out]; exact topN_le ts cand k
  by_cases hlt : k < n
  · have hlt' : (k : Int) < (n : Int) := by omega
    obtain ⟨t, ht⟩ := some_at (xs := ts) (k := k) (by rw [Hn.out]; exact hlt)
    have HS : Hid (topN ts cand (k + 1) = if hasB xs t.no && (decide (A < 0) || befB t (ts.getD A.toNat Tsk.zero)) then (k : Int) else A) := by
      show _ = _
      simp only [topN, topS]
      rw [HA.out, getD_of ht, ← Hc.out]
      rfl
    obtain ⟨ba, off, rfl, all⟩ := H.out.all (by omega)
    have AL : Hid _ := all
    obtain ⟨r0, r1⟩ := all k t ht
    have Ht : Hid (ts[k]? = some t) := ht
    clear all ht
    obtain ⟨cc, Hcc⟩ : ∃ cc, Hid (hasB xs t.no = cc) := ⟨_, rfl⟩
    rw [Hcc.out] at HS
    have HX : Hid (∀ w', Keeps w w' → Calls Try.prog 59 #[.slice b q cap2, .int .i64 t.no] w' fun e w'' => e = .returned (.bool cc) ∧ Keeps w' w'') := fun w' k => by rw [← Hcc.out]; exact HX0.out t.no w' k
    go_wp2_with (first
      | (go_at_call 40; refine (H.out.sTasksOk hb hK).mono ?_; rintro e w1 ⟨rfl, k1⟩; have K1 := hK.trans k1)
      | fail)
    clear hK k1
    cases cc
    · have HT : Hid (topN ts cand (k + 1) = A) := by show _ = _; rw [HS.out]; rfl
      go_wp2_with fail
      refine wp_region_held_drew (S := (fun w' => Keeps w w')) (by kernel_rfl) ?_ (fun hHeld => ?_)
      · exact Keeps.drew (by assumption)
      refine wpAnyH_take (i := 0) (v := ?_) (by simp only [List.getElem?_toArray, List.getElem?_cons_zero]; rfl) (by kernel_rfl) (by kernel_rfl) (by kernel_rfl) (by exact fun _ _ _ h => h) (Or.inl ⟨by rfl, ?_⟩) (by assumption) ?_
      rotate_left
      · (intro w hSw; (try dsimp only at hSw); go_simp; try (with_reducible rfl))
      try simp only [Act.put, List.setIfInBounds_toArray, List.set_cons_zero, List.set_cons_succ]
      refine wpAnyH_take (i := 1) (v := ?_) (by simp only [List.getElem?_toArray, List.getElem?_cons_succ, List.getElem?_cons_zero]; rfl) (by kernel_rfl) (by kernel_rfl) (by kernel_rfl) (by exact fun _ _ _ h => h) (Or.inl ⟨by rfl, ?_⟩) (by assumption) ?_
      rotate_left
      · (intro w hSw; (try dsimp only at hSw); go_simp; try (with_reducible rfl))
      try simp only [Act.put, List.setIfInBounds_toArray, List.set_cons_zero, List.set_cons_succ]
      refine wpAnyH_take (i := 2) (v := ?_) (by simp only [List.getElem?_toArray, List.getElem?_cons_succ, List.getElem?_cons_zero]; rfl) (by kernel_rfl) (by kernel_rfl) (by kernel_rfl) (by exact fun _ _ _ h => h) (Or.inl ⟨by rfl, ?_⟩) (by assumption) ?_
      rotate_left
      · (intro w hSw; (try dsimp only at hSw); go_simp; try (with_reducible rfl))
      try simp only [Act.put, List.setIfInBounds_toArray, List.set_cons_zero, List.set_cons_succ]
      refine wpAnyH_take (i := 3) (v := ?_) (by simp only [List.getElem?_toArray, List.getElem?_cons_succ, List.getElem?_cons_zero]; rfl) (by kernel_rfl) (by kernel_rfl) (by kernel_rfl) (by exact fun _ _ _ h => h) (Or.inl ⟨by rfl, ?_⟩) (by assumption) ?_
      rotate_left
      · (intro w hSw; (try dsimp only at hSw); go_simp; try (with_reducible rfl))
      try simp only [Act.put, List.setIfInBounds_toArray, List.set_cons_zero, List.set_cons_succ]
      refine wpAnyH_take (i := 4) (v := ?_) (by simp only [List.getElem?_toArray, List.getElem?_cons_succ, List.getElem?_cons_zero]; rfl) (by kernel_rfl) (by kernel_rfl) (by kernel_rfl) (by exact fun _ _ _ h => h) (Or.inl ⟨by rfl, ?_⟩) (by assumption) ?_
      rotate_left
      · (intro w hSw; (try dsimp only at hSw); go_simp; try (with_reducible rfl))
      try simp only [Act.put, List.setIfInBounds_toArray, List.set_cons_zero, List.set_cons_succ]
      refine wpAnyH_take (i := 5) (v := ?_) (by simp only [List.getElem?_toArray, List.getElem?_cons_succ, List.getElem?_cons_zero]; rfl) (by kernel_rfl) (by kernel_rfl) (by kernel_rfl) (by exact fun _ _ _ h => h) (Or.inl ⟨by rfl, ?_⟩) (by assumption) ?_
      rotate_left
      · (intro w hSw; (try dsimp only at hSw); go_simp; try (with_reducible rfl))
      try simp only [Act.put, List.setIfInBounds_toArray, List.set_cons_zero, List.set_cons_succ]
      refine wpAnyH_ready (rs := [6]) (by kernel_rfl) (by simp) ?_
      refine AllReadyH.cons (by simp only [List.getElem?_toArray, List.getElem?_cons_succ, List.getElem?_cons_zero]; rfl) (fun K hK => ?_) AllReadyH.nil
      go_simp
      (go_at_call 59; refine (HX.out _ (by assumption)).mono ?_; rintro e w5 ⟨rfl, hb5⟩)
      try go_wp2_with fail
      refine hK.out _ _ ?_ (fun hHeld => ?_)
      · exact Keeps.trans (by assumption) (by assumption)
      clear hK K
      try simp only [Act.put, List.setIfInBounds_toArray, List.set_cons_zero, List.set_cons_succ]
      refine wpAnyH_take (i := 7) (v := ?_) (by simp only [List.getElem?_toArray, List.getElem?_cons_succ, List.getElem?_cons_zero]; rfl) (by kernel_rfl) (by kernel_rfl) (by kernel_rfl) (by exact fun _ _ _ h => h) (Or.inl ⟨by rfl, ?_⟩) (by assumption) ?_
      rotate_left
      · (intro w hSw; (try dsimp only at hSw); go_simp; try (with_reducible rfl))
      try simp only [Act.put, List.setIfInBounds_toArray, List.set_cons_zero, List.set_cons_succ]
      refine wpAnyH_take (i := 8) (v := undef) (by simp only [List.getElem?_toArray, List.getElem?_cons_succ, List.getElem?_cons_zero]; rfl) (by kernel_rfl) (by kernel_rfl) (by kernel_rfl) (by exact fun _ _ _ h => h) (Or.inr ⟨by rfl, rfl⟩) (by assumption) ?_
      try simp only [Act.put, List.setIfInBounds_toArray, List.set_cons_zero, List.set_cons_succ]
      refine wpAnyH_take (i := 9) (v := undef) (by simp only [List.getElem?_toArray, List.getElem?_cons_succ, List.getElem?_cons_zero]; rfl) (by kernel_rfl) (by kernel_rfl) (by kernel_rfl) (by exact fun _ _ _ h => h) (Or.inr ⟨by rfl, rfl⟩) (by assumption) ?_
      try simp only [Act.put, List.setIfInBounds_toArray, List.set_cons_zero, List.set_cons_succ]
      refine wpAnyH_take (i := 10) (v := undef) (by simp only [List.getElem?_toArray, List.getElem?_cons_succ, List.getElem?_cons_zero]; rfl) (by kernel_rfl) (by kernel_rfl) (by kernel_rfl) (by exact fun _ _ _ h => h) (Or.inr ⟨by rfl, rfl⟩) (by assumption) ?_
      try simp only [Act.put, List.setIfInBounds_toArray, List.set_cons_zero, List.set_cons_succ]
      refine wpAnyH_take (i := 11) (v := undef) (by simp only [List.getElem?_toArray, List.getElem?_cons_succ, List.getElem?_cons_zero]; rfl) (by kernel_rfl) (by kernel_rfl) (by kernel_rfl) (by exact fun _ _ _ h => h) (Or.inr ⟨by rfl, rfl⟩) (by assumption) ?_
      try simp only [Act.put, List.setIfInBounds_toArray, List.set_cons_zero, List.set_cons_succ]
      refine wpAnyH_take (i := 12) (v := undef) (by simp only [List.getElem?_toArray, List.getElem?_cons_succ, List.getElem?_cons_zero]; rfl) (by kernel_rfl) (by kernel_rfl) (by kernel_rfl) (by exact fun _ _ _ h => h) (Or.inr ⟨by rfl, rfl⟩) (by assumption) ?_
      try simp only [Act.put, List.setIfInBounds_toArray, List.set_cons_zero, List.set_cons_succ]
      refine wpAnyH_take (i := 13) (v := undef) (by simp only [List.getElem?_toArray, List.getElem?_cons_succ, List.getElem?_cons_zero]; rfl) (by kernel_rfl) (by kernel_rfl) (by kernel_rfl) (by exact fun _ _ _ h => h) (Or.inr ⟨by rfl, rfl⟩) (by assumption) ?_
      try simp only [Act.put, List.setIfInBounds_toArray, List.set_cons_zero, List.set_cons_succ]
      refine wpAnyH_take (i := 14) (v := undef) (by simp only [List.getElem?_toArray, List.getElem?_cons_succ, List.getElem?_cons_zero]; rfl) (by kernel_rfl) (by kernel_rfl) (by kernel_rfl) (by exact fun _ _ _ h => h) (Or.inr ⟨by rfl, rfl⟩) (by assumption) ?_
      try simp only [Act.put, List.setIfInBounds_toArray, List.set_cons_zero, List.set_cons_succ]
      refine wpAnyH_take (i := 15) (v := undef) (by simp only [List.getElem?_toArray, List.getElem?_cons_succ, List.getElem?_cons_zero]; rfl) (by kernel_rfl) (by kernel_rfl) (by kernel_rfl) (by exact fun _ _ _ h => h) (Or.inr ⟨by rfl, rfl⟩) (by assumption) ?_
      try simp only [Act.put, List.setIfInBounds_toArray, List.set_cons_zero, List.set_cons_succ]
      refine wpAnyH_take (i := 16) (v := undef) (by simp only [List.getElem?_toArray, List.getElem?_cons_succ, List.getElem?_cons_zero]; rfl) (by kernel_rfl) (by kernel_rfl) (by kernel_rfl) (by exact fun _ _ _ h => h) (Or.inr ⟨by rfl, rfl⟩) (by assumption) ?_
      try simp only [Act.put, List.setIfInBounds_toArray, List.set_cons_zero, List.set_cons_succ]
      refine wpAnyH_take (i := 17) (v := undef) (by simp only [List.getElem?_toArray, List.getElem?_cons_succ, List.getElem?_cons_zero]; rfl) (by kernel_rfl) (by kernel_rfl) (by kernel_rfl) (by exact fun _ _ _ h => h) (Or.inr ⟨by rfl, rfl⟩) (by assumption) ?_
      try simp only [Act.put, List.setIfInBounds_toArray, List.set_cons_zero, List.set_cons_succ]
      refine wpAnyH_take (i := 18) (v := undef) (by simp only [List.getElem?_toArray, List.getElem?_cons_succ, List.getElem?_cons_zero]; rfl) (by kernel_rfl) (by kernel_rfl) (by kernel_rfl) (by exact fun _ _ _ h => h) (Or.inr ⟨by rfl, rfl⟩) (by assumption) ?_
      try simp only [Act.put, List.setIfInBounds_toArray, List.set_cons_zero, List.set_cons_succ]
      refine wpAnyH_take (i := 19) (v := undef) (by simp only [List.getElem?_toArray, List.getElem?_cons_succ, List.getElem?_cons_zero]; rfl) (by kernel_rfl) (by kernel_rfl) (by kernel_rfl) (by exact fun _ _ _ h => h) (Or.inr ⟨by rfl, rfl⟩) (by assumption) ?_
      try simp only [Act.put, List.setIfInBounds_toArray, List.set_cons_zero, List.set_cons_succ]
      refine wpAnyH_take (i := 20) (v := undef) (by simp only [List.getElem?_toArray, List.getElem?_cons_succ, List.getElem?_cons_zero]; rfl) (by kernel_rfl) (by kernel_rfl) (by kernel_rfl) (by exact fun _ _ _ h => h) (Or.inr ⟨by rfl, rfl⟩) (by assumption) ?_
      try simp only [Act.put, List.setIfInBounds_toArray, List.set_cons_zero, List.set_cons_succ]
      refine wpAnyH_take (i := 21) (v := ?_) (by simp only [List.getElem?_toArray, List.getElem?_cons_succ, List.getElem?_cons_zero]; rfl) (by kernel_rfl) (by kernel_rfl) (by kernel_rfl) (by exact fun _ _ _ h => h) (Or.inl ⟨by rfl, ?_⟩) (by assumption) ?_
      rotate_left
      · (intro w hSw; (try dsimp only at hSw); go_simp; try (with_reducible rfl))
      try simp only [Act.put, List.setIfInBounds_toArray, List.set_cons_zero, List.set_cons_succ]
      refine wpAnyH_done (by kernel_rfl) ?_ _
      have K9 : Keeps w w5 := by assumption
      go_wp2
      exact ⟨⟨k + 1, _, by omega, by go_num, rfl, HT, K9⟩, by simp only [intOf]; omega⟩
    cases c3 : decide (A < 0)
    rotate_left
    · have HT : Hid (topN ts cand (k + 1) = (k : Int)) := by show _ = _; rw [HS.out, c3]; rfl
      go_wp2_with fail
      refine wp_region_held_drew (S := (fun w' => Keeps w w')) (by kernel_rfl) ?_ (fun hHeld => ?_)
      · exact Keeps.drew (by assumption)
      refine wpAnyH_take (i := 0) (v := ?_) (by simp only [List.getElem?_toArray, List.getElem?_cons_zero]; rfl) (by kernel_rfl) (by kernel_rfl) (by kernel_rfl) (by exact fun _ _ _ h => h) (Or.inl ⟨by rfl, ?_⟩) (by assumption) ?_
      rotate_left
      · (intro w hSw; (try dsimp only at hSw); go_simp; try (with_reducible rfl))
      try simp only [Act.put, List.setIfInBounds_toArray, List.set_cons_zero, List.set_cons_succ]
      refine wpAnyH_take (i := 1) (v := ?_) (by simp only [List.getElem?_toArray, List.getElem?_cons_succ, List.getElem?_cons_zero]; rfl) (by kernel_rfl) (by kernel_rfl) (by kernel_rfl) (by exact fun _ _ _ h => h) (Or.inl ⟨by rfl, ?_⟩) (by assumption) ?_
      rotate_left
      · (intro w hSw; (try dsimp only at hSw); go_simp; try (with_reducible rfl))
      try simp only [Act.put, List.setIfInBounds_toArray, List.set_cons_zero, List.set_cons_succ]
      refine wpAnyH_take (i := 2) (v := ?_) (by simp only [List.getElem?_toArray, List.getElem?_cons_succ, List.getElem?_cons_zero]; rfl) (by kernel_rfl) (by kernel_rfl) (by kernel_rfl) (by exact fun _ _ _ h => h) (Or.inl ⟨by rfl, ?_⟩) (by assumption) ?_
      rotate_left
      · (intro w hSw; (try dsimp only at hSw); go_simp; try (with_reducible rfl))
      try simp only [Act.put, List.setIfInBounds_toArray, List.set_cons_zero, List.set_cons_succ]
      refine wpAnyH_take (i := 3) (v := ?_) (by simp only [List.getElem?_toArray, List.getElem?_cons_succ, List.getElem?_cons_zero]; rfl) (by kernel_rfl) (by kernel_rfl) (by kernel_rfl) (by exact fun _ _ _ h => h) (Or.inl ⟨by rfl, ?_⟩) (by assumption) ?_
      rotate_left
      · (intro w hSw; (try dsimp only at hSw); go_simp; try (with_reducible rfl))
      try simp only [Act.put, List.setIfInBounds_toArray, List.set_cons_zero, List.set_cons_succ]
      refine wpAnyH_take (i := 4) (v := ?_) (by simp only [List.getElem?_toArray, List.getElem?_cons_succ, List.getElem?_cons_zero]; rfl) (by kernel_rfl) (by kernel_rfl) (by kernel_rfl) (by exact fun _ _ _ h => h) (Or.inl ⟨by rfl, ?_⟩) (by assumption) ?_
      rotate_left
      · (intro w hSw; (try dsimp only at hSw); go_simp; try (with_reducible rfl))
      try simp only [Act.put, List.setIfInBounds_toArray, List.set_cons_zero, List.set_cons_succ]
      refine wpAnyH_take (i := 5) (v := ?_) (by simp only [List.getElem?_toArray, List.getElem?_cons_succ, List.getElem?_cons_zero]; rfl) (by kernel_rfl) (by kernel_rfl) (by kernel_rfl) (by exact fun _ _ _ h => h) (Or.inl ⟨by rfl, ?_⟩) (by assumption) ?_
      rotate_left
      · (intro w hSw; (try dsimp only at hSw); go_simp; try (with_reducible rfl))
      try simp only [Act.put, List.setIfInBounds_toArray, List.set_cons_zero, List.set_cons_succ]
      refine wpAnyH_ready (rs := [6]) (by kernel_rfl) (by simp) ?_
      refine AllReadyH.cons (by simp only [List.getElem?_toArray, List.getElem?_cons_succ, List.getElem?_cons_zero]; rfl) (fun K hK => ?_) AllReadyH.nil
      go_simp
      (go_at_call 59; refine (HX.out _ (by assumption)).mono ?_; rintro e w5 ⟨rfl, hb5⟩)
      try go_wp2_with fail
      refine hK.out _ _ ?_ (fun hHeld => ?_)
      · exact Keeps.trans (by assumption) (by assumption)
      clear hK K
      try simp only [Act.put, List.setIfInBounds_toArray, List.set_cons_zero, List.set_cons_succ]
      refine wpAnyH_take (i := 7) (v := ?_) (by simp only [List.getElem?_toArray, List.getElem?_cons_succ, List.getElem?_cons_zero]; rfl) (by kernel_rfl) (by kernel_rfl) (by kernel_rfl) (by exact fun _ _ _ h => h) (Or.inl ⟨by rfl, ?_⟩) (by assumption) ?_
      rotate_left
      · (intro w hSw; (try dsimp only at hSw); go_simp; try (with_reducible rfl))
      try simp only [Act.put, List.setIfInBounds_toArray, List.set_cons_zero, List.set_cons_succ]
      refine wpAnyH_take (i := 8) (v := ?_) (by simp only [List.getElem?_toArray, List.getElem?_cons_succ, List.getElem?_cons_zero]; rfl) (by kernel_rfl) (by kernel_rfl) (by kernel_rfl) (by exact fun _ _ _ h => h) (Or.inl ⟨by rfl, ?_⟩) (by assumption) ?_
      rotate_left
      · (intro w hSw; (try dsimp only at hSw); go_simp; try (with_reducible rfl))
      try simp only [Act.put, List.setIfInBounds_toArray, List.set_cons_zero, List.set_cons_succ]
      refine wpAnyH_take (i := 9) (v := ?_) (by simp only [List.getElem?_toArray, List.getElem?_cons_succ, List.getElem?_cons_zero]; rfl) (by kernel_rfl) (by kernel_rfl) (by kernel_rfl) (by exact fun _ _ _ h => h) (Or.inl ⟨by rfl, ?_⟩) (by assumption) ?_
      rotate_left
      · (intro w hSw; (try dsimp only at hSw); go_simp; try (with_reducible rfl))
      try simp only [Act.put, List.setIfInBounds_toArray, List.set_cons_zero, List.set_cons_succ]
      refine wpAnyH_take (i := 10) (v := ?_) (by simp only [List.getElem?_toArray, List.getElem?_cons_succ, List.getElem?_cons_zero]; rfl) (by kernel_rfl) (by kernel_rfl) (by kernel_rfl) (by exact fun _ _ _ h => h) (Or.inl ⟨by rfl, ?_⟩) (by assumption) ?_
      rotate_left
      · (intro w hSw; (try dsimp only at hSw); go_simp; try (with_reducible rfl))
      try simp only [Act.put, List.setIfInBounds_toArray, List.set_cons_zero, List.set_cons_succ]
      refine wpAnyH_take (i := 11) (v := undef) (by simp only [List.getElem?_toArray, List.getElem?_cons_succ, List.getElem?_cons_zero]; rfl) (by kernel_rfl) (by kernel_rfl) (by kernel_rfl) (by exact fun _ _ _ h => h) (Or.inr ⟨by rfl, rfl⟩) (by assumption) ?_
      try simp only [Act.put, List.setIfInBounds_toArray, List.set_cons_zero, List.set_cons_succ]
      refine wpAnyH_take (i := 12) (v := undef) (by simp only [List.getElem?_toArray, List.getElem?_cons_succ, List.getElem?_cons_zero]; rfl) (by kernel_rfl) (by kernel_rfl) (by kernel_rfl) (by exact fun _ _ _ h => h) (Or.inr ⟨by rfl, rfl⟩) (by assumption) ?_
      try simp only [Act.put, List.setIfInBounds_toArray, List.set_cons_zero, List.set_cons_succ]
      refine wpAnyH_take (i := 13) (v := undef) (by simp only [List.getElem?_toArray, List.getElem?_cons_succ, List.getElem?_cons_zero]; rfl) (by kernel_rfl) (by kernel_rfl) (by kernel_rfl) (by exact fun _ _ _ h => h) (Or.inr ⟨by rfl, rfl⟩) (by assumption) ?_
      try simp only [Act.put, List.setIfInBounds_toArray, List.set_cons_zero, List.set_cons_succ]
      refine wpAnyH_take (i := 14) (v := undef) (by simp only [List.getElem?_toArray, List.getElem?_cons_succ, List.getElem?_cons_zero]; rfl) (by kernel_rfl) (by kernel_rfl) (by kernel_rfl) (by exact fun _ _ _ h => h) (Or.inr ⟨by rfl, rfl⟩) (by assumption) ?_
      try simp only [Act.put, List.setIfInBounds_toArray, List.set_cons_zero, List.set_cons_succ]
      refine wpAnyH_take (i := 15) (v := undef) (by simp only [List.getElem?_toArray, List.getElem?_cons_succ, List.getElem?_cons_zero]; rfl) (by kernel_rfl) (by kernel_rfl) (by kernel_rfl) (by exact fun _ _ _ h => h) (Or.inr ⟨by rfl, rfl⟩) (by assumption) ?_
      try simp only [Act.put, List.setIfInBounds_toArray, List.set_cons_zero, List.set_cons_succ]
      refine wpAnyH_take (i := 16) (v := undef) (by simp only [List.getElem?_toArray, List.getElem?_cons_succ, List.getElem?_cons_zero]; rfl) (by kernel_rfl) (by kernel_rfl) (by kernel_rfl) (by exact fun _ _ _ h => h) (Or.inr ⟨by rfl, rfl⟩) (by assumption) ?_
      try simp only [Act.put, List.setIfInBounds_toArray, List.set_cons_zero, List.set_cons_succ]
      refine wpAnyH_take (i := 17) (v := undef) (by simp only [List.getElem?_toArray, List.getElem?_cons_succ, List.getElem?_cons_zero]; rfl) (by kernel_rfl) (by kernel_rfl) (by kernel_rfl) (by exact fun _ _ _ h => h) (Or.inr ⟨by rfl, rfl⟩) (by assumption) ?_
      try simp only [Act.put, List.setIfInBounds_toArray, List.set_cons_zero, List.set_cons_succ]
      refine wpAnyH_take (i := 18) (v := undef) (by simp only [List.getElem?_toArray, List.getElem?_cons_succ, List.getElem?_cons_zero]; rfl) (by kernel_rfl) (by kernel_rfl) (by kernel_rfl) (by exact fun _ _ _ h => h) (Or.inr ⟨by rfl, rfl⟩) (by assumption) ?_
      try simp only [Act.put, List.setIfInBounds_toArray, List.set_cons_zero, List.set_cons_succ]
      refine wpAnyH_take (i := 19) (v := undef) (by simp only [List.getElem?_toArray, List.getElem?_cons_succ, List.getElem?_cons_zero]; rfl) (by kernel_rfl) (by kernel_rfl) (by kernel_rfl) (by exact fun _ _ _ h => h) (Or.inr ⟨by rfl, rfl⟩) (by assumption) ?_
      try simp only [Act.put, List.setIfInBounds_toArray, List.set_cons_zero, List.set_cons_succ]
      refine wpAnyH_take (i := 20) (v := ?_) (by simp only [List.getElem?_toArray, List.getElem?_cons_succ, List.getElem?_cons_zero]; rfl) (by kernel_rfl) (by kernel_rfl) (by kernel_rfl) (by exact fun _ _ _ h => h) (Or.inl ⟨by rfl, ?_⟩) (by assumption) ?_
      rotate_left
      · (intro w hSw; (try dsimp only at hSw); go_simp; try (with_reducible rfl))
      try simp only [Act.put, List.setIfInBounds_toArray, List.set_cons_zero, List.set_cons_succ]
      refine wpAnyH_take (i := 21) (v := ?_) (by simp only [List.getElem?_toArray, List.getElem?_cons_succ, List.getElem?_cons_zero]; rfl) (by kernel_rfl) (by kernel_rfl) (by kernel_rfl) (by exact fun _ _ _ h => h) (Or.inl ⟨by rfl, ?_⟩) (by assumption) ?_
      rotate_left
      · (intro w hSw; (try dsimp only at hSw); go_simp; try (with_reducible rfl))
      try simp only [Act.put, List.setIfInBounds_toArray, List.set_cons_zero, List.set_cons_succ]
      refine wpAnyH_done (by kernel_rfl) ?_ _
      have K9 : Keeps w w5 := by assumption
      go_wp2
      exact ⟨⟨k + 1, _, by omega, by go_num, rfl, HT, K9⟩, by simp only [intOf]; omega⟩
    have hA0 : 0 ≤ A := by simpa using c3
    obtain ⟨j, rfl⟩ := Int.eq_ofNat_of_zero_le hA0
    have hj : j < n := by omega
    have hj' : (j : Int) < (n : Int) := by omega
    obtain ⟨u, hu⟩ := some_at (xs := ts) (k := j) (by rw [Hn.out]; exact hj)
    obtain ⟨r2, r3⟩ := AL.out j u hu
    have eu : ts.getD (j : Int).toNat Tsk.zero = u := by rw [Int.toNat_natCast]; exact getD_of hu
    rw [eu] at HS
    clear hu eu
    cases c4 : befB t u
    · have HT : Hid (topN ts cand (k + 1) = (j : Int)) := by show _ = _; rw [HS.out, c3, c4]; rfl
      go_wp2_with fail
      refine wp_region_held_drew (S := (fun w' => Keeps w w')) (by kernel_rfl) ?_ (fun hHeld => ?_)
      · exact Keeps.drew (by assumption)
      refine wpAnyH_take (i := 0) (v := ?_) (by simp only [List.getElem?_toArray, List.getElem?_cons_zero]; rfl) (by kernel_rfl) (by kernel_rfl) (by kernel_rfl) (by exact fun _ _ _ h => h) (Or.inl ⟨by rfl, ?_⟩) (by assumption) ?_
      rotate_left
      · (intro w hSw; (try dsimp only at hSw); go_simp; try (with_reducible rfl))
      try simp only [Act.put, List.setIfInBounds_toArray, List.set_cons_zero, List.set_cons_succ]
      refine wpAnyH_take (i := 1) (v := ?_) (by simp only [List.getElem?_toArray, List.getElem?_cons_succ, List.getElem?_cons_zero]; rfl) (by kernel_rfl) (by kernel_rfl) (by kernel_rfl) (by exact fun _ _ _ h => h) (Or.inl ⟨by rfl, ?_⟩) (by assumption) ?_
      rotate_left
      · (intro w hSw; (try dsimp only at hSw); go_simp; try (with_reducible rfl))
      try simp only [Act.put, List.setIfInBounds_toArray, List.set_cons_zero, List.set_cons_succ]
      refine wpAnyH_take (i := 2) (v := ?_) (by simp only [List.getElem?_toArray, List.getElem?_cons_succ, List.getElem?_cons_zero]; rfl) (by kernel_rfl) (by kernel_rfl) (by kernel_rfl) (by exact fun _ _ _ h => h) (Or.inl ⟨by rfl, ?_⟩) (by assumption) ?_
      rotate_left
      · (intro w hSw; (try dsimp only at hSw); go_simp; try (with_reducible rfl))
      try simp only [Act.put, List.setIfInBounds_toArray, List.set_cons_zero, List.set_cons_succ]
      refine wpAnyH_take (i := 3) (v := ?_) (by simp only [List.getElem?_toArray, List.getElem?_cons_succ, List.getElem?_cons_zero]; rfl) (by kernel_rfl) (by kernel_rfl) (by kernel_rfl) (by exact fun _ _ _ h => h) (Or.inl ⟨by rfl, ?_⟩) (by assumption) ?_
      rotate_left
      · (intro w hSw; (try dsimp only at hSw); go_simp; try (with_reducible rfl))
      try simp only [Act.put, List.setIfInBounds_toArray, List.set_cons_zero, List.set_cons_succ]
      refine wpAnyH_take (i := 4) (v := ?_) (by simp only [List.getElem?_toArray, List.getElem?_cons_succ, List.getElem?_cons_zero]; rfl) (by kernel_rfl) (by kernel_rfl) (by kernel_rfl) (by exact fun _ _ _ h => h) (Or.inl ⟨by rfl, ?_⟩) (by assumption) ?_
      rotate_left
      · (intro w hSw; (try dsimp only at hSw); go_simp; try (with_reducible rfl))
      try simp only [Act.put, List.setIfInBounds_toArray, List.set_cons_zero, List.set_cons_succ]
      refine wpAnyH_take (i := 5) (v := ?_) (by simp only [List.getElem?_toArray, List.getElem?_cons_succ, List.getElem?_cons_zero]; rfl) (by kernel_rfl) (by kernel_rfl) (by kernel_rfl) (by exact fun _ _ _ h => h) (Or.inl ⟨by rfl, ?_⟩) (by assumption) ?_
      rotate_left
      · (intro w hSw; (try dsimp only at hSw); go_simp; try (with_reducible rfl))
      try simp only [Act.put, List.setIfInBounds_toArray, List.set_cons_zero, List.set_cons_succ]
      refine wpAnyH_ready (rs := [6]) (by kernel_rfl) (by simp) ?_
      refine AllReadyH.cons (by simp only [List.getElem?_toArray, List.getElem?_cons_succ, List.getElem?_cons_zero]; rfl) (fun K hK => ?_) AllReadyH.nil
      go_simp
      first
        | (go_at_call 59; refine (HX.out _ (by assumption)).mono ?_; rintro e w5 ⟨rfl, hb5⟩)
        | (go_at_call 11; refine (specBefore_any t u _).mono ?_; rintro e w6 ⟨rfl, hb6⟩; rw [c4])
      try go_wp2_with fail
      refine hK.out _ _ ?_ (fun hHeld => ?_)
      · exact Keeps.trans (by assumption) (by assumption)
      clear hK K
      try simp only [Act.put, List.setIfInBounds_toArray, List.set_cons_zero, List.set_cons_succ]
      refine wpAnyH_take (i := 7) (v := ?_) (by simp only [List.getElem?_toArray, List.getElem?_cons_succ, List.getElem?_cons_zero]; rfl) (by kernel_rfl) (by kernel_rfl) (by kernel_rfl) (by exact fun _ _ _ h => h) (Or.inl ⟨by rfl, ?_⟩) (by assumption) ?_
      rotate_left
      · (intro w hSw; (try dsimp only at hSw); go_simp; try (with_reducible rfl))
      try simp only [Act.put, List.setIfInBounds_toArray, List.set_cons_zero, List.set_cons_succ]
      refine wpAnyH_take (i := 8) (v := ?_) (by simp only [List.getElem?_toArray, List.getElem?_cons_succ, List.getElem?_cons_zero]; rfl) (by kernel_rfl) (by kernel_rfl) (by kernel_rfl) (by exact fun _ _ _ h => h) (Or.inl ⟨by rfl, ?_⟩) (by assumption) ?_
      rotate_left
      · (intro w hSw; (try dsimp only at hSw); go_simp; try (with_reducible rfl))
      try simp only [Act.put, List.setIfInBounds_toArray, List.set_cons_zero, List.set_cons_succ]
      refine wpAnyH_take (i := 9) (v := ?_) (by simp only [List.getElem?_toArray, List.getElem?_cons_succ, List.getElem?_cons_zero]; rfl) (by kernel_rfl) (by kernel_rfl) (by kernel_rfl) (by exact fun _ _ _ h => h) (Or.inl ⟨by rfl, ?_⟩) (by assumption) ?_
      rotate_left
      · (intro w hSw; (try dsimp only at hSw); go_simp; try (with_reducible rfl))
      try simp only [Act.put, List.setIfInBounds_toArray, List.set_cons_zero, List.set_cons_succ]
      refine wpAnyH_take (i := 10) (v := ?_) (by simp only [List.getElem?_toArray, List.getElem?_cons_succ, List.getElem?_cons_zero]; rfl) (by kernel_rfl) (by kernel_rfl) (by kernel_rfl) (by exact fun _ _ _ h => h) (Or.inl ⟨by rfl, ?_⟩) (by assumption) ?_
      rotate_left
      · (intro w hSw; (try dsimp only at hSw); go_simp; try (with_reducible rfl))
      try simp only [Act.put, List.setIfInBounds_toArray, List.set_cons_zero, List.set_cons_succ]
      refine wpAnyH_take (i := 11) (v := ?_) (by simp only [List.getElem?_toArray, List.getElem?_cons_succ, List.getElem?_cons_zero]; rfl) (by kernel_rfl) (by kernel_rfl) (by kernel_rfl) (by exact fun _ _ _ h => h) (Or.inl ⟨by rfl, ?_⟩) (by assumption) ?_
      rotate_left
      · (intro w hSw; (try dsimp only at hSw); go_simp; try (with_reducible rfl))
      try simp only [Act.put, List.setIfInBounds_toArray, List.set_cons_zero, List.set_cons_succ]
      refine wpAnyH_take (i := 12) (v := ?_) (by simp only [List.getElem?_toArray, List.getElem?_cons_succ, List.getElem?_cons_zero]; rfl) (by kernel_rfl) (by kernel_rfl) (by kernel_rfl) (by exact fun _ _ _ h => h) (Or.inl ⟨by rfl, ?_⟩) (by assumption) ?_
      rotate_left
      · (intro w hSw; (try dsimp only at hSw); go_simp; try (with_reducible rfl))
      try simp only [Act.put, List.setIfInBounds_toArray, List.set_cons_zero, List.set_cons_succ]
      refine wpAnyH_take (i := 13) (v := ?_) (by simp only [List.getElem?_toArray, List.getElem?_cons_succ, List.getElem?_cons_zero]; rfl) (by kernel_rfl) (by kernel_rfl) (by kernel_rfl) (by exact fun _ _ _ h => h) (Or.inl ⟨by rfl, ?_⟩) (by assumption) ?_
      rotate_left
      · (intro w hSw; (try dsimp only at hSw); go_simp; try (with_reducible rfl))
      try simp only [Act.put, List.setIfInBounds_toArray, List.set_cons_zero, List.set_cons_succ]
      refine wpAnyH_take (i := 14) (v := ?_) (by simp only [List.getElem?_toArray, List.getElem?_cons_succ, List.getElem?_cons_zero]; rfl) (by kernel_rfl) (by kernel_rfl) (by kernel_rfl) (by exact fun _ _ _ h => h) (Or.inl ⟨by rfl, ?_⟩) (by assumption) ?_
      rotate_left
      · (intro w hSw; (try dsimp only at hSw); go_simp; try (with_reducible rfl))
      try simp only [Act.put, List.setIfInBounds_toArray, List.set_cons_zero, List.set_cons_succ]
      refine wpAnyH_take (i := 15) (v := ?_) (by simp only [List.getElem?_toArray, List.getElem?_cons_succ, List.getElem?_cons_zero]; rfl) (by kernel_rfl) (by kernel_rfl) (by kernel_rfl) (by exact fun _ _ _ h => h) (Or.inl ⟨by rfl, ?_⟩) (by assumption) ?_
      rotate_left
      · (intro w hSw; (try dsimp only at hSw); go_simp; try (with_reducible rfl))
      try simp only [Act.put, List.setIfInBounds_toArray, List.set_cons_zero, List.set_cons_succ]
      refine wpAnyH_take (i := 16) (v := ?_) (by simp only [List.getElem?_toArray, List.getElem?_cons_succ, List.getElem?_cons_zero]; rfl) (by kernel_rfl) (by kernel_rfl) (by kernel_rfl) (by exact fun _ _ _ h => h) (Or.inl ⟨by rfl, ?_⟩) (by assumption) ?_
      rotate_left
      · (intro w hSw; (try dsimp only at hSw); go_simp; try (with_reducible rfl))
      try simp only [Act.put, List.setIfInBounds_toArray, List.set_cons_zero, List.set_cons_succ]
      refine wpAnyH_take (i := 17) (v := ?_) (by simp only [List.getElem?_toArray, List.getElem?_cons_succ, List.getElem?_cons_zero]; rfl) (by kernel_rfl) (by kernel_rfl) (by kernel_rfl) (by exact fun _ _ _ h => h) (Or.inl ⟨by rfl, ?_⟩) (by assumption) ?_
      rotate_left
      · (intro w hSw; (try dsimp only at hSw); go_simp; try (with_reducible rfl))
      try simp only [Act.put, List.setIfInBounds_toArray, List.set_cons_zero, List.set_cons_succ]
      refine wpAnyH_take (i := 18) (v := ?_) (by simp only [List.getElem?_toArray, List.getElem?_cons_succ, List.getElem?_cons_zero]; rfl) (by kernel_rfl) (by kernel_rfl) (by kernel_rfl) (by exact fun _ _ _ h => h) (Or.inl ⟨by rfl, ?_⟩) (by assumption) ?_
      rotate_left
      · (intro w hSw; (try dsimp only at hSw); go_simp; try (with_reducible rfl))
      try simp only [Act.put, List.setIfInBounds_toArray, List.set_cons_zero, List.set_cons_succ]
      refine wpAnyH_ready (rs := [19]) (by kernel_rfl) (by simp) ?_
      refine AllReadyH.cons (by simp only [List.getElem?_toArray, List.getElem?_cons_succ, List.getElem?_cons_zero]; rfl) (fun K hK => ?_) AllReadyH.nil
      go_simp
      first
        | (go_at_call 59; refine (HX.out _ (by assumption)).mono ?_; rintro e w5 ⟨rfl, hb5⟩)
        | (go_at_call 11; refine (specBefore_any t u _).mono ?_; rintro e w6 ⟨rfl, hb6⟩; rw [c4])
      try go_wp2_with fail
      refine hK.out _ _ ?_ (fun hHeld => ?_)
      · exact Keeps.trans (by assumption) (by assumption)
      clear hK K
      try simp only [Act.put, List.setIfInBounds_toArray, List.set_cons_zero, List.set_cons_succ]
      refine wpAnyH_take (i := 20) (v := ?_) (by simp only [List.getElem?_toArray, List.getElem?_cons_succ, List.getElem?_cons_zero]; rfl) (by kernel_rfl) (by kernel_rfl) (by kernel_rfl) (by exact fun _ _ _ h => h) (Or.inl ⟨by rfl, ?_⟩) (by assumption) ?_
      rotate_left
      · (intro w hSw; (try dsimp only at hSw); go_simp; try (with_reducible rfl))
      try simp only [Act.put, List.setIfInBounds_toArray, List.set_cons_zero, List.set_cons_succ]
      refine wpAnyH_take (i := 21) (v := ?_) (by simp only [List.getElem?_toArray, List.getElem?_cons_succ, List.getElem?_cons_zero]; rfl) (by kernel_rfl) (by kernel_rfl) (by kernel_rfl) (by exact fun _ _ _ h => h) (Or.inl ⟨by rfl, ?_⟩) (by assumption) ?_
      rotate_left
      · (intro w hSw; (try dsimp only at hSw); go_simp; try (with_reducible rfl))
      try simp only [Act.put, List.setIfInBounds_toArray, List.set_cons_zero, List.set_cons_succ]
      refine wpAnyH_done (by kernel_rfl) ?_ _
      have K9 : Keeps w w6 := by assumption
      go_wp2
      exact ⟨⟨k + 1, _, by omega, by go_num, rfl, HT, K9⟩, by simp only [intOf]; omega⟩
    · have HT : Hid (topN ts cand (k + 1) = (k : Int)) := by show _ = _; rw [HS.out, c3, c4]; rfl
      go_wp2_with fail
      refine wp_region_held_drew (S := (fun w' => Keeps w w')) (by kernel_rfl) ?_ (fun hHeld => ?_)
      · exact Keeps.drew (by assumption)
      refine wpAnyH_take (i := 0) (v := ?_) (by simp only [List.getElem?_toArray, List.getElem?_cons_zero]; rfl) (by kernel_rfl) (by kernel_rfl) (by kernel_rfl) (by exact fun _ _ _ h => h) (Or.inl ⟨by rfl, ?_⟩) (by assumption) ?_
      rotate_left
      · (intro w hSw; (try dsimp only at hSw); go_simp; try (with_reducible rfl))
      try simp only [Act.put, List.setIfInBounds_toArray, List.set_cons_zero, List.set_cons_succ]
      refine wpAnyH_take (i := 1) (v := ?_) (by simp only [List.getElem?_toArray, List.getElem?_cons_succ, List.getElem?_cons_zero]; rfl) (by kernel_rfl) (by kernel_rfl) (by kernel_rfl) (by exact fun _ _ _ h => h) (Or.inl ⟨by rfl, ?_⟩) (by assumption) ?_
      rotate_left
      · (intro w hSw; (try dsimp only at hSw); go_simp; try (with_reducible rfl))
      try simp only [Act.put, List.setIfInBounds_toArray, List.set_cons_zero, List.set_cons_succ]
      refine wpAnyH_take (i := 2) (v := ?_) (by simp only [List.getElem?_toArray, List.getElem?_cons_succ, List.getElem?_cons_zero]; rfl) (by kernel_rfl) (by kernel_rfl) (by kernel_rfl) (by exact fun _ _ _ h => h) (Or.inl ⟨by rfl, ?_⟩) (by assumption) ?_
      rotate_left
      · (intro w hSw; (try dsimp only at hSw); go_simp; try (with_reducible rfl))
      try simp only [Act.put, List.setIfInBounds_toArray, List.set_cons_zero, List.set_cons_succ]
      refine wpAnyH_take (i := 3) (v := ?_) (by simp only [List.getElem?_toArray, List.getElem?_cons_succ, List.getElem?_cons_zero]; rfl) (by kernel_rfl) (by kernel_rfl) (by kernel_rfl) (by exact fun _ _ _ h => h) (Or.inl ⟨by rfl, ?_⟩) (by assumption) ?_
      rotate_left
      · (intro w hSw; (try dsimp only at hSw); go_simp; try (with_reducible rfl))
      try simp only [Act.put, List.setIfInBounds_toArray, List.set_cons_zero, List.set_cons_succ]
      refine wpAnyH_take (i := 4) (v := ?_) (by simp only [List.getElem?_toArray, List.getElem?_cons_succ, List.getElem?_cons_zero]; rfl) (by kernel_rfl) (by kernel_rfl) (by kernel_rfl) (by exact fun _ _ _ h => h) (Or.inl ⟨by rfl, ?_⟩) (by assumption) ?_
      rotate_left
      · (intro w hSw; (try dsimp only at hSw); go_simp; try (with_reducible rfl))
      try simp only [Act.put, List.setIfInBounds_toArray, List.set_cons_zero, List.set_cons_succ]
      refine wpAnyH_take (i := 5) (v := ?_) (by simp only [List.getElem?_toArray, List.getElem?_cons_succ, List.getElem?_cons_zero]; rfl) (by kernel_rfl) (by kernel_rfl) (by kernel_rfl) (by exact fun _ _ _ h => h) (Or.inl ⟨by rfl, ?_⟩) (by assumption) ?_
      rotate_left
      · (intro w hSw; (try dsimp only at hSw); go_simp; try (with_reducible rfl))
      try simp only [Act.put, List.setIfInBounds_toArray, List.set_cons_zero, List.set_cons_succ]
      refine wpAnyH_ready (rs := [6]) (by kernel_rfl) (by simp) ?_
      refine AllReadyH.cons (by simp only [List.getElem?_toArray, List.getElem?_cons_succ, List.getElem?_cons_zero]; rfl) (fun K hK => ?_) AllReadyH.nil
      go_simp
      first
        | (go_at_call 59; refine (HX.out _ (by assumption)).mono ?_; rintro e w5 ⟨rfl, hb5⟩)
        | (go_at_call 11; refine (specBefore_any t u _).mono ?_; rintro e w6 ⟨rfl, hb6⟩; rw [c4])
      try go_wp2_with fail
      refine hK.out _ _ ?_ (fun hHeld => ?_)
      · exact Keeps.trans (by assumption) (by assumption)
      clear hK K
      try simp only [Act.put, List.setIfInBounds_toArray, List.set_cons_zero, List.set_cons_succ]
      refine wpAnyH_take (i := 7) (v := ?_) (by simp only [List.getElem?_toArray, List.getElem?_cons_succ, List.getElem?_cons_zero]; rfl) (by kernel_rfl) (by kernel_rfl) (by kernel_rfl) (by exact fun _ _ _ h => h) (Or.inl ⟨by rfl, ?_⟩) (by assumption) ?_
      rotate_left
      · (intro w hSw; (try dsimp only at hSw); go_simp; try (with_reducible rfl))
      try simp only [Act.put, List.setIfInBounds_toArray, List.set_cons_zero, List.set_cons_succ]
      refine wpAnyH_take (i := 8) (v := ?_) (by simp only [List.getElem?_toArray, List.getElem?_cons_succ, List.getElem?_cons_zero]; rfl) (by kernel_rfl) (by kernel_rfl) (by kernel_rfl) (by exact fun _ _ _ h => h) (Or.inl ⟨by rfl, ?_⟩) (by assumption) ?_
      rotate_left
      · (intro w hSw; (try dsimp only at hSw); go_simp; try (with_reducible rfl))
      try simp only [Act.put, List.setIfInBounds_toArray, List.set_cons_zero, List.set_cons_succ]
      refine wpAnyH_take (i := 9) (v := ?_) (by simp only [List.getElem?_toArray, List.getElem?_cons_succ, List.getElem?_cons_zero]; rfl) (by kernel_rfl) (by kernel_rfl) (by kernel_rfl) (by exact fun _ _ _ h => h) (Or.inl ⟨by rfl, ?_⟩) (by assumption) ?_
      rotate_left
      · (intro w hSw; (try dsimp only at hSw); go_simp; try (with_reducible rfl))
      try simp only [Act.put, List.setIfInBounds_toArray, List.set_cons_zero, List.set_cons_succ]
      refine wpAnyH_take (i := 10) (v := ?_) (by simp only [List.getElem?_toArray, List.getElem?_cons_succ, List.getElem?_cons_zero]; rfl) (by kernel_rfl) (by kernel_rfl) (by kernel_rfl) (by exact fun _ _ _ h => h) (Or.inl ⟨by rfl, ?_⟩) (by assumption) ?_
      rotate_left
      · (intro w hSw; (try dsimp only at hSw); go_simp; try (with_reducible rfl))
      try simp only [Act.put, List.setIfInBounds_toArray, List.set_cons_zero, List.set_cons_succ]
      refine wpAnyH_take (i := 11) (v := ?_) (by simp only [List.getElem?_toArray, List.getElem?_cons_succ, List.getElem?_cons_zero]; rfl) (by kernel_rfl) (by kernel_rfl) (by kernel_rfl) (by exact fun _ _ _ h => h) (Or.inl ⟨by rfl, ?_⟩) (by assumption) ?_
      rotate_left
      · (intro w hSw; (try dsimp only at hSw); go_simp; try (with_reducible rfl))
      try simp only [Act.put, List.setIfInBounds_toArray, List.set_cons_zero, List.set_cons_succ]
      refine wpAnyH_take (i := 12) (v := ?_) (by simp only [List.getElem?_toArray, List.getElem?_cons_succ, List.getElem?_cons_zero]; rfl) (by kernel_rfl) (by kernel_rfl) (by kernel_rfl) (by exact fun _ _ _ h => h) (Or.inl ⟨by rfl, ?_⟩) (by assumption) ?_
      rotate_left
      · (intro w hSw; (try dsimp only at hSw); go_simp; try (with_reducible rfl))
      try simp only [Act.put, List.setIfInBounds_toArray, List.set_cons_zero, List.set_cons_succ]
      refine wpAnyH_take (i := 13) (v := ?_) (by simp only [List.getElem?_toArray, List.getElem?_cons_succ, List.getElem?_cons_zero]; rfl) (by kernel_rfl) (by kernel_rfl) (by kernel_rfl) (by exact fun _ _ _ h => h) (Or.inl ⟨by rfl, ?_⟩) (by assumption) ?_
      rotate_left
      · (intro w hSw; (try dsimp only at hSw); go_simp; try (with_reducible rfl))
      try simp only [Act.put, List.setIfInBounds_toArray, List.set_cons_zero, List.set_cons_succ]
      refine wpAnyH_take (i := 14) (v := ?_) (by simp only [List.getElem?_toArray, List.getElem?_cons_succ, List.getElem?_cons_zero]; rfl) (by kernel_rfl) (by kernel_rfl) (by kernel_rfl) (by exact fun _ _ _ h => h) (Or.inl ⟨by rfl, ?_⟩) (by assumption) ?_
      rotate_left
      · (intro w hSw; (try dsimp only at hSw); go_simp; try (with_reducible rfl))
      try simp only [Act.put, List.setIfInBounds_toArray, List.set_cons_zero, List.set_cons_succ]
      refine wpAnyH_take (i := 15) (v := ?_) (by simp only [List.getElem?_toArray, List.getElem?_cons_succ, List.getElem?_cons_zero]; rfl) (by kernel_rfl) (by kernel_rfl) (by kernel_rfl) (by exact fun _ _ _ h => h) (Or.inl ⟨by rfl, ?_⟩) (by assumption) ?_
      rotate_left
      · (intro w hSw; (try dsimp only at hSw); go_simp; try (with_reducible rfl))
      try simp only [Act.put, List.setIfInBounds_toArray, List.set_cons_zero, List.set_cons_succ]
      refine wpAnyH_take (i := 16) (v := ?_) (by simp only [List.getElem?_toArray, List.getElem?_cons_succ, List.getElem?_cons_zero]; rfl) (by kernel_rfl) (by kernel_rfl) (by kernel_rfl) (by exact fun _ _ _ h => h) (Or.inl ⟨by rfl, ?_⟩) (by assumption) ?_
      rotate_left
      · (intro w hSw; (try dsimp only at hSw); go_simp; try (with_reducible rfl))
      try simp only [Act.put, List.setIfInBounds_toArray, List.set_cons_zero, List.set_cons_succ]
      refine wpAnyH_take (i := 17) (v := ?_) (by simp only [List.getElem?_toArray, List.getElem?_cons_succ, List.getElem?_cons_zero]; rfl) (by kernel_rfl) (by kernel_rfl) (by kernel_rfl) (by exact fun _ _ _ h => h) (Or.inl ⟨by rfl, ?_⟩) (by assumption) ?_
      rotate_left
      · (intro w hSw; (try dsimp only at hSw); go_simp; try (with_reducible rfl))
      try simp only [Act.put, List.setIfInBounds_toArray, List.set_cons_zero, List.set_cons_succ]
      refine wpAnyH_take (i := 18) (v := ?_) (by simp only [List.getElem?_toArray, List.getElem?_cons_succ, List.getElem?_cons_zero]; rfl) (by kernel_rfl) (by kernel_rfl) (by kernel_rfl) (by exact fun _ _ _ h => h) (Or.inl ⟨by rfl, ?_⟩) (by assumption) ?_
      rotate_left
      · (intro w hSw; (try dsimp only at hSw); go_simp; try (with_reducible rfl))
      try simp only [Act.put, List.setIfInBounds_toArray, List.set_cons_zero, List.set_cons_succ]
      refine wpAnyH_ready (rs := [19]) (by kernel_rfl) (by simp) ?_
      refine AllReadyH.cons (by simp only [List.getElem?_toArray, List.getElem?_cons_succ, List.getElem?_cons_zero]; rfl) (fun K hK => ?_) AllReadyH.nil
      go_simp
      first
        | (go_at_call 59; refine (HX.out _ (by assumption)).mono ?_; rintro e w5 ⟨rfl, hb5⟩)
        | (go_at_call 11; refine (specBefore_any t u _).mono ?_; rintro e w6 ⟨rfl, hb6⟩; rw [c4])
      try go_wp2_with fail
      refine hK.out _ _ ?_ (fun hHeld => ?_)
      · exact Keeps.trans (by assumption) (by assumption)
      clear hK K
      try simp only [Act.put, List.setIfInBounds_toArray, List.set_cons_zero, List.set_cons_succ]
      refine wpAnyH_take (i := 20) (v := ?_) (by simp only [List.getElem?_toArray, List.getElem?_cons_succ, List.getElem?_cons_zero]; rfl) (by kernel_rfl) (by kernel_rfl) (by kernel_rfl) (by exact fun _ _ _ h => h) (Or.inl ⟨by rfl, ?_⟩) (by assumption) ?_
      rotate_left
      · (intro w hSw; (try dsimp only at hSw); go_simp; try (with_reducible rfl))
      try simp only [Act.put, List.setIfInBounds_toArray, List.set_cons_zero, List.set_cons_succ]
      refine wpAnyH_take (i := 21) (v := ?_) (by simp only [List.getElem?_toArray, List.getElem?_cons_succ, List.getElem?_cons_zero]; rfl) (by kernel_rfl) (by kernel_rfl) (by kernel_rfl) (by exact fun _ _ _ h => h) (Or.inl ⟨by rfl, ?_⟩) (by assumption) ?_
      rotate_left
      · (intro w hSw; (try dsimp only at hSw); go_simp; try (with_reducible rfl))
      try simp only [Act.put, List.setIfInBounds_toArray, List.set_cons_zero, List.set_cons_succ]
      refine wpAnyH_done (by kernel_rfl) ?_ _
      have K9 : Keeps w w6 := by assumption
      go_wp2
      exact ⟨⟨k + 1, _, by omega, by go_num, rfl, HT, K9⟩, by simp only [intOf]; omega⟩
  · have e : k = n := by omega
    subst e
    have hlt' : decide ((k : Int) < (k : Int)) = false := by simp
    cases c3 : decide (A < 0)
    rotate_left
    · have Hr : Hid (bestI ts xs = 0) := by show _ = _; rw [HP.out, HA.out]; unfold noAt; rw [if_pos (of_decide_eq_true c3)]
      go_wp2
      go_ret
      exact ⟨by rw [Hr.out]; rfl, hK⟩
    · have hA0 : 0 ≤ A := by simpa using c3
      obtain ⟨j, rfl⟩ := Int.eq_ofNat_of_zero_le hA0
      have hj : j < k := by omega
      have hj' : (j : Int) < (k : Int) := by omega
      obtain ⟨u, hu⟩ := some_at (xs := ts) (k := j) (by rw [Hn.out]; exact hj)
      have Hr : Hid (bestI ts xs = u.no) := by show _ = _; rw [HP.out, HA.out]; unfold noAt; rw [if_neg (of_decide_eq_false c3), Int.toNat_natCast, getD_of hu]
      obtain ⟨ba, off, rfl, all⟩ := H.out.all (by omega)
      obtain ⟨r0, r1⟩ := all j u hu
      clear all hu
      go_wp2
      go_ret
      exact ⟨by rw [Hr.out]; rfl, hK⟩
end Go.Proofs.Ytojfjafaeabkfaa
namespace Go.Proofs.Ytojfjafaeabkfaa
open Go.RowKit
variable {p : Bool}
attribute [local go_sem] Keeps.refl Keeps.alloc Keeps.drew Keeps.drewN

/-- What the program's functions are held to. -/
def SaysBefore : Prop := ∀ (a b : Tsk) (w : World), Calls Try.prog 13 #[tk a, tk b] w fun e w' => e = .returned (.bool (befB a b)) ∧ Keeps w w'
def SaysExecutor : Prop := ∀ (w : World) (a : Option Addr) (n cap : Nat) (ts : List Tsk) (b : Option Addr) (m cap2 : Nat) (ls : List Lk) (no : Int), n ≤ cap → Two w a n cap ts b m cap2 ls → Calls Try.prog 19 #[.slice a n cap, .slice b m cap2, .int .i64 no] w fun e w' => e = .returned (.int .i64 (execP ts ls no)) ∧ Keeps w w'
def SaysAble : Prop := ∀ (w : World) (a : Option Addr) (n cap : Nat) (ts : List Tsk) (b : Option Addr) (m cap2 : Nat) (ls : List Lk) (no : Int), n ≤ cap → Two w a n cap ts b m cap2 ls → Calls Try.prog 23 #[.slice a n cap, .slice b m cap2, .int .i64 no] w fun e w' => e = .returned (.bool (ableP ts ls no)) ∧ Keeps w w'
def SaysCanTurn : Prop := ∀ (w : World) (a : Option Addr) (n cap : Nat) (ts : List Tsk) (b : Option Addr) (m cap2 : Nat) (ls : List Lk) (no : Int), n ≤ cap → Two w a n cap ts b m cap2 ls → Calls Try.prog 25 #[.slice a n cap, .slice b m cap2, .int .i64 no] w fun e w' => e = .returned (.bool (canP ts ls no)) ∧ Keeps w w'
def SaysBestOf : Prop := ∀ (w : World) (a : Option Addr) (n cap : Nat) (ts : List Tsk) (b : Option Addr) (cap2 : Nat) (xs : List Int), n ≤ cap → xs.length ≤ cap2 → xs.length ≤ maxLen → OnT w a n cap ts → Ns w b xs → Calls Try.prog 28 #[.slice a n cap, .slice b xs.length cap2] w fun e w' => e = .returned (.int .i64 (bestI ts xs)) ∧ Keeps w w'

set_option maxRecDepth 100000 in
theorem toTaskS_on (a : Option Addr) (cap : Nat) (ts : List Tsk) (w : World) (hl : ts.length ≤ 1048576) (hs : Ts w a ts) :
    Calls Try.prog 17 #[.slice a ts.length cap] w fun e w' => ∃ b, e = .returned (.slice (some ⟨b, 0, none⟩) ts.length ts.length) ∧ OnT w' (some ⟨b, 0, none⟩) ts.length ts.length ts ∧ Keeps w w' := by
  refine (toTaskS_any a cap ts w hl hs).mono ?_
  rintro e w' ⟨b, rfl, h1, -, -, k⟩
  exact ⟨b, rfl, ⟨rfl, by unfold maxLen; omega, h1⟩, k⟩
set_option maxRecDepth 100000 in
theorem toLockS_on (a : Option Addr) (cap : Nat) (ls : List Lk) (w : World) (hl : sizeN ls ≤ 1048576) (hs : Lks p w a ls) :
    Calls Try.prog 18 #[.slice a ls.length cap] w fun e w' => ∃ b, e = .returned (.slice (some ⟨b, 0, none⟩) ls.length ls.length) ∧ On w' (some ⟨b, 0, none⟩) ls.length ls.length ls ∧ Keeps w w' := by
  refine (toLockS_all a cap ls w hl hs).mono ?_
  rintro e w' ⟨b, vs, rfl, -, L, P, k⟩
  exact ⟨b, rfl, ⟨rfl, by omega, L, P⟩, k⟩

set_option maxRecDepth 100000 in
set_option maxHeartbeats 1000000 in
theorem exactBefore_walk (H : SaysBefore) (a b : Tsk) (w : World) :
    Calls Try.prog 3 #[tk a, tk b] w fun e w' => e = .returned (.bool true) ∧ Keeps w w' := by
  obtain ⟨g, Hg⟩ : ∃ g, Hid (befB a b = g) := ⟨_, rfl⟩
  have hne : (g != g) = false := by simp
  have HH : Hid SaysBefore := H
  clear H
  go_enter Try.func3, Try.ntmps3
  go_wp2_with fail
  have kW : Keeps w ((w.alloc (.cells (tc a) 23)).alloc (.cells (tc b) 23)) := ((Keeps.refl w).alloc _).alloc _
  have r1 : ∀ w', Keeps ((w.alloc (.cells (tc a) 23)).alloc (.cells (tc b) 23)) w' → ∀ k, w'.cell? ⟨w.heap.size, k, none⟩ = (tc a)[k]? := fun w' h => (((Blk.new w (tc a) 23).alloc _).keeps h).cells
  have r2 : ∀ w', Keeps ((w.alloc (.cells (tc a) 23)).alloc (.cells (tc b) 23)) w' → ∀ k, w'.cell? ⟨w.heap.size + 1, k, none⟩ = (tc b)[k]? := fun w' h => by
    have := (Blk.new (w.alloc (.cells (tc a) 23)) (tc b) 23).keeps h
    simp only [World.size_alloc] at this
    exact this.cells
  generalize (w.alloc (.cells (tc a) 23)).alloc (.cells (tc b) 23) = W at *
  have K0 := Keeps.refl W
  refine wp_region_held_drew (S := (fun w' => Keeps W w')) (by kernel_rfl) ?_ (fun hHeld => ?_)
  · exact K0.drew
  refine wpAnyH_take (i := 0) (v := ?_) (by simp only [List.getElem?_toArray, List.getElem?_cons_zero]; rfl) (by kernel_rfl) (by kernel_rfl) (by kernel_rfl) (by exact fun _ _ _ h => h) (Or.inl ⟨by rfl, ?_⟩) (by assumption) ?_
  rotate_left
  · (intro w hSw; (try dsimp only at hSw); go_simp; try (with_reducible rfl))
  try simp only [Act.put, List.setIfInBounds_toArray, List.set_cons_zero, List.set_cons_succ]
  refine wpAnyH_take (i := 2) (v := ?_) (by simp only [List.getElem?_toArray, List.getElem?_cons_succ, List.getElem?_cons_zero]; rfl) (by kernel_rfl) (by kernel_rfl) (by kernel_rfl) (by exact fun _ _ _ h => h) (Or.inl ⟨by rfl, ?_⟩) (by assumption) ?_
  rotate_left
  · (intro w hSw; (try dsimp only at hSw); go_simp; try (with_reducible rfl))
  try simp only [Act.put, List.setIfInBounds_toArray, List.set_cons_zero, List.set_cons_succ]
  refine wpAnyH_ready (rs := [1]) (by kernel_rfl) (by simp) ?_
  refine AllReadyH.cons (by simp only [List.getElem?_toArray, List.getElem?_cons_succ, List.getElem?_cons_zero]; rfl) (fun K hK => ?_) AllReadyH.nil
  go_simp
  first
    | (go_at_call 11; refine (specBefore_any a b _).mono ?_; rintro e w3 ⟨rfl, k3⟩; rw [Hg.out])
    | (go_at_call 12; refine (toTask_any _ _).mono ?_; rintro e w1 ⟨rfl, k1⟩)
  try go_wp2_with fail
  refine hK.out _ _ ?_ (fun hHeld => ?_)
  · exact Keeps.trans (by assumption) (by assumption)
  clear hK K
  try simp only [Act.put, List.setIfInBounds_toArray, List.set_cons_zero, List.set_cons_succ]
  refine wpAnyH_ready (rs := [3]) (by kernel_rfl) (by simp) ?_
  refine AllReadyH.cons (by simp only [List.getElem?_toArray, List.getElem?_cons_succ, List.getElem?_cons_zero]; rfl) (fun K hK => ?_) AllReadyH.nil
  go_simp
  first
    | (go_at_call 11; refine (specBefore_any a b _).mono ?_; rintro e w3 ⟨rfl, k3⟩; rw [Hg.out])
    | (go_at_call 12; refine (toTask_any _ _).mono ?_; rintro e w1 ⟨rfl, k1⟩)
  try go_wp2_with fail
  refine hK.out _ _ ?_ (fun hHeld => ?_)
  · exact Keeps.trans (by assumption) (by assumption)
  clear hK K
  try simp only [Act.put, List.setIfInBounds_toArray, List.set_cons_zero, List.set_cons_succ]
  refine wpAnyH_ready (rs := [4]) (by kernel_rfl) (by simp) ?_
  refine AllReadyH.cons (by simp only [List.getElem?_toArray, List.getElem?_cons_succ, List.getElem?_cons_zero]; rfl) (fun K hK => ?_) AllReadyH.nil
  go_simp
  first
    | (go_at_call 11; refine (specBefore_any a b _).mono ?_; rintro e w3 ⟨rfl, k3⟩; rw [Hg.out])
    | (go_at_call 12; refine (toTask_any _ _).mono ?_; rintro e w1 ⟨rfl, k1⟩)
  try go_wp2_with fail
  refine hK.out _ _ ?_ (fun hHeld => ?_)
  · exact Keeps.trans (by assumption) (by assumption)
  clear hK K
  try simp only [Act.put, List.setIfInBounds_toArray, List.set_cons_zero, List.set_cons_succ]
  refine wpAnyH_take (i := 5) (v := ?_) (by simp only [List.getElem?_toArray, List.getElem?_cons_succ, List.getElem?_cons_zero]; rfl) (by kernel_rfl) (by kernel_rfl) (by kernel_rfl) (by exact fun _ _ _ h => h) (Or.inl ⟨by rfl, ?_⟩) (by assumption) ?_
  rotate_left
  · (intro w hSw; (try dsimp only at hSw); go_simp; try (with_reducible rfl))
  try simp only [Act.put, List.setIfInBounds_toArray, List.set_cons_zero, List.set_cons_succ]
  refine wpAnyH_done (by kernel_rfl) ?_ _
  have K3 : Keeps W w3 := by assumption
  go_wp2_with fail
  refine wp_region_held_drew (S := (fun w' => Keeps W w')) (by kernel_rfl) ?_ (fun hHeld => ?_)
  · exact K3.drew
  refine wpAnyH_take (i := 0) (v := ?_) (by simp only [List.getElem?_toArray, List.getElem?_cons_zero]; rfl) (by kernel_rfl) (by kernel_rfl) (by kernel_rfl) (by exact fun _ _ _ h => h) (Or.inl ⟨by rfl, ?_⟩) (by assumption) ?_
  rotate_left
  · (intro w hSw; (try dsimp only at hSw); go_simp; try (with_reducible rfl))
  try simp only [Act.put, List.setIfInBounds_toArray, List.set_cons_zero, List.set_cons_succ]
  refine wpAnyH_take (i := 2) (v := ?_) (by simp only [List.getElem?_toArray, List.getElem?_cons_succ, List.getElem?_cons_zero]; rfl) (by kernel_rfl) (by kernel_rfl) (by kernel_rfl) (by exact fun _ _ _ h => h) (Or.inl ⟨by rfl, ?_⟩) (by assumption) ?_
  rotate_left
  · (intro w hSw; (try dsimp only at hSw); go_simp; try (with_reducible rfl))
  try simp only [Act.put, List.setIfInBounds_toArray, List.set_cons_zero, List.set_cons_succ]
  refine wpAnyH_ready (rs := [1]) (by kernel_rfl) (by simp) ?_
  refine AllReadyH.cons (by simp only [List.getElem?_toArray, List.getElem?_cons_succ, List.getElem?_cons_zero]; rfl) (fun K hK => ?_) AllReadyH.nil
  go_simp
  first
    | (go_at_call 13; refine (HH.out a b _).mono ?_; rintro e w6 ⟨rfl, k6⟩; rw [Hg.out])
    | (go_at_call 12; refine (toTask_any _ _).mono ?_; rintro e w4 ⟨rfl, k4⟩)
  try go_wp2_with fail
  refine hK.out _ _ ?_ (fun hHeld => ?_)
  · exact Keeps.trans (by assumption) (by assumption)
  clear hK K
  try simp only [Act.put, List.setIfInBounds_toArray, List.set_cons_zero, List.set_cons_succ]
  refine wpAnyH_ready (rs := [3]) (by kernel_rfl) (by simp) ?_
  refine AllReadyH.cons (by simp only [List.getElem?_toArray, List.getElem?_cons_succ, List.getElem?_cons_zero]; rfl) (fun K hK => ?_) AllReadyH.nil
  go_simp
  first
    | (go_at_call 13; refine (HH.out a b _).mono ?_; rintro e w6 ⟨rfl, k6⟩; rw [Hg.out])
    | (go_at_call 12; refine (toTask_any _ _).mono ?_; rintro e w4 ⟨rfl, k4⟩)
  try go_wp2_with fail
  refine hK.out _ _ ?_ (fun hHeld => ?_)
  · exact Keeps.trans (by assumption) (by assumption)
  clear hK K
  try simp only [Act.put, List.setIfInBounds_toArray, List.set_cons_zero, List.set_cons_succ]
  refine wpAnyH_ready (rs := [4]) (by kernel_rfl) (by simp) ?_
  refine AllReadyH.cons (by simp only [List.getElem?_toArray, List.getElem?_cons_succ, List.getElem?_cons_zero]; rfl) (fun K hK => ?_) AllReadyH.nil
  go_simp
  first
    | (go_at_call 13; refine (HH.out a b _).mono ?_; rintro e w6 ⟨rfl, k6⟩; rw [Hg.out])
    | (go_at_call 12; refine (toTask_any _ _).mono ?_; rintro e w4 ⟨rfl, k4⟩)
  try go_wp2_with fail
  refine hK.out _ _ ?_ (fun hHeld => ?_)
  · exact Keeps.trans (by assumption) (by assumption)
  clear hK K
  try simp only [Act.put, List.setIfInBounds_toArray, List.set_cons_zero, List.set_cons_succ]
  refine wpAnyH_take (i := 5) (v := ?_) (by simp only [List.getElem?_toArray, List.getElem?_cons_succ, List.getElem?_cons_zero]; rfl) (by kernel_rfl) (by kernel_rfl) (by kernel_rfl) (by exact fun _ _ _ h => h) (Or.inl ⟨by rfl, ?_⟩) (by assumption) ?_
  rotate_left
  · (intro w hSw; (try dsimp only at hSw); go_simp; try (with_reducible rfl))
  try simp only [Act.put, List.setIfInBounds_toArray, List.set_cons_zero, List.set_cons_succ]
  refine wpAnyH_done (by kernel_rfl) ?_ _
  have K6 : Keeps W w6 := by assumption
  go_wp2
  go_ret
  exact ⟨rfl, kW.trans K6⟩

set_option maxRecDepth 100000 in
set_option maxHeartbeats 2000000 in
theorem exactExecutor_walk (H : SaysExecutor) (a : Option Addr) (cap : Nat) (ts : List Tsk) (a' : Option Addr) (cap' : Nat) (ls : List Lk) (no : Int) (w : World) (ht : ts.length ≤ maxLen) (hts : Ts w a ts) (hl : ls.length ≤ maxLen) (hls : Lks p w a' ls) :
    Calls Try.prog 4 #[.slice a ts.length cap, .slice a' ls.length cap', .int .i64 no] w fun e w' => e = .returned (.bool true) ∧ Keeps w w' := by
  have HH : Hid SaysExecutor := H
  have HT : Hid (Ts w a ts) := hts
  have HL : Hid (Lks p w a' ls) := hls
  have Ht : Hid (ts.length ≤ maxLen) := ht
  have Hl : Hid (ls.length ≤ maxLen) := hl
  clear H hts hls ht hl
  by_cases h1 : (ts.length : Int) ≤ 1048576
  rotate_left
  · go_enter Try.func4, Try.ntmps4
    go_wp2_with (go_at_call 14; refine (szTaskS_any _ _ _ _ _ Ht.out (by omega) (by omega)).mono ?_; rintro e w0 ⟨rfl, hw0⟩; have hw2 := hw0.symm; subst hw2; rw [if_neg h1])
    go_ret
    exact ⟨rfl, Keeps.refl _⟩
  obtain ⟨c0, Hc0⟩ : ∃ c0 : Int, Hid (1048576 - (ts.length : Int) = c0) := ⟨_, rfl⟩
  have hc0 : 0 ≤ c0 := by rw [← Hc0.out]; omega
  have hc1 : c0 ≤ 1048576 := by rw [← Hc0.out]; omega
  have hn0 : decide (c0 < 0) = false := by simp; omega
  have Hn1 : Hid (ts.length ≤ 1048576) := by show _ ≤ _; omega
  by_cases h2 : (sizeN ls : Int) ≤ c0
  rotate_left
  · have Hz : Hid (szLeft ls c0 = -1) := if_neg h2
    go_enter Try.func4, Try.ntmps4
    go_wp2_with (first
      | (go_at_call 14; refine (szTaskS_any _ _ _ _ _ Ht.out (by omega) (by omega)).mono ?_; rintro e w0 ⟨rfl, hw0⟩; have hw2 := hw0.symm; subst hw2; rw [if_pos h1, Hc0.out])
      | (go_at_call 15; refine (szLockS_left _ _ ls c0 _ hc0 hc1 Hl.out HL.out).mono ?_; rintro e w1 ⟨rfl, k1⟩; rw [Hz.out]))
    go_ret
    exact ⟨rfl, k1⟩
  obtain ⟨c2, Hc2⟩ : ∃ c2 : Int, Hid (szLeft ls c0 = c2) := ⟨_, rfl⟩
  have hn2 : decide (c2 < 0) = false := by rw [← Hc2.out]; unfold szLeft; rw [if_pos h2]; simp; omega
  have Hs1 : Hid (sizeN ls ≤ 1048576) := by show _ ≤ _; omega
  obtain ⟨g, Hg⟩ : ∃ g, Hid (execP ts ls no = g) := ⟨_, rfl⟩
  have n0 : (g != g) = false := by simp
  obtain ⟨n, Hn⟩ : ∃ n, Hid (ts.length = n) := ⟨_, rfl⟩
  obtain ⟨m, Hm⟩ : ∃ m, Hid (ls.length = m) := ⟨_, rfl⟩
  have SZ : Hid (∀ w, Calls Try.prog 14 #[.slice a n cap, .int .i64 1048576] w fun e w' => e = .returned (.int .i64 c0) ∧ w' = w) := fun w => by
    have := szTaskS_any a cap ts.length 1048576 w Ht.out (by omega) (by omega)
    rw [if_pos h1, Hc0.out, Hn.out] at this
    exact this
  have SL : Hid (Calls Try.prog 15 #[.slice a' m cap', .int .i64 c0] w fun e w' => e = .returned (.int .i64 c2) ∧ Keeps w w') := by
    have := szLockS_left a' cap' ls c0 w hc0 hc1 Hl.out HL.out
    rw [Hm.out, Hc2.out] at this
    exact this
  have TT : Hid (∀ w', Keeps w w' → Calls Try.prog 17 #[.slice a n cap] w' fun e w'' => ∃ b, e = .returned (.slice (some ⟨b, 0, none⟩) n n) ∧ OnT w'' (some ⟨b, 0, none⟩) n n ts ∧ Keeps w' w'') := fun w' k => by
    have := toTaskS_on a cap ts w' Hn1.out (HT.out.keeps k)
    rw [Hn.out] at this
    exact this
  have TL : Hid (∀ w', Keeps w w' → Calls Try.prog 18 #[.slice a' m cap'] w' fun e w'' => ∃ b, e = .returned (.slice (some ⟨b, 0, none⟩) m m) ∧ On w'' (some ⟨b, 0, none⟩) m m ls ∧ Keeps w' w'') := fun w' k => by
    have := toLockS_on a' cap' ls w' Hs1.out (HL.out.keeps k)
    rw [Hm.out] at this
    exact this
  have ET : Hid (∀ w' (a1 a2 : Option Addr), OnT w' a1 n n ts → OnT w' a2 n n ts → Calls Try.prog 20 #[.slice a1 n n, .slice a2 n n] w' fun e w'' => e = .returned (.bool true) ∧ Keeps w' w'') := fun w' a1 a2 h1 h2 => by
    have := eqTaskS_same a1 a2 n n ts w' Ht.out h1.lies h2.lies
    rw [Hn.out] at this
    exact this
  have EL : Hid (∀ w' (a1 a2 : Option Addr), On w' a1 m m ls → On w' a2 m m ls → Calls Try.prog 21 #[.slice a1 m m, .slice a2 m m] w' fun e w'' => e = .returned (.bool true) ∧ Keeps w' w'') := fun w' a1 a2 h1 h2 => by
    have := eqLockS_same a1 a2 m m ls w' Hl.out h1.lks h2.lks
    rw [Hm.out] at this
    exact this
  rw [Hn.out, Hm.out]
  clear h1 h2 HT HL
  go_enter Try.func4, Try.ntmps4
  go_wp2_with fail
  refine (SZ.out _).mono ?_
  rintro e w0 ⟨rfl, hw0⟩
  have hw2 := hw0.symm
  subst hw2
  clear hw0
  go_wp2_with fail
  refine SL.out.mono ?_
  rintro e w1 ⟨rfl, k1⟩
  go_wp2_with fail
  refine (TT.out _ k1).mono ?_
  rintro e w2 ⟨b2, rfl, O2, k2⟩
  have K2 := k1.trans k2
  go_wp2_with fail
  refine (TL.out _ K2).mono ?_
  rintro e w3 ⟨b3, rfl, O3, k3⟩
  have K3 := K2.trans k3
  go_wp2_with fail
  have q4 := specExecutor_any (w := w3) ⟨O2.keeps k3, O3⟩ no
  rw [Hg.out] at q4
  refine q4.mono ?_
  clear q4
  rintro e w4 ⟨rfl, k4⟩
  have K4 := K3.trans k4
  clear O2 O3
  go_wp2_with fail
  refine (TT.out _ K4).mono ?_
  rintro e w5 ⟨b5, rfl, O5, k5⟩
  have K5 := K4.trans k5
  go_wp2_with fail
  refine (TL.out _ K5).mono ?_
  rintro e w6 ⟨b6, rfl, O6, k6⟩
  have K6 := K5.trans k6
  go_wp2_with fail
  have q7 := HH.out w6 _ n n ts _ m m ls no (Nat.le_refl _) ⟨O5.keeps k6, O6⟩
  rw [Hg.out] at q7
  refine q7.mono ?_
  clear q7
  rintro e w7 ⟨rfl, k7⟩
  have K7 := K6.trans k7
  go_wp2_with fail
  refine (TT.out _ K7).mono ?_
  rintro e w8 ⟨b8, rfl, O8, k8⟩
  have K8 := K7.trans k8
  go_wp2_with fail
  refine (ET.out _ _ _ (O5.keeps (k6.trans (k7.trans k8))) O8).mono ?_
  rintro e w9 ⟨rfl, k9⟩
  have K9 := K8.trans k9
  go_wp2_with fail
  refine (TL.out _ K9).mono ?_
  rintro e w10 ⟨b10, rfl, O10, k10⟩
  have K10 := K9.trans k10
  go_wp2_with fail
  refine (EL.out _ _ _ (O6.keeps (k7.trans (k8.trans (k9.trans k10)))) O10).mono ?_
  rintro e w11 ⟨rfl, k11⟩
  go_wp2
  go_ret
  exact ⟨rfl, K10.trans k11⟩

set_option maxRecDepth 100000 in
set_option maxHeartbeats 2000000 in
theorem exactAble_walk (H : SaysAble) (a : Option Addr) (cap : Nat) (ts : List Tsk) (a' : Option Addr) (cap' : Nat) (ls : List Lk) (no : Int) (w : World) (ht : ts.length ≤ maxLen) (hts : Ts w a ts) (hl : ls.length ≤ maxLen) (hls : Lks p w a' ls) :
    Calls Try.prog 5 #[.slice a ts.length cap, .slice a' ls.length cap', .int .i64 no] w fun e w' => e = .returned (.bool true) ∧ Keeps w w' := by
  have HH : Hid SaysAble := H
  have HT : Hid (Ts w a ts) := hts
  have HL : Hid (Lks p w a' ls) := hls
  have Ht : Hid (ts.length ≤ maxLen) := ht
  have Hl : Hid (ls.length ≤ maxLen) := hl
  clear H hts hls ht hl
  by_cases h1 : (ts.length : Int) ≤ 1048576
  rotate_left
  · go_enter Try.func5, Try.ntmps5
    go_wp2_with (go_at_call 14; refine (szTaskS_any _ _ _ _ _ Ht.out (by omega) (by omega)).mono ?_; rintro e w0 ⟨rfl, hw0⟩; have hw2 := hw0.symm; subst hw2; rw [if_neg h1])
    go_ret
    exact ⟨rfl, Keeps.refl _⟩
  obtain ⟨c0, Hc0⟩ : ∃ c0 : Int, Hid (1048576 - (ts.length : Int) = c0) := ⟨_, rfl⟩
  have hc0 : 0 ≤ c0 := by rw [← Hc0.out]; omega
  have hc1 : c0 ≤ 1048576 := by rw [← Hc0.out]; omega
  have hn0 : decide (c0 < 0) = false := by simp; omega
  have Hn1 : Hid (ts.length ≤ 1048576) := by show _ ≤ _; omega
  by_cases h2 : (sizeN ls : Int) ≤ c0
  rotate_left
  · have Hz : Hid (szLeft ls c0 = -1) := if_neg h2
    go_enter Try.func5, Try.ntmps5
    go_wp2_with (first
      | (go_at_call 14; refine (szTaskS_any _ _ _ _ _ Ht.out (by omega) (by omega)).mono ?_; rintro e w0 ⟨rfl, hw0⟩; have hw2 := hw0.symm; subst hw2; rw [if_pos h1, Hc0.out])
      | (go_at_call 15; refine (szLockS_left _ _ ls c0 _ hc0 hc1 Hl.out HL.out).mono ?_; rintro e w1 ⟨rfl, k1⟩; rw [Hz.out]))
    go_ret
    exact ⟨rfl, k1⟩
  obtain ⟨c2, Hc2⟩ : ∃ c2 : Int, Hid (szLeft ls c0 = c2) := ⟨_, rfl⟩
  have hn2 : decide (c2 < 0) = false := by rw [← Hc2.out]; unfold szLeft; rw [if_pos h2]; simp; omega
  have Hs1 : Hid (sizeN ls ≤ 1048576) := by show _ ≤ _; omega
  obtain ⟨g, Hg⟩ : ∃ g, Hid (ableP ts ls no = g) := ⟨_, rfl⟩
  have n0 : (g != g) = false := by simp
  obtain ⟨n, Hn⟩ : ∃ n, Hid (ts.length = n) := ⟨_, rfl⟩
  obtain ⟨m, Hm⟩ : ∃ m, Hid (ls.length = m) := ⟨_, rfl⟩
  have SZ : Hid (∀ w, Calls Try.prog 14 #[.slice a n cap, .int .i64 1048576] w fun e w' => e = .returned (.int .i64 c0) ∧ w' = w) := fun w => by
    have := szTaskS_any a cap ts.length 1048576 w Ht.out (by omega) (by omega)
    rw [if_pos h1, Hc0.out, Hn.out] at this
    exact this
  have SL : Hid (Calls Try.prog 15 #[.slice a' m cap', .int .i64 c0] w fun e w' => e = .returned (.int .i64 c2) ∧ Keeps w w') := by
    have := szLockS_left a' cap' ls c0 w hc0 hc1 Hl.out HL.out
    rw [Hm.out, Hc2.out] at this
    exact this
  have TT : Hid (∀ w', Keeps w w' → Calls Try.prog 17 #[.slice a n cap] w' fun e w'' => ∃ b, e = .returned (.slice (some ⟨b, 0, none⟩) n n) ∧ OnT w'' (some ⟨b, 0, none⟩) n n ts ∧ Keeps w' w'') := fun w' k => by
    have := toTaskS_on a cap ts w' Hn1.out (HT.out.keeps k)
    rw [Hn.out] at this
    exact this
  have TL : Hid (∀ w', Keeps w w' → Calls Try.prog 18 #[.slice a' m cap'] w' fun e w'' => ∃ b, e = .returned (.slice (some ⟨b, 0, none⟩) m m) ∧ On w'' (some ⟨b, 0, none⟩) m m ls ∧ Keeps w' w'') := fun w' k => by
    have := toLockS_on a' cap' ls w' Hs1.out (HL.out.keeps k)
    rw [Hm.out] at this
    exact this
  have ET : Hid (∀ w' (a1 a2 : Option Addr), OnT w' a1 n n ts → OnT w' a2 n n ts → Calls Try.prog 20 #[.slice a1 n n, .slice a2 n n] w' fun e w'' => e = .returned (.bool true) ∧ Keeps w' w'') := fun w' a1 a2 h1 h2 => by
    have := eqTaskS_same a1 a2 n n ts w' Ht.out h1.lies h2.lies
    rw [Hn.out] at this
    exact this
  have EL : Hid (∀ w' (a1 a2 : Option Addr), On w' a1 m m ls → On w' a2 m m ls → Calls Try.prog 21 #[.slice a1 m m, .slice a2 m m] w' fun e w'' => e = .returned (.bool true) ∧ Keeps w' w'') := fun w' a1 a2 h1 h2 => by
    have := eqLockS_same a1 a2 m m ls w' Hl.out h1.lks h2.lks
    rw [Hm.out] at this
    exact this
  rw [Hn.out, Hm.out]
  clear h1 h2 HT HL
  go_enter Try.func5, Try.ntmps5
  go_wp2_with fail
  refine (SZ.out _).mono ?_
  rintro e w0 ⟨rfl, hw0⟩
  have hw2 := hw0.symm
  subst hw2
  clear hw0
  go_wp2_with fail
  refine SL.out.mono ?_
  rintro e w1 ⟨rfl, k1⟩
  go_wp2_with fail
  refine (TT.out _ k1).mono ?_
  rintro e w2 ⟨b2, rfl, O2, k2⟩
  have K2 := k1.trans k2
  go_wp2_with fail
  refine (TL.out _ K2).mono ?_
  rintro e w3 ⟨b3, rfl, O3, k3⟩
  have K3 := K2.trans k3
  go_wp2_with fail
  have q4 := specAble_any (w := w3) ⟨O2.keeps k3, O3⟩ no
  rw [Hg.out] at q4
  refine q4.mono ?_
  clear q4
  rintro e w4 ⟨rfl, k4⟩
  have K4 := K3.trans k4
  clear O2 O3
  go_wp2_with fail
  refine (TT.out _ K4).mono ?_
  rintro e w5 ⟨b5, rfl, O5, k5⟩
  have K5 := K4.trans k5
  go_wp2_with fail
  refine (TL.out _ K5).mono ?_
  rintro e w6 ⟨b6, rfl, O6, k6⟩
  have K6 := K5.trans k6
  go_wp2_with fail
  have q7 := HH.out w6 _ n n ts _ m m ls no (Nat.le_refl _) ⟨O5.keeps k6, O6⟩
  rw [Hg.out] at q7
  refine q7.mono ?_
  clear q7
  rintro e w7 ⟨rfl, k7⟩
  have K7 := K6.trans k7
  go_wp2_with fail
  refine (TT.out _ K7).mono ?_
  rintro e w8 ⟨b8, rfl, O8, k8⟩
  have K8 := K7.trans k8
  go_wp2_with fail
  refine (ET.out _ _ _ (O5.keeps (k6.trans (k7.trans k8))) O8).mono ?_
  rintro e w9 ⟨rfl, k9⟩
  have K9 := K8.trans k9
  go_wp2_with fail
  refine (TL.out _ K9).mono ?_
  rintro e w10 ⟨b10, rfl, O10, k10⟩
  have K10 := K9.trans k10
  go_wp2_with fail
  refine (EL.out _ _ _ (O6.keeps (k7.trans (k8.trans (k9.trans k10)))) O10).mono ?_
  rintro e w11 ⟨rfl, k11⟩
  go_wp2
  go_ret
  exact ⟨rfl, K10.trans k11⟩

set_option maxRecDepth 100000 in
set_option maxHeartbeats 2000000 in
theorem exactCanTurn_walk (H : SaysCanTurn) (a : Option Addr) (cap : Nat) (ts : List Tsk) (a' : Option Addr) (cap' : Nat) (ls : List Lk) (no : Int) (w : World) (ht : ts.length ≤ maxLen) (hts : Ts w a ts) (hl : ls.length ≤ maxLen) (hls : Lks p w a' ls) :
    Calls Try.prog 6 #[.slice a ts.length cap, .slice a' ls.length cap', .int .i64 no] w fun e w' => e = .returned (.bool true) ∧ Keeps w w' := by
  have HH : Hid SaysCanTurn := H
  have HT : Hid (Ts w a ts) := hts
  have HL : Hid (Lks p w a' ls) := hls
  have Ht : Hid (ts.length ≤ maxLen) := ht
  have Hl : Hid (ls.length ≤ maxLen) := hl
  clear H hts hls ht hl
  by_cases h1 : (ts.length : Int) ≤ 1048576
  rotate_left
  · go_enter Try.func6, Try.ntmps6
    go_wp2_with (go_at_call 14; refine (szTaskS_any _ _ _ _ _ Ht.out (by omega) (by omega)).mono ?_; rintro e w0 ⟨rfl, hw0⟩; have hw2 := hw0.symm; subst hw2; rw [if_neg h1])
    go_ret
    exact ⟨rfl, Keeps.refl _⟩
  obtain ⟨c0, Hc0⟩ : ∃ c0 : Int, Hid (1048576 - (ts.length : Int) = c0) := ⟨_, rfl⟩
  have hc0 : 0 ≤ c0 := by rw [← Hc0.out]; omega
  have hc1 : c0 ≤ 1048576 := by rw [← Hc0.out]; omega
  have hn0 : decide (c0 < 0) = false := by simp; omega
  have Hn1 : Hid (ts.length ≤ 1048576) := by show _ ≤ _; omega
  by_cases h2 : (sizeN ls : Int) ≤ c0
  rotate_left
  · have Hz : Hid (szLeft ls c0 = -1) := if_neg h2
    go_enter Try.func6, Try.ntmps6
    go_wp2_with (first
      | (go_at_call 14; refine (szTaskS_any _ _ _ _ _ Ht.out (by omega) (by omega)).mono ?_; rintro e w0 ⟨rfl, hw0⟩; have hw2 := hw0.symm; subst hw2; rw [if_pos h1, Hc0.out])
      | (go_at_call 15; refine (szLockS_left _ _ ls c0 _ hc0 hc1 Hl.out HL.out).mono ?_; rintro e w1 ⟨rfl, k1⟩; rw [Hz.out]))
    go_ret
    exact ⟨rfl, k1⟩
  obtain ⟨c2, Hc2⟩ : ∃ c2 : Int, Hid (szLeft ls c0 = c2) := ⟨_, rfl⟩
  have hn2 : decide (c2 < 0) = false := by rw [← Hc2.out]; unfold szLeft; rw [if_pos h2]; simp; omega
  have Hs1 : Hid (sizeN ls ≤ 1048576) := by show _ ≤ _; omega
  obtain ⟨g, Hg⟩ : ∃ g, Hid (canP ts ls no = g) := ⟨_, rfl⟩
  have n0 : (g != g) = false := by simp
  obtain ⟨n, Hn⟩ : ∃ n, Hid (ts.length = n) := ⟨_, rfl⟩
  obtain ⟨m, Hm⟩ : ∃ m, Hid (ls.length = m) := ⟨_, rfl⟩
  have SZ : Hid (∀ w, Calls Try.prog 14 #[.slice a n cap, .int .i64 1048576] w fun e w' => e = .returned (.int .i64 c0) ∧ w' = w) := fun w => by
    have := szTaskS_any a cap ts.length 1048576 w Ht.out (by omega) (by omega)
    rw [if_pos h1, Hc0.out, Hn.out] at this
    exact this
  have SL : Hid (Calls Try.prog 15 #[.slice a' m cap', .int .i64 c0] w fun e w' => e = .returned (.int .i64 c2) ∧ Keeps w w') := by
    have := szLockS_left a' cap' ls c0 w hc0 hc1 Hl.out HL.out
    rw [Hm.out, Hc2.out] at this
    exact this
  have TT : Hid (∀ w', Keeps w w' → Calls Try.prog 17 #[.slice a n cap] w' fun e w'' => ∃ b, e = .returned (.slice (some ⟨b, 0, none⟩) n n) ∧ OnT w'' (some ⟨b, 0, none⟩) n n ts ∧ Keeps w' w'') := fun w' k => by
    have := toTaskS_on a cap ts w' Hn1.out (HT.out.keeps k)
    rw [Hn.out] at this
    exact this
  have TL : Hid (∀ w', Keeps w w' → Calls Try.prog 18 #[.slice a' m cap'] w' fun e w'' => ∃ b, e = .returned (.slice (some ⟨b, 0, none⟩) m m) ∧ On w'' (some ⟨b, 0, none⟩) m m ls ∧ Keeps w' w'') := fun w' k => by
    have := toLockS_on a' cap' ls w' Hs1.out (HL.out.keeps k)
    rw [Hm.out] at this
    exact this
  have ET : Hid (∀ w' (a1 a2 : Option Addr), OnT w' a1 n n ts → OnT w' a2 n n ts → Calls Try.prog 20 #[.slice a1 n n, .slice a2 n n] w' fun e w'' => e = .returned (.bool true) ∧ Keeps w' w'') := fun w' a1 a2 h1 h2 => by
    have := eqTaskS_same a1 a2 n n ts w' Ht.out h1.lies h2.lies
    rw [Hn.out] at this
    exact this
  have EL : Hid (∀ w' (a1 a2 : Option Addr), On w' a1 m m ls → On w' a2 m m ls → Calls Try.prog 21 #[.slice a1 m m, .slice a2 m m] w' fun e w'' => e = .returned (.bool true) ∧ Keeps w' w'') := fun w' a1 a2 h1 h2 => by
    have := eqLockS_same a1 a2 m m ls w' Hl.out h1.lks h2.lks
    rw [Hm.out] at this
    exact this
  rw [Hn.out, Hm.out]
  clear h1 h2 HT HL
  go_enter Try.func6, Try.ntmps6
  go_wp2_with fail
  refine (SZ.out _).mono ?_
  rintro e w0 ⟨rfl, hw0⟩
  have hw2 := hw0.symm
  subst hw2
  clear hw0
  go_wp2_with fail
  refine SL.out.mono ?_
  rintro e w1 ⟨rfl, k1⟩
  go_wp2_with fail
  refine (TT.out _ k1).mono ?_
  rintro e w2 ⟨b2, rfl, O2, k2⟩
  have K2 := k1.trans k2
  go_wp2_with fail
  refine (TL.out _ K2).mono ?_
  rintro e w3 ⟨b3, rfl, O3, k3⟩
  have K3 := K2.trans k3
  go_wp2_with fail
  have q4 := specCanTurn_any (w := w3) ⟨O2.keeps k3, O3⟩ no
  rw [Hg.out] at q4
  refine q4.mono ?_
  clear q4
  rintro e w4 ⟨rfl, k4⟩
  have K4 := K3.trans k4
  clear O2 O3
  go_wp2_with fail
  refine (TT.out _ K4).mono ?_
  rintro e w5 ⟨b5, rfl, O5, k5⟩
  have K5 := K4.trans k5
  go_wp2_with fail
  refine (TL.out _ K5).mono ?_
  rintro e w6 ⟨b6, rfl, O6, k6⟩
  have K6 := K5.trans k6
  go_wp2_with fail
  have q7 := HH.out w6 _ n n ts _ m m ls no (Nat.le_refl _) ⟨O5.keeps k6, O6⟩
  rw [Hg.out] at q7
  refine q7.mono ?_
  clear q7
  rintro e w7 ⟨rfl, k7⟩
  have K7 := K6.trans k7
  go_wp2_with fail
  refine (TT.out _ K7).mono ?_
  rintro e w8 ⟨b8, rfl, O8, k8⟩
  have K8 := K7.trans k8
  go_wp2_with fail
  refine (ET.out _ _ _ (O5.keeps (k6.trans (k7.trans k8))) O8).mono ?_
  rintro e w9 ⟨rfl, k9⟩
  have K9 := K8.trans k9
  go_wp2_with fail
  refine (TL.out _ K9).mono ?_
  rintro e w10 ⟨b10, rfl, O10, k10⟩
  have K10 := K9.trans k10
  go_wp2_with fail
  refine (EL.out _ _ _ (O6.keeps (k7.trans (k8.trans (k9.trans k10)))) O10).mono ?_
  rintro e w11 ⟨rfl, k11⟩
  go_wp2
  go_ret
  exact ⟨rfl, K10.trans k11⟩

set_option maxRecDepth 100000 in
set_option maxHeartbeats 2000000 in
theorem exactBestOf_walk (H : SaysBestOf) (a : Option Addr) (cap : Nat) (ts : List Tsk) (a' : Option Addr) (cap' : Nat) (xs : List Int) (w : World) (ht : ts.length ≤ maxLen) (hts : Ts w a ts) (hl : xs.length ≤ maxLen) (hls : Ns w a' xs) :
    Calls Try.prog 7 #[.slice a ts.length cap, .slice a' xs.length cap'] w fun e w' => e = .returned (.bool true) ∧ Keeps w w' := by
  have HH : Hid SaysBestOf := H
  have HT : Hid (Ts w a ts) := hts
  have HL : Hid (Ns w a' xs) := hls
  have Ht : Hid (ts.length ≤ maxLen) := ht
  have Hl : Hid (xs.length ≤ maxLen) := hl
  clear H hts hls ht
  obtain ⟨m, Hm⟩ : ∃ m, Hid (xs.length = m) := ⟨_, rfl⟩
  rw [Hm.out] at hl
  unfold maxLen at hl
  by_cases h0 : m ≤ 1048576
  rotate_left
  · have hd : decide ((1048576 : Int) < (m : Int)) = true := by simp; omega
    rw [Hm.out]
    go_enter Try.func7, Try.ntmps7
    go_wp2
    go_ret
    exact ⟨rfl, Keeps.refl _⟩
  have hd : decide ((1048576 : Int) < (m : Int)) = false := by simp; omega
  by_cases h1 : (ts.length : Int) ≤ 1048576
  rotate_left
  · rw [Hm.out]
    go_enter Try.func7, Try.ntmps7
    go_wp2_with (go_at_call 14; refine (szTaskS_any _ _ _ _ _ Ht.out (by omega) (by omega)).mono ?_; rintro e w0 ⟨rfl, hw0⟩; have hw2 := hw0.symm; subst hw2; rw [if_neg h1])
    go_ret
    exact ⟨rfl, Keeps.refl _⟩
  obtain ⟨c0, Hc0⟩ : ∃ c0 : Int, Hid (1048576 - (ts.length : Int) = c0) := ⟨_, rfl⟩
  have hc0 : 0 ≤ c0 := by rw [← Hc0.out]; omega
  have hn0 : decide (c0 < 0) = false := by simp; omega
  have Hn1 : Hid (ts.length ≤ 1048576) := by show _ ≤ _; omega
  obtain ⟨g, Hg⟩ : ∃ g, Hid (bestI ts xs = g) := ⟨_, rfl⟩
  have n0 : (g != g) = false := by simp
  obtain ⟨n, Hn⟩ : ∃ n, Hid (ts.length = n) := ⟨_, rfl⟩
  have SZ : Hid (∀ w, Calls Try.prog 14 #[.slice a n cap, .int .i64 1048576] w fun e w' => e = .returned (.int .i64 c0) ∧ w' = w) := fun w => by
    have := szTaskS_any a cap ts.length 1048576 w Ht.out (by omega) (by omega)
    rw [if_pos h1, Hc0.out, Hn.out] at this
    exact this
  have TT : Hid (∀ w', Keeps w w' → Calls Try.prog 17 #[.slice a n cap] w' fun e w'' => ∃ b, e = .returned (.slice (some ⟨b, 0, none⟩) n n) ∧ OnT w'' (some ⟨b, 0, none⟩) n n ts ∧ Keeps w' w'') := fun w' k => by
    have := toTaskS_on a cap ts w' Hn1.out (HT.out.keeps k)
    rw [Hn.out] at this
    exact this
  have TL : Hid (∀ w', Keeps w w' → Calls Try.prog 27 #[.slice a' m cap'] w' fun e w'' => ∃ a2, e = .returned (.slice a2 m m) ∧ Ns w'' a2 xs ∧ Keeps w' w'') := fun w' k => by
    have := toIntS_any a' cap' xs w' (by rw [Hm.out]; exact h0) (HL.out.keeps k)
    rw [Hm.out] at this
    refine this.mono ?_
    rintro e w'' ⟨rfl, o, k⟩
    obtain ⟨_, _, e, N, -, -⟩ := OwnN.ns o
    rw [Hm.out] at e
    simp only [Value.slice.injEq] at e
    obtain ⟨rfl, -, rfl⟩ := e
    exact ⟨_, rfl, N, k⟩
  have ET : Hid (∀ w' (a1 a2 : Option Addr), OnT w' a1 n n ts → OnT w' a2 n n ts → Calls Try.prog 20 #[.slice a1 n n, .slice a2 n n] w' fun e w'' => e = .returned (.bool true) ∧ Keeps w' w'') := fun w' a1 a2 h1 h2 => by
    have := eqTaskS_same a1 a2 n n ts w' Ht.out h1.lies h2.lies
    rw [Hn.out] at this
    exact this
  have EL : Hid (∀ w' (a1 a2 : Option Addr), Ns w' a1 xs → Ns w' a2 xs → Calls Try.prog 29 #[.slice a1 m m, .slice a2 m m] w' fun e w'' => e = .returned (.bool true) ∧ Keeps w' w'') := fun w' a1 a2 h1 h2 => by
    have := eqIntS_same a1 a2 m m xs w' Hl.out h1 h2
    rw [Hm.out] at this
    exact this
  rw [Hn.out, Hm.out]
  clear h1 HT HL
  go_enter Try.func7, Try.ntmps7
  go_wp2_with fail
  refine (SZ.out _).mono ?_
  rintro e w0 ⟨rfl, hw0⟩
  have hw2 := hw0.symm
  subst hw2
  clear hw0
  have k1 : Keeps w w := Keeps.refl _
  go_wp2_with fail
  refine (TT.out _ k1).mono ?_
  rintro e w2 ⟨b2, rfl, O2, k2⟩
  have K2 := k1.trans k2
  go_wp2_with fail
  refine (TL.out _ K2).mono ?_
  rintro e w3 ⟨b3, rfl, O3, k3⟩
  have K3 := K2.trans k3
  go_wp2_with fail
  have q4 := specBestOf_any (w := w3) (O2.keeps k3) b3 m xs Hl.out O3
  rw [Hg.out, Hm.out] at q4
  refine q4.mono ?_
  clear q4
  rintro e w4 ⟨rfl, k4⟩
  have K4 := K3.trans k4
  clear O2 O3
  go_wp2_with fail
  refine (TT.out _ K4).mono ?_
  rintro e w5 ⟨b5, rfl, O5, k5⟩
  have K5 := K4.trans k5
  go_wp2_with fail
  refine (TL.out _ K5).mono ?_
  rintro e w6 ⟨b6, rfl, O6, k6⟩
  have K6 := K5.trans k6
  go_wp2_with fail
  have q7 := HH.out w6 _ n n ts b6 m xs (Nat.le_refl _) (by rw [Hm.out]; exact Nat.le_refl _) Hl.out (O5.keeps k6) O6
  rw [Hg.out, Hm.out] at q7
  refine q7.mono ?_
  clear q7
  rintro e w7 ⟨rfl, k7⟩
  have K7 := K6.trans k7
  go_wp2_with fail
  refine (TT.out _ K7).mono ?_
  rintro e w8 ⟨b8, rfl, O8, k8⟩
  have K8 := K7.trans k8
  go_wp2_with fail
  refine (ET.out _ _ _ (O5.keeps (k6.trans (k7.trans k8))) O8).mono ?_
  rintro e w9 ⟨rfl, k9⟩
  have K9 := K8.trans k9
  go_wp2_with fail
  refine (TL.out _ K9).mono ?_
  rintro e w10 ⟨b10, rfl, O10, k10⟩
  have K10 := K9.trans k10
  go_wp2_with fail
  refine (EL.out _ _ _ (O6.keeps (k7.trans (k8.trans (k9.trans k10)))) O10).mono ?_
  rintro e w11 ⟨rfl, k11⟩
  go_wp2
  go_ret
  exact ⟨rfl, K10.trans k11⟩
end Go.Proofs.Ytojfjafaeabkfaa
