/-
  Lists of tasks: the laws' own helpers, and what the model's functions that only read a list answer.
  Fair shares over lists: contracts of the model's functions.
  A list of tasks: the contract of the model's TasksOk.
  A task is put among others: the contract of the model's TaskPut.
-/
import Derived.Test.YtpikopdfkhagmaaGreatDoorTaskSpec
import Derived.Test.YtpikopdfkhagmaaGreatDoorCur
import Derived.Test.YtpikopdfkhagmaaGreatDoorFairSpec
import Derived.Test.YtpikopdfkhagmaaGreatDoorOwn
namespace Go.Proofs.YtpikopdfkhagmaaGreatDoor
open Go.RowKit
attribute [local go_sem] Keeps.refl Keeps.alloc Keeps.drew Keeps.drewN

/-- The tasks ts lie there. -/
abbrev Ts (w : World) (a : Option Addr) (ts : List Tsk) : Prop := Lies 14 tc w a ts

theorem some_at {α : Type} {xs : List α} {k : Nat} (h : k < xs.length) : ∃ x, xs[k]? = some x := ⟨xs[k], List.getElem?_eq_getElem h⟩

/-- The place of the first with that number, from the place k on. -/
def atFrom (ts : List Tsk) (no : Int) : Int := match ts.findIdx? (fun t => t.no == no) with
  | some i => i
  | none => -1

set_option maxRecDepth 100000 in
set_option maxHeartbeats 1000000 in
theorem specTaskAt_any (a : Option Addr) (cap : Nat) (ts : List Tsk) (no : Int) (w : World) (hl : ts.length ≤ maxLen) (hs : Ts w a ts) :
    Calls Tryz.prog 73 #[.slice a ts.length cap, .int .i64 no] w fun e w' => e = .returned (.int .i64 (atFrom ts no)) ∧ Keeps w w' := by
  unfold maxLen at hl
  generalize hn : ts.length = n at hl
  have Hn : Hid (ts.length = n) := hn
  clear hn
  go_enter Tryz.func73, Tryz.ntmps73
  go_wp2
  go_loopw [5] (fun i wr => ∃ k : Nat, k ≤ n ∧ i = .int .i64 k ∧ Keeps w wr ∧ Hid (∀ j t, j < k → ts[j]? = some t → (t.no == no) = false)) (fun i _ => n - (intOf i).toNat)
  case atStart => exact ⟨0, Nat.zero_le _, rfl, Keeps.refl _, fun j t hj => by omega⟩
  case round =>
    obtain ⟨k, hk, rfl, hK, H⟩ := hrel
    by_cases hlt : k < n
    · obtain ⟨t, ht⟩ := some_at (xs := ts) (k := k) (by rw [Hn.out]; exact hlt)
      obtain ⟨b, off, rfl, r0, r1⟩ := hs.at ht (by omega)
      have hlt' : (k : Int) < (n : Int) := by omega
      have Ht : Hid (ts[k]? = some t) := ht
      clear hs ht
      cases hq : (t.no == no)
      · go_wp2
        exact ⟨⟨k + 1, by omega, by go_num, hK, fun j s hj hs => by
          by_cases e : j = k
          · subst e; rw [Ht.out] at hs; cases hs; exact hq
          · exact H.out j s (by omega) hs⟩, by simp only [intOf]; omega⟩
      · have Hr : Hid (atFrom ts no = k) := by
          show _ = _
          have : ts.findIdx? (fun t => t.no == no) = some k := by
            rw [List.findIdx?_eq_some_iff_getElem]
            have hk' : k < ts.length := by rw [Hn.out]; exact hlt
            have e1 : ts[k] = t := by have := Ht.out; rw [List.getElem?_eq_getElem hk'] at this; simpa using this
            refine ⟨hk', by rw [e1]; exact hq, fun j hj => ?_⟩
            have := H.out j ts[j] (by omega) (List.getElem?_eq_getElem _)
            simp [this]
          simp [atFrom, this]
        go_wp2
        go_ret
        exact ⟨by rw [Hr.out]; rfl, hK⟩
    · have Hr : Hid (atFrom ts no = -1) := by
        show _ = _
        have : ts.findIdx? (fun t => t.no == no) = none := by
          rw [List.findIdx?_eq_none_iff]
          intro t ht
          obtain ⟨j, hj, rfl⟩ := List.mem_iff_getElem.1 ht
          exact H.out j _ (by have := Hn.out; omega) (List.getElem?_eq_getElem hj)
        simp [atFrom, this]
      go_wp2
      go_ret
      exact ⟨by rw [Hr.out]; rfl, hK⟩

end Go.Proofs.YtpikopdfkhagmaaGreatDoor
namespace Go.Proofs.YtpikopdfkhagmaaGreatDoor
open Go.RowKit
attribute [local go_sem] Keeps.refl Keeps.alloc Keeps.drew Keeps.drewN

theorem foldl_take {α β : Type} (f : β → α → β) (a : β) {ts : List α} {k : Nat} {t : α} (h : ts[k]? = some t) : (ts.take (k + 1)).foldl f a = f ((ts.take k).foldl f a) t := by
  have hk : k < ts.length := by
    rcases Nat.lt_or_ge k ts.length with h' | h'
    · exact h'
    · simp [List.getElem?_eq_none h'] at h
  rw [List.getElem?_eq_getElem hk] at h
  rw [List.take_succ_eq_append_getElem hk, List.foldl_append]
  simp only [Option.some.injEq] at h
  rw [h]
  rfl
theorem foldl_all {α β : Type} (f : β → α → β) (a : β) {ts : List α} {k : Nat} (h : ts.length ≤ k) : (ts.take k).foldl f a = ts.foldl f a := by rw [List.take_of_length_le h]

set_option maxRecDepth 100000 in
set_option maxHeartbeats 2000000 in
theorem specFairFloor_any (a : Option Addr) (cap : Nat) (ts : List Tsk) (floor : Int) (w : World) (hl : ts.length ≤ maxLen) (hs : Ts w a ts) :
    Calls Tryz.prog 114 #[.slice a ts.length cap, .int .i64 floor] w fun e w' => e = .returned (.int .i64 (fairFloorI ts floor)) ∧ Keeps w w' := by
  unfold maxLen at hl
  generalize hn : ts.length = n at hl
  have Hn : Hid (ts.length = n) := hn
  clear hn
  go_enter Tryz.func114, Tryz.ntmps114
  go_wp2
  go_loopw [5, 6] (fun l i wr => ∃ k : Nat, k ≤ n ∧ i = .int .i64 k ∧ l = .int .i64 ((ts.take k).foldl leastS (-1)) ∧ Keeps w wr) (fun _ i _ => n - (intOf i).toNat)
  case atStart => exact ⟨0, Nat.zero_le _, rfl, rfl, Keeps.refl _⟩
  case round =>
    obtain ⟨k, hk, rfl, rfl, hK⟩ := hrel
    by_cases hlt : k < n
    · obtain ⟨t, ht⟩ := some_at (xs := ts) (k := k) (by rw [Hn.out]; exact hlt)
      obtain ⟨b, off, rfl, r0, r1⟩ := hs.at ht (by omega)
      have hlt' : (k : Int) < (n : Int) := by omega
      have Ht : Hid ((ts.take (k + 1)).foldl leastS (-1) = leastS ((ts.take k).foldl leastS (-1)) t) := foldl_take _ _ ht
      clear hs ht
      generalize (ts.take k).foldl leastS (-1) = L at *
      cases hf : fairB t
      · have HL : Hid (leastS L t = L) := by show _ = _; simp [leastS, hf]
        go_wp2_with (go_at_call 120; refine (l6Fair_any t _).mono ?_; rintro e w1 ⟨rfl, k1⟩; have K1 := hK.trans k1; rw [hf])
        exact ⟨⟨k + 1, by omega, by go_num, by rw [Ht.out, HL.out], K1⟩, by simp only [intOf]; omega⟩
      · cases h1 : decide (L < 0)
        · cases h2 : decide (t.v < L)
          · have HL : Hid (leastS L t = L) := by show _ = _; simp only [leastS, hf, h1, h2, Bool.or_false, Bool.and_false, Bool.false_eq_true, if_false]
            go_wp2_with (go_at_call 120; refine (l6Fair_any t _).mono ?_; rintro e w1 ⟨rfl, k1⟩; have K1 := hK.trans k1; rw [hf])
            exact ⟨⟨k + 1, by omega, by go_num, by rw [Ht.out, HL.out], K1⟩, by simp only [intOf]; omega⟩
          · have HL : Hid (leastS L t = t.v) := by show _ = _; simp only [leastS, hf, h2, Bool.or_true, Bool.and_true, if_true]
            go_wp2_with (go_at_call 120; refine (l6Fair_any t _).mono ?_; rintro e w1 ⟨rfl, k1⟩; have K1 := hK.trans k1; rw [hf])
            exact ⟨⟨k + 1, by omega, by go_num, by rw [Ht.out, HL.out], K1⟩, by simp only [intOf]; omega⟩
        · have HL : Hid (leastS L t = t.v) := by show _ = _; simp only [leastS, hf, h1, Bool.true_or, Bool.and_true, if_true]
          go_wp2_with (go_at_call 120; refine (l6Fair_any t _).mono ?_; rintro e w1 ⟨rfl, k1⟩; have K1 := hK.trans k1; rw [hf])
          exact ⟨⟨k + 1, by omega, by go_num, by rw [Ht.out, HL.out], K1⟩, by simp only [intOf]; omega⟩
    · have hlt' : decide ((k : Int) < (n : Int)) = false := by simp; omega
      rw [foldl_all leastS (-1) (show ts.length ≤ k by have := Hn.out; omega)]
      have HV : Hid (fairFloorI ts floor = if ts.foldl leastS (-1) < 0 then floor else max floor (ts.foldl leastS (-1))) := rfl
      generalize ts.foldl leastS (-1) = L at *
      clear hs
      cases h1 : decide (L < 0)
      · have HL : Hid (fairFloorI ts floor = max floor L) := by show _ = _; rw [HV.out, if_neg (of_decide_eq_false h1)]
        go_wp2_with (go_at_call 49; refine (l1Max_any _ _ _).mono ?_; rintro e w' ⟨rfl, hw'⟩; have hw2 := hw'.symm; subst hw2)
        go_ret
        exact ⟨by rw [HL.out]; rfl, hK⟩
      · have HL : Hid (fairFloorI ts floor = floor) := by show _ = _; rw [HV.out, if_pos (of_decide_eq_true h1)]
        go_wp2
        go_ret
        exact ⟨by rw [HL.out]; rfl, hK⟩

end Go.Proofs.YtpikopdfkhagmaaGreatDoor
namespace Go.Proofs.YtpikopdfkhagmaaGreatDoor
open Go.RowKit
attribute [local go_sem] Keeps.refl Keeps.alloc Keeps.drew Keeps.drewN

/-- Ascending by number. -/
def ascB : List Tsk → Bool
  | a :: b :: r => decide (a.no < b.no) && ascB (b :: r)
  | _ => true
theorem ascB_iff (ts : List Tsk) : ascB ts = true ↔ ∀ j a b, ts[j]? = some a → ts[j + 1]? = some b → a.no < b.no := by
  induction ts with
  | nil => simp [ascB]
  | cons x r ih =>
    cases r with
    | nil => simp [ascB]
    | cons y r =>
      simp only [ascB, Bool.and_eq_true, decide_eq_true_eq, ih]
      constructor
      · rintro ⟨h1, h2⟩ j a b ha hb
        cases j with
        | zero => simp at ha hb; subst ha hb; exact h1
        | succ j => exact h2 j a b (by simpa using ha) (by simpa using hb)
      · intro h
        exact ⟨h 0 x y rfl rfl, fun j a b ha hb => h (j + 1) a b (by simpa using ha) (by simpa using hb)⟩
/-- It is a list of tasks. -/
def tasksB (ts : List Tsk) : Bool := ts.all taskB && ascB ts && decide (ts.length ≤ 12)
theorem tasksB_bad {ts : List Tsk} {k : Nat} {t : Tsk} (h : ts[k]? = some t) (ht : taskB t = false) : tasksB ts = false := by
  have : ts.all taskB = false := by
    rw [List.all_eq_false]
    exact ⟨t, List.mem_of_getElem? h, by simp [ht]⟩
  simp [tasksB, this]
theorem tasksB_down {ts : List Tsk} {k : Nat} {s t : Tsk} (hs : ts[k]? = some s) (ht : ts[k + 1]? = some t) (h : t.no ≤ s.no) : tasksB ts = false := by
  have : ascB ts = false := by
    rw [Bool.eq_false_iff]
    intro e
    have := (ascB_iff ts).1 e k s t hs ht
    omega
  simp [tasksB, this]
theorem tasksB_all {ts : List Tsk} (h1 : ∀ (j : Nat) (t : Tsk), ts[j]? = some t → taskB t = true) (h2 : ∀ (j : Nat) (a b : Tsk), ts[j]? = some a → ts[j + 1]? = some b → a.no < b.no) : tasksB ts = decide (ts.length ≤ 12) := by
  have e1 : ts.all taskB = true := by
    rw [List.all_eq_true]
    intro t ht
    obtain ⟨j, hj, rfl⟩ := List.mem_iff_getElem.1 ht
    exact h1 j _ (List.getElem?_eq_getElem hj)
  simp [tasksB, e1, (ascB_iff ts).2 h2]

set_option maxRecDepth 100000 in
set_option maxHeartbeats 4000000 in
theorem specTasksOk_any (a : Option Addr) (cap : Nat) (ts : List Tsk) (w : World) (hl : ts.length ≤ maxLen) (hs : Ts w a ts) :
    Calls Tryz.prog 66 #[.slice a ts.length cap] w fun e w' => e = .returned (.bool (tasksB ts)) ∧ Keeps w w' := by
  unfold maxLen at hl
  generalize hn : ts.length = n at hl
  have Hn : Hid (ts.length = n) := hn
  clear hn
  go_enter Tryz.func66, Tryz.ntmps66
  go_wp2
  go_loopw [3] (fun i wr => ∃ k : Nat, k ≤ n ∧ i = .int .i64 k ∧ Keeps w wr ∧ Hid (∀ j t, j < k → ts[j]? = some t → taskB t = true) ∧ Hid (∀ j s t, j + 1 < k → ts[j]? = some s → ts[j + 1]? = some t → s.no < t.no)) (fun i _ => n - (intOf i).toNat)
  case atStart => exact ⟨0, Nat.zero_le _, rfl, Keeps.refl _, fun j t hj => by omega, fun j s t hj => by omega⟩
  case round =>
    obtain ⟨k, hk, rfl, hK, H1, H2⟩ := hrel
    by_cases hlt : k < n
    · obtain ⟨t, ht⟩ := some_at (xs := ts) (k := k) (by rw [Hn.out]; exact hlt)
      have hlt' : (k : Int) < (n : Int) := by omega
      have Ht : Hid (ts[k]? = some t) := ht
      cases hb : taskB t
      · obtain ⟨b, off, rfl, r0, r1⟩ := hs.at ht (by omega)
        have Hr : Hid (tasksB ts = false) := tasksB_bad ht hb
        clear hs ht
        go_wp2
        refine wp_region_held_drew (S := (fun w' => Keeps w w')) (by kernel_rfl) ?_ (fun hHeld => ?_)
        · exact Keeps.drew (by assumption)
        refine Plan.go [0, 1, 2, 3] ?_
        iterate 4 (refine takeL (by simp only [opsAt]; rfl) (by kernel_rfl) (by exact fun _ _ _ h => h) (by rfl) (by assumption) (fun w _ => by go_simp; try (with_reducible rfl)) ?_; try simp only [putAtH])
        refine Plan.nil ?_
        refine callH 4 (by kernel_rfl) (by simp only [opsAt]; rfl) (fun K hK => ?_)
        go_simp
        first
          | (go_at_call 85; refine (specTaskOk_any t _).mono ?_; rintro e w' ⟨rfl, hkk⟩; rw [hb])
        try go_wp2_with fail
        refine hK.out _ _ ?_ (fun hHeld => ?_)
        · exact Keeps.trans (by assumption) (by assumption)
        clear hK K
        try simp only [putAtH]
        refine Plan.go [5, 6] ?_
        iterate 2 (refine takeL (by simp only [opsAt]; rfl) (by kernel_rfl) (by exact fun _ _ _ h => h) (by rfl) (by assumption) (fun w _ => by go_simp; try (with_reducible rfl)) ?_; try simp only [putAtH])
        refine Plan.nil ?_
        refine Plan.go [7, 8, 9, 10, 11, 12, 13, 14, 15, 16, 17, 18, 19, 20, 21, 22] ?_
        iterate 16 (refine skipL (by simp only [opsAt]; rfl) (by kernel_rfl) (by exact fun _ _ _ h => h) (by rfl) (by assumption) ?_; try simp only [putAtH])
        refine Plan.nil ?_
        refine takeH 23 (v := ?_) (by simp only [opsAt]; rfl) (by kernel_rfl) (by exact fun _ _ _ h => h) (by rfl) (by assumption) ?_ ?_
        rotate_left
        · (intro w _; go_simp; try (with_reducible rfl))
        try simp only [putAtH]
        refine wpAnyH_done (by kernel_rfl) ?_ _
        go_wp2
        go_ret
        exact ⟨by rw [Hr.out]; rfl, by assumption⟩
      · rcases Nat.eq_zero_or_pos k with h0 | h0
        · obtain ⟨b, off, rfl, r0, r1⟩ := hs.at ht (by omega)
          have hz : decide (0 < k) = false := by simp; omega
          have H0 : Hid (k = 0) := h0
          clear hs ht h0
          go_wp2
          refine wp_region_held_drew (S := (fun w' => Keeps w w')) (by kernel_rfl) ?_ (fun hHeld => ?_)
          · exact Keeps.drew (by assumption)
          refine Plan.go [0, 1, 2, 3] ?_
          iterate 4 (refine takeL (by simp only [opsAt]; rfl) (by kernel_rfl) (by exact fun _ _ _ h => h) (by rfl) (by assumption) (fun w _ => by go_simp; try (with_reducible rfl)) ?_; try simp only [putAtH])
          refine Plan.nil ?_
          refine callH 4 (by kernel_rfl) (by simp only [opsAt]; rfl) (fun K hK => ?_)
          go_simp
          first
            | (go_at_call 85; refine (specTaskOk_any t _).mono ?_; rintro e w' ⟨rfl, hkk⟩; rw [hb])
          try go_wp2_with fail
          refine hK.out _ _ ?_ (fun hHeld => ?_)
          · exact Keeps.trans (by assumption) (by assumption)
          clear hK K
          try simp only [putAtH]
          refine Plan.go [5, 6, 7, 8, 9] ?_
          iterate 5 (refine takeL (by simp only [opsAt]; rfl) (by kernel_rfl) (by exact fun _ _ _ h => h) (by rfl) (by assumption) (fun w _ => by go_simp; try (with_reducible rfl)) ?_; try simp only [putAtH])
          refine Plan.nil ?_
          refine Plan.go [10, 11, 12, 13, 14, 15, 16, 17, 18, 19, 20, 21] ?_
          iterate 12 (refine skipL (by simp only [opsAt]; rfl) (by kernel_rfl) (by exact fun _ _ _ h => h) (by rfl) (by assumption) ?_; try simp only [putAtH])
          refine Plan.nil ?_
          refine Plan.go [22, 23] ?_
          iterate 2 (refine takeL (by simp only [opsAt]; rfl) (by kernel_rfl) (by exact fun _ _ _ h => h) (by rfl) (by assumption) (fun w _ => by go_simp; try (with_reducible rfl)) ?_; try simp only [putAtH])
          refine Plan.nil ?_
          refine wpAnyH_done (by kernel_rfl) ?_ _
          go_wp2
          exact ⟨⟨k + 1, by omega, by go_num, by assumption, fun j s hj hjs => by
            obtain rfl : j = k := by have := H0.out; omega
            rw [Ht.out] at hjs; cases hjs; exact hb, fun j s u hj => by have := H0.out; omega⟩, by simp only [intOf]; omega⟩
        · obtain ⟨m, hm⟩ : ∃ m, k = m + 1 := ⟨k - 1, by omega⟩
          obtain ⟨s, hs1⟩ := some_at (xs := ts) (k := m) (by rw [Hn.out]; omega)
          obtain ⟨b, off, rfl, r0, r1⟩ := hs.at ht (by omega)
          obtain ⟨b', off', e', q0, q1⟩ := hs.at hs1 (by omega)
          simp only [Option.some.injEq, Addr.mk.injEq] at e'
          obtain ⟨rfl, rfl, -⟩ := e'
          have Hs : Hid (ts[m]? = some s) := hs1
          have hk1 : (m : Int) < (n : Int) := by omega
          have hp : 0 < k := h0
          have hm1 : (k : Int) - 1 = (m : Int) := by omega
          have hw : IntKind.i64.wrap (m : Int) = (m : Int) := Go.IntWalk.i64_in _ (by omega)
          have Hm : Hid (k = m + 1) := hm
          clear hs ht hs1 q1 hm h0
          cases hd : decide (t.no ≤ s.no)
          · go_wp2
            refine wp_region_held_drew (S := (fun w' => Keeps w w')) (by kernel_rfl) ?_ (fun hHeld => ?_)
            · exact Keeps.drew (by assumption)
            refine Plan.go [0, 1, 2, 3] ?_
            iterate 4 (refine takeL (by simp only [opsAt]; rfl) (by kernel_rfl) (by exact fun _ _ _ h => h) (by rfl) (by assumption) (fun w _ => by go_simp; try (with_reducible rfl)) ?_; try simp only [putAtH])
            refine Plan.nil ?_
            refine callH 4 (by kernel_rfl) (by simp only [opsAt]; rfl) (fun K hK => ?_)
            go_simp
            first
              | (go_at_call 85; refine (specTaskOk_any t _).mono ?_; rintro e w' ⟨rfl, hkk⟩; rw [hb])
            try go_wp2_with fail
            refine hK.out _ _ ?_ (fun hHeld => ?_)
            · exact Keeps.trans (by assumption) (by assumption)
            clear hK K
            try simp only [putAtH]
            refine Plan.go [5, 6, 7, 8, 9, 10, 11, 12, 13, 14, 15, 16, 17, 18, 19, 20, 21, 22, 23] ?_
            iterate 19 (refine takeL (by simp only [opsAt]; rfl) (by kernel_rfl) (by exact fun _ _ _ h => h) (by rfl) (by assumption) (fun w _ => by go_simp; try (with_reducible rfl)) ?_; try simp only [putAtH])
            refine Plan.nil ?_
            refine wpAnyH_done (by kernel_rfl) ?_ _
            go_wp2
            exact ⟨⟨k + 1, by omega, by go_num, by assumption, fun j x hj hjx => by
              by_cases e : j = k
              · subst e; rw [Ht.out] at hjx; cases hjx; exact hb
              · exact H1.out j x (by omega) hjx, fun j x y hj hx hy => by
              have hk := Hm.out
              by_cases e : j = m
              · subst e; rw [← hk] at hy; rw [Hs.out] at hx; rw [Ht.out] at hy; cases hx; cases hy
                have := of_decide_eq_false hd; omega
              · exact H2.out j x y (by omega) hx hy⟩, by simp only [intOf]; omega⟩
          · have Hr : Hid (tasksB ts = false) := tasksB_down Hs.out (by rw [← Hm.out]; exact Ht.out) (of_decide_eq_true hd)
            go_wp2
            refine wp_region_held_drew (S := (fun w' => Keeps w w')) (by kernel_rfl) ?_ (fun hHeld => ?_)
            · exact Keeps.drew (by assumption)
            refine Plan.go [0, 1, 2, 3] ?_
            iterate 4 (refine takeL (by simp only [opsAt]; rfl) (by kernel_rfl) (by exact fun _ _ _ h => h) (by rfl) (by assumption) (fun w _ => by go_simp; try (with_reducible rfl)) ?_; try simp only [putAtH])
            refine Plan.nil ?_
            refine callH 4 (by kernel_rfl) (by simp only [opsAt]; rfl) (fun K hK => ?_)
            go_simp
            first
              | (go_at_call 85; refine (specTaskOk_any t _).mono ?_; rintro e w' ⟨rfl, hkk⟩; rw [hb])
            try go_wp2_with fail
            refine hK.out _ _ ?_ (fun hHeld => ?_)
            · exact Keeps.trans (by assumption) (by assumption)
            clear hK K
            try simp only [putAtH]
            refine Plan.go [5, 6, 7, 8, 9, 10, 11, 12, 13, 14, 15, 16, 17, 18, 19, 20, 21, 22, 23] ?_
            iterate 19 (refine takeL (by simp only [opsAt]; rfl) (by kernel_rfl) (by exact fun _ _ _ h => h) (by rfl) (by assumption) (fun w _ => by go_simp; try (with_reducible rfl)) ?_; try simp only [putAtH])
            refine Plan.nil ?_
            refine wpAnyH_done (by kernel_rfl) ?_ _
            go_wp2
            go_ret
            exact ⟨by rw [Hr.out]; rfl, by assumption⟩
    · have Hr : Hid (tasksB ts = decide (n ≤ 12)) := by
        show _ = _
        rw [← Hn.out]
        have hh : ∀ (j : Nat) (t : Tsk), ts[j]? = some t → j < k := fun j t h => by
          rcases Nat.lt_or_ge j ts.length with h' | h'
          · have := Hn.out; omega
          · simp [List.getElem?_eq_none h'] at h
        exact tasksB_all (fun j t h => H1.out j t (hh j t h) h) (fun j s t h1 h2 => H2.out j s t (hh _ t h2) h1 h2)
      by_cases h12 : n ≤ 12
      · have hd : decide ((n : Int) ≤ 12) = true := by simp; omega
        go_wp2
        go_ret
        exact ⟨by rw [Hr.out]; simp [h12], hK⟩
      · have hd : decide ((n : Int) ≤ 12) = false := by simp; omega
        go_wp2
        go_ret
        exact ⟨by rw [Hr.out]; simp [h12], hK⟩
end Go.Proofs.YtpikopdfkhagmaaGreatDoor
namespace Go.Proofs.YtpikopdfkhagmaaGreatDoor
open Go.RowKit
attribute [local go_sem] Keeps.refl Keeps.alloc Keeps.drew Keeps.drewN

/-- The task t ahead of the first whose number is not below its own. -/
def ins (t : Tsk) : List Tsk → List Tsk
  | [] => [t]
  | x :: r => if decide (t.no ≤ x.no) then t :: x :: r else x :: ins t r
theorem ins_length (t : Tsk) (ts : List Tsk) : (ins t ts).length = ts.length + 1 := by
  induction ts with
  | nil => rfl
  | cons x r ih => simp only [ins]; split <;> simp [ih]
/-- The list that comes of it, and whether. -/
def putL (ts : List Tsk) (t : Tsk) : List Tsk := if tasksB ts then (if tasksB (ins t ts) then ins t ts else ts) else []
def putB (ts : List Tsk) (t : Tsk) : Bool := tasksB ts && tasksB (ins t ts)
theorem tasksB_len {ts : List Tsk} (h : tasksB ts = true) : ts.length ≤ 12 := by
  simp only [tasksB, Bool.and_eq_true, decide_eq_true_eq] at h; exact h.2

theorem tc_size (t : Tsk) : (tc t).size = 14 := rfl
theorem tc_one (t : Tsk) : ∀ u ∈ (tc t).toList, u.oneCell' = true := by
  intro u hu
  simp at hu
  rcases hu with rfl | rfl | rfl | rfl | rfl | rfl | rfl | rfl | rfl | rfl | rfl | rfl | rfl | rfl <;> rfl
/-- A row of tasks of one's own. -/
abbrev OwnT (w : World) (base : Nat) (v : Value) (ts : List Tsk) : Prop := Own 90 14 tc w base v ts

set_option maxRecDepth 100000 in
set_option maxHeartbeats 4000000 in
theorem specTaskPut_any (ba off cap : Nat) (ts : List Tsk) (t : Tsk) (w : World) (hl : ts.length ≤ maxLen) (hs : Ts w (some ⟨ba, off, none⟩) ts) :
    Calls Tryz.prog 93 #[.slice (some ⟨ba, off, none⟩) ts.length cap, tk t] w fun e w' => ∃ v, e = .returned (.tuple #[v, .bool (putB ts t)]) ∧ OwnT w' w.heap.size v (putL ts t) ∧ Keeps w w' := by
  generalize hn : ts.length = n at *
  have Hn : Hid (ts.length = n) := hn
  clear hn
  go_enter Tryz.func93, Tryz.ntmps93
  go_wp2_with fail
  have kW : Keeps w (w.alloc (.cells (tc t) 90)) := (Keeps.refl _).alloc _
  have B0 := Blk.new w (tc t) 90
  have hs0 := hs.keeps kW
  refine ((Hn.out ▸ specTasksOk_any (some ⟨ba, off, none⟩) cap ts _ (by rw [Hn.out]; exact hl) hs0 : Calls _ _ _ _ _)).mono ?_
  rintro e w1 ⟨rfl, k1⟩
  have B1 := B0.keeps k1
  have hs1 := hs0.keeps k1
  have kw1 := kW.trans k1
  clear kW B0 hs0 k1 hs
  cases hb : tasksB ts
  · have Hb : Hid (putB ts t = false) := by show _ = _; simp [putB, hb]
    have Hp : Hid (putL ts t = []) := by show _ = _; simp [putL, hb]
    go_wp2
    go_ret2
    exact ⟨_, by rw [Hb.out]; rfl, by rw [Hp.out]; exact Own.new 90 14 tc w1 kw1.size, kw1.alloc _⟩
  · have h12 : n ≤ 12 := by rw [← Hn.out]; exact tasksB_len hb
    have Hts : Hid (tasksB ts = true) := hb
    clear hb
    go_wp2_with fail
    have kz : Keeps w1 (w1.alloc (.cells #[] 90)) := (Keeps.refl _).alloc _
    have own0 : OwnT (w1.alloc (.cells #[] 90)) w1.heap.size (.slice (some ⟨w1.heap.size, 0, none⟩) 0 0) [] := Own.new 90 14 tc w1 (Nat.le_refl _)
    generalize w1.alloc (.cells #[] 90) = W at *
    have b0 : ∀ w', Keeps w1 w' → ∀ k, w'.cell? ⟨w.heap.size, k, none⟩ = (tc t)[k]? := fun w' h => (B1.keeps h).cells
    clear B1
    go_loopw [6, 7, 8] (fun v p i wr => ∃ (k : Nat) (put : Bool) (xs : List Tsk), k ≤ n ∧ i = .int .i64 k ∧ p = .bool put ∧ OwnT wr w1.heap.size v xs ∧ Keeps w1 wr ∧ Hid (xs ++ (if put then ts.drop k else ins t (ts.drop k)) = ins t ts)) (fun _ _ i _ => n - (intOf i).toNat)
    case atStart => exact ⟨0, false, [], Nat.zero_le _, rfl, rfl, own0, kz, by show _ = _; simp⟩
    case round =>
      obtain ⟨k, put, xs, hk', rfl, rfl, hown, hk, HI⟩ := hrel
      clear own0 kz
      have hxl : xs.length ≤ 13 := by
        have := congrArg List.length HI.out
        rw [List.length_append, ins_length, Hn.out] at this
        omega
      by_cases hlt : k < n
      · obtain ⟨x, hx⟩ := some_at (xs := ts) (k := k) (by rw [Hn.out]; exact hlt)
        have Hd : Hid (ts.drop k = x :: ts.drop (k + 1)) := by
          show _ = _
          rw [List.drop_eq_getElem_cons (by rw [Hn.out]; exact hlt)]
          congr 1
          rw [List.getElem?_eq_getElem (by rw [Hn.out]; exact hlt)] at hx
          simpa using hx
        obtain ⟨ba', off', e', r0, r1⟩ := hs1.at hx (by omega)
        simp only [Option.some.injEq, Addr.mk.injEq] at e'
        obtain ⟨rfl, rfl, -⟩ := e'
        have hlt' : (k : Int) < (n : Int) := by omega
        have HS : Hid (Lies 14 tc w1 (some ⟨ba, off, none⟩) ts) := hs1
        clear hx hs1
        cases put
        · cases hd : decide (t.no ≤ x.no)
          · go_wp2
            refine wp_region_held_drew (S := (fun w' => Keeps w1 w')) (by kernel_rfl) ?_ (fun hHeld => ?_)
            · exact Keeps.drew (by assumption)
            refine Plan.go [0, 1, 2, 3, 4, 5, 6, 7, 8, 9, 10, 11] ?_
            iterate 12 (refine takeL (by simp only [opsAt]; rfl) (by kernel_rfl) (by exact fun _ _ _ h => h) (by rfl) (by assumption) (fun w _ => by go_simp; try (with_reducible rfl)) ?_; try simp only [putAtH])
            refine Plan.nil ?_
            refine wpAnyH_done (by kernel_rfl) ?_ _
            go_wp2_with (at_builtin; (refine wpList_push rfl _ _ 38 rfl w1 90 (tk Tsk.zero) 14 112 tc Tryz.underlying38 (by kernel_rfl) rfl (by decide) tc_size tc_one _ xs rfl wr hown hk (((Keeps.refl _).alloc _).drew) x _ 1 ((Blk.new _ _ _).keeps (Keeps.refl _).drew) rfl ?c1 ?c2 ?_))
            case c1 => unfold maxLen; omega
            case c2 => omega
            intro v' w5 hown5 k5 _
            have HO : Hid (OwnT w5 w1.heap.size v' (xs ++ [x])) := hown5
            clear hown5 hown
            go_wp2
            refine ⟨⟨k + 1, false, xs ++ [x], by omega, by go_num, rfl, HO.out, k5, ?_⟩, by simp only [intOf]; omega⟩
            show _ = _
            rw [← HI.out, Hd.out]
            simp [ins, hd]
          · go_wp2
            refine wp_region_held_drew (S := (fun w' => Keeps w1 w')) (by kernel_rfl) ?_ (fun hHeld => ?_)
            · exact Keeps.drew (by assumption)
            refine Plan.go [0, 1, 2, 3, 4, 5, 6, 7, 8, 9, 10, 11] ?_
            iterate 12 (refine takeL (by simp only [opsAt]; rfl) (by kernel_rfl) (by exact fun _ _ _ h => h) (by rfl) (by assumption) (fun w _ => by go_simp; try (with_reducible rfl)) ?_; try simp only [putAtH])
            refine Plan.nil ?_
            refine wpAnyH_done (by kernel_rfl) ?_ _
            go_wp2_with (at_builtin; (refine wpList_push rfl _ _ 38 rfl w1 90 (tk Tsk.zero) 14 112 tc Tryz.underlying38 (by kernel_rfl) rfl (by decide) tc_size tc_one _ xs rfl wr hown hk (((Keeps.refl _).alloc _).drew) t _ 1 ((Blk.new _ _ _).keeps (Keeps.refl _).drew) rfl ?c1 ?c2 ?_))
            case c1 => unfold maxLen; omega
            case c2 => omega
            intro v' w5 hown5 k5 _
            have HO : Hid (OwnT w5 w1.heap.size v' (xs ++ [t])) := hown5
            clear hown
            go_wp2_with (at_builtin; (refine wpList_push rfl _ _ 38 rfl w1 90 (tk Tsk.zero) 14 112 tc Tryz.underlying38 (by kernel_rfl) rfl (by decide) tc_size tc_one _ (xs ++ [t]) rfl w5 hown5 k5 ((Keeps.refl _).alloc _) x _ 1 (Blk.new _ _ _) rfl ?c1 ?c2 ?_))
            case c1 => unfold maxLen; simp; omega
            case c2 => simp; omega
            intro v6 w6 hown6 k6 _
            have HO6 : Hid (OwnT w6 w1.heap.size v6 (xs ++ [t, x])) := hown6
            clear hown5 hown6
            go_wp2
            refine ⟨⟨k + 1, true, xs ++ [t, x], by omega, by go_num, rfl, HO6.out, k6, ?_⟩, by simp only [intOf]; omega⟩
            show _ = _
            rw [← HI.out, Hd.out]
            simp [ins, hd]
        · go_wp2
          refine wp_region_held_drew (S := (fun w' => Keeps w1 w')) (by kernel_rfl) ?_ (fun hHeld => ?_)
          · exact Keeps.drew (by assumption)
          refine Plan.go [0, 1, 2] ?_
          iterate 3 (refine takeL (by simp only [opsAt]; rfl) (by kernel_rfl) (by exact fun _ _ _ h => h) (by rfl) (by assumption) (fun w _ => by go_simp; try (with_reducible rfl)) ?_; try simp only [putAtH])
          refine Plan.nil ?_
          refine Plan.go [3, 4, 5, 6, 7, 8, 9, 10] ?_
          iterate 8 (refine skipL (by simp only [opsAt]; rfl) (by kernel_rfl) (by exact fun _ _ _ h => h) (by rfl) (by assumption) ?_; try simp only [putAtH])
          refine Plan.nil ?_
          refine takeH 11 (v := ?_) (by simp only [opsAt]; rfl) (by kernel_rfl) (by exact fun _ _ _ h => h) (by rfl) (by assumption) ?_ ?_
          rotate_left
          · (intro w _; go_simp; try (with_reducible rfl))
          try simp only [putAtH]
          refine wpAnyH_done (by kernel_rfl) ?_ _
          go_wp2_with (at_builtin; (refine wpList_push rfl _ _ 38 rfl w1 90 (tk Tsk.zero) 14 112 tc Tryz.underlying38 (by kernel_rfl) rfl (by decide) tc_size tc_one _ xs rfl wr hown hk (((Keeps.refl _).alloc _).drew) x _ 1 ((Blk.new _ _ _).keeps (Keeps.refl _).drew) rfl ?c1 ?c2 ?_))
          case c1 => unfold maxLen; omega
          case c2 => omega
          intro v' w5 hown5 k5 _
          have HO : Hid (OwnT w5 w1.heap.size v' (xs ++ [x])) := hown5
          clear hown5 hown
          go_wp2
          refine ⟨⟨k + 1, true, xs ++ [x], by omega, by go_num, rfl, HO.out, k5, ?_⟩, by simp only [intOf]; omega⟩
          show _ = _
          rw [← HI.out, Hd.out]
          simp
      · have e : k = n := by omega
        subst e
        have hdn : ts.drop k = [] := List.drop_eq_nil_of_le (by rw [Hn.out]; exact Nat.le_refl _)
        have hI := HI.out
        rw [hdn] at hI
        clear hdn HI hk' hlt
        cases put
        · have HI : Hid (xs ++ [t] = ins t ts) := by
            show _ = _
            simpa [ins] using hI
          clear hI
          go_wp2_with (at_builtin; (refine wpList_push rfl _ _ 38 rfl w1 90 (tk Tsk.zero) 14 112 tc Tryz.underlying38 (by kernel_rfl) rfl (by decide) tc_size tc_one _ xs rfl wr hown hk ((Keeps.refl _).alloc _) t _ 1 (Blk.new _ _ _) rfl ?c1 ?c2 ?_))
          case c1 => unfold maxLen; omega
          case c2 => omega
          intro v2 w2 hown2 hk2 _
          clear hown hk
          have hown := hown2
          have hk := hk2
          obtain ⟨ys, HY⟩ : ∃ ys, Hid (ys = xs ++ [t]) := ⟨_, rfl⟩
          rw [← HY.out] at hown
          have HX0 : Hid (ys = ins t ts) := HY.out.trans HI.out
          clear hown2 hk2 HI HY hxl xs
          revert HX0
          revert hown
          generalize ys = xs
          intro hown HX
          obtain ⟨av, cv, rfl, hlies, hcv, hmv⟩ := hown.slice tc_size
          have hxl : Hid (xs.length = ts.length + 1) := by show _ = _; rw [HX.out, ins_length]
          go_wp2_with fail
          refine (specTasksOk_any av cv xs _ (by rw [hxl.out, Hn.out]; unfold maxLen; omega) hlies).mono ?_
          rintro e w3 ⟨rfl, k3⟩
          have hown3 := hown.keeps k3
          have kw3 := hk.trans k3
          have hX := HX.out
          subst hX
          cases hq : tasksB (ins t ts)
          · have Hb : Hid (putB ts t = false) := by show _ = _; simp [putB, hq]
            have Hp : Hid (putL ts t = ts) := by show _ = _; simp [putL, hq, Hts.out]
            clear hown hown3 hlies
            have hts3 := hs1.keeps kw3
            go_wp2_with (at_builtin; (refine wpList_pushAll rfl _ _ 38 rfl w3 90 (tk Tsk.zero) 14 112 tc Tryz.underlying38 (by kernel_rfl) rfl (by decide) tc_size tc_one _ [] rfl (Own.new 90 14 tc w3 (Nat.le_refl _)) ((Keeps.refl _).alloc _) ba off cap ts (by rw [Hn.out]; rfl) (hts3.keeps ((Keeps.refl _).alloc _)) ?c1 ?c2 ?_))
            case c1 => rw [Hn.out]; unfold maxLen; simp; omega
            case c2 => rw [Hn.out]; simp; omega
            intro v' w5 hown5 k5 _
            have HO : Hid (OwnT w5 w3.heap.size v' ([] ++ ts)) := hown5
            clear hown5
            go_wp2
            go_ret2
            exact ⟨_, by rw [Hb.out]; rfl, by rw [Hp.out]; exact Own.base HO.out (kw1.trans kw3).size, (kw1.trans kw3).trans k5⟩
          · have Hb : Hid (putB ts t = true) := by show _ = _; simp [putB, hq, Hts.out]
            have Hp : Hid (putL ts t = ins t ts) := by show _ = _; simp [putL, hq, Hts.out]
            go_wp2
            go_ret2
            exact ⟨_, by rw [Hb.out]; rfl, by rw [Hp.out]; exact Own.base hown3 kw1.size, kw1.trans kw3⟩
        · have HX : Hid (xs = ins t ts) := by
            show _ = _
            simpa using hI
          clear hI hxl
          obtain ⟨av, cv, rfl, hlies, hcv, hmv⟩ := hown.slice tc_size
          have hxl : Hid (xs.length = ts.length + 1) := by show _ = _; rw [HX.out, ins_length]
          go_wp2_with fail
          refine (specTasksOk_any av cv xs _ (by rw [hxl.out, Hn.out]; unfold maxLen; omega) hlies).mono ?_
          rintro e w3 ⟨rfl, k3⟩
          have hown3 := hown.keeps k3
          have kw3 := hk.trans k3
          have hX := HX.out
          subst hX
          cases hq : tasksB (ins t ts)
          · have Hb : Hid (putB ts t = false) := by show _ = _; simp [putB, hq]
            have Hp : Hid (putL ts t = ts) := by show _ = _; simp [putL, hq, Hts.out]
            clear hown hown3 hlies
            have hts3 := hs1.keeps kw3
            go_wp2_with (at_builtin; (refine wpList_pushAll rfl _ _ 38 rfl w3 90 (tk Tsk.zero) 14 112 tc Tryz.underlying38 (by kernel_rfl) rfl (by decide) tc_size tc_one _ [] rfl (Own.new 90 14 tc w3 (Nat.le_refl _)) ((Keeps.refl _).alloc _) ba off cap ts (by rw [Hn.out]; rfl) (hts3.keeps ((Keeps.refl _).alloc _)) ?c1 ?c2 ?_))
            case c1 => rw [Hn.out]; unfold maxLen; simp; omega
            case c2 => rw [Hn.out]; simp; omega
            intro v' w5 hown5 k5 _
            have HO : Hid (OwnT w5 w3.heap.size v' ([] ++ ts)) := hown5
            clear hown5
            go_wp2
            go_ret2
            exact ⟨_, by rw [Hb.out]; rfl, by rw [Hp.out]; exact Own.base HO.out (kw1.trans kw3).size, (kw1.trans kw3).trans k5⟩
          · have Hb : Hid (putB ts t = true) := by show _ = _; simp [putB, hq, Hts.out]
            have Hp : Hid (putL ts t = ins t ts) := by show _ = _; simp [putL, hq, Hts.out]
            go_wp2
            go_ret2
            exact ⟨_, by rw [Hb.out]; rfl, by rw [Hp.out]; exact Own.base hown3 kw1.size, kw1.trans kw3⟩
end Go.Proofs.YtpikopdfkhagmaaGreatDoor
