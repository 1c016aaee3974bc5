/-
  A list of tasks: the contract of the model's TasksOk.
  A task is put among others: the contract of the model's TaskPut.
  Lists of tasks are marked, and looked at again: the laws' own helpers.
  In a list of tasks each is found at its place.
  Two tasks are held against each other as a whole.
  The walks of the exact laws over lists of tasks, over contracts of the program's functions.
  A task, and a list of tasks, that come in as arguments: what their reading says of their cells.
-/
import Derived.Test.YthpdlbcdbncnhaaGreatDoorGTask2
import Derived.Test.YthpdlbcdbncnhaaGreatDoorGBase1
import Derived.Test.YthpdlbcdbncnhaaGreatDoorGTask1
import Derived.Laws.StructEq
import Derived.Test.YthpdlbcdbncnhaaGreatDoorGBase2
import Derived.Deep.SlicePairs
namespace Go.Proofs.YthpdlbcdbncnhaaGreatDoor
open Go.RowKit
attribute [local go_sem] Keeps.refl Keeps.alloc Keeps.drew Keeps.drewN

/-- Ascending by number. -/
def ascB : List Tsk → Bool
  | a :: b :: r => decide (a.no < b.no) && ascB (b :: r)
  | _ => true
theorem ascB_iff (ts : List Tsk) : ascB ts = true ↔ ∀ j a b, ts[j]? = some a → ts[j + 1]? = some b → a.no < b.no := by
  induction ts with
  | nil => simp [ascB]
  | cons x r ih =>
    cases r with
    | nil => simp [ascB]
    | cons y r =>
      simp only [ascB, Bool.and_eq_true, decide_eq_true_eq, ih]
      constructor
      · rintro ⟨h1, h2⟩ j a b ha hb
        cases j with
        | zero => simp at ha hb; subst ha hb; exact h1
        | succ j => exact h2 j a b (by simpa using ha) (by simpa using hb)
      · intro h
        exact ⟨h 0 x y rfl rfl, fun j a b ha hb => h (j + 1) a b (by simpa using ha) (by simpa using hb)⟩
/-- It is a list of tasks. -/
def tasksB (ts : List Tsk) : Bool := ts.all taskB && ascB ts && decide (ts.length ≤ 12)
theorem tasksB_bad {ts : List Tsk} {k : Nat} {t : Tsk} (h : ts[k]? = some t) (ht : taskB t = false) : tasksB ts = false := by
  have : ts.all taskB = false := by
    rw [List.all_eq_false]
    exact ⟨t, List.mem_of_getElem? h, by simp [ht]⟩
  simp [tasksB, this]
theorem tasksB_down {ts : List Tsk} {k : Nat} {s t : Tsk} (hs : ts[k]? = some s) (ht : ts[k + 1]? = some t) (h : t.no ≤ s.no) : tasksB ts = false := by
  have : ascB ts = false := by
    rw [Bool.eq_false_iff]
    intro e
    have := (ascB_iff ts).1 e k s t hs ht
    omega
  simp [tasksB, this]
theorem tasksB_all {ts : List Tsk} (h1 : ∀ (j : Nat) (t : Tsk), ts[j]? = some t → taskB t = true) (h2 : ∀ (j : Nat) (a b : Tsk), ts[j]? = some a → ts[j + 1]? = some b → a.no < b.no) : tasksB ts = decide (ts.length ≤ 12) := by
  have e1 : ts.all taskB = true := by
    rw [List.all_eq_true]
    intro t ht
    obtain ⟨j, hj, rfl⟩ := List.mem_iff_getElem.1 ht
    exact h1 j _ (List.getElem?_eq_getElem hj)
  simp [tasksB, e1, (ascB_iff ts).2 h2]

set_option maxRecDepth 100000 in
set_option maxHeartbeats 4000000 in
theorem specTasksOk_any (a : Option Addr) (cap : Nat) (ts : List Tsk) (w : World) (hl : ts.length ≤ maxLen) (hs : Ts w a ts) :
    Calls Tryz.prog 70 #[.slice a ts.length cap] w fun e w' => e = .returned (.bool (tasksB ts)) ∧ Keeps w w' := by
  unfold maxLen at hl
  generalize hn : ts.length = n at hl
  have Hn : Hid (ts.length = n) := hn
  clear hn
  go_enter Tryz.func70, Tryz.ntmps70
  go_wp2
  go_loopw [3] (fun i wr => ∃ k : Nat, k ≤ n ∧ i = .int .i64 k ∧ Keeps w wr ∧ Hid (∀ j t, j < k → ts[j]? = some t → taskB t = true) ∧ Hid (∀ j s t, j + 1 < k → ts[j]? = some s → ts[j + 1]? = some t → s.no < t.no)) (fun i _ => n - (intOf i).toNat)
  case atStart => exact ⟨0, Nat.zero_le _, rfl, Keeps.refl _, fun j t hj => by omega, fun j s t hj => by omega⟩
  case round =>
    obtain ⟨k, hk, rfl, hK, H1, H2⟩ := hrel
    by_cases hlt : k < n
    · obtain ⟨t, ht⟩ := some_at (xs := ts) (k := k) (by rw [Hn.out]; exact hlt)
      have hlt' : (k : Int) < (n : Int) := by omega
      have Ht : Hid (ts[k]? = some t) := ht
      cases hb : taskB t
      · obtain ⟨b, off, rfl, r0, r1⟩ := hs.at ht (by omega)
        have Hr : Hid (tasksB ts = false) := tasksB_bad ht hb
        clear hs ht
        go_wp2
        refine wp_region_held_drew (S := (fun w' => Keeps w w')) (by kernel_rfl) ?_ (fun hHeld => ?_)
        · exact Keeps.drew (by assumption)
        refine Plan.go [0, 1, 2, 3] ?_
        iterate 4 (refine takeL (by simp only [opsAt]; rfl) (by kernel_rfl) (by exact fun _ _ _ h => h) (by rfl) (by assumption) (fun w _ => by go_simp; try (with_reducible rfl)) ?_; try simp only [putAtH])
        refine Plan.nil ?_
        refine callH 4 (by kernel_rfl) (by simp only [opsAt]; rfl) (fun K hK => ?_)
        go_simp
        first
          | (go_at_call 109; refine (specTaskOk_any t _).mono ?_; rintro e w' ⟨rfl, hkk⟩; rw [hb])
        try go_wp2_with fail
        refine hK.out _ _ ?_ (fun hHeld => ?_)
        · exact Keeps.trans (by assumption) (by assumption)
        clear hK K
        try simp only [putAtH]
        refine Plan.go [5, 6] ?_
        iterate 2 (refine takeL (by simp only [opsAt]; rfl) (by kernel_rfl) (by exact fun _ _ _ h => h) (by rfl) (by assumption) (fun w _ => by go_simp; try (with_reducible rfl)) ?_; try simp only [putAtH])
        refine Plan.nil ?_
        refine Plan.go [7, 8, 9, 10, 11, 12, 13, 14, 15, 16, 17, 18, 19, 20, 21, 22] ?_
        iterate 16 (refine skipL (by simp only [opsAt]; rfl) (by kernel_rfl) (by exact fun _ _ _ h => h) (by rfl) (by assumption) ?_; try simp only [putAtH])
        refine Plan.nil ?_
        refine takeH 23 (v := ?_) (by simp only [opsAt]; rfl) (by kernel_rfl) (by exact fun _ _ _ h => h) (by rfl) (by assumption) ?_ ?_
        rotate_left
        · (intro w _; go_simp; try (with_reducible rfl))
        try simp only [putAtH]
        refine wpAnyH_done (by kernel_rfl) ?_ _
        go_wp2
        go_ret
        exact ⟨by rw [Hr.out]; rfl, by assumption⟩
      · rcases Nat.eq_zero_or_pos k with h0 | h0
        · obtain ⟨b, off, rfl, r0, r1⟩ := hs.at ht (by omega)
          have hz : decide (0 < k) = false := by simp; omega
          have H0 : Hid (k = 0) := h0
          clear hs ht h0
          go_wp2
          refine wp_region_held_drew (S := (fun w' => Keeps w w')) (by kernel_rfl) ?_ (fun hHeld => ?_)
          · exact Keeps.drew (by assumption)
          refine Plan.go [0, 1, 2, 3] ?_
          iterate 4 (refine takeL (by simp only [opsAt]; rfl) (by kernel_rfl) (by exact fun _ _ _ h => h) (by rfl) (by assumption) (fun w _ => by go_simp; try (with_reducible rfl)) ?_; try simp only [putAtH])
          refine Plan.nil ?_
          refine callH 4 (by kernel_rfl) (by simp only [opsAt]; rfl) (fun K hK => ?_)
          go_simp
          first
            | (go_at_call 109; refine (specTaskOk_any t _).mono ?_; rintro e w' ⟨rfl, hkk⟩; rw [hb])
          try go_wp2_with fail
          refine hK.out _ _ ?_ (fun hHeld => ?_)
          · exact Keeps.trans (by assumption) (by assumption)
          clear hK K
          try simp only [putAtH]
          refine Plan.go [5, 6, 7, 8, 9] ?_
          iterate 5 (refine takeL (by simp only [opsAt]; rfl) (by kernel_rfl) (by exact fun _ _ _ h => h) (by rfl) (by assumption) (fun w _ => by go_simp; try (with_reducible rfl)) ?_; try simp only [putAtH])
          refine Plan.nil ?_
          refine Plan.go [10, 11, 12, 13, 14, 15, 16, 17, 18, 19, 20, 21] ?_
          iterate 12 (refine skipL (by simp only [opsAt]; rfl) (by kernel_rfl) (by exact fun _ _ _ h => h) (by rfl) (by assumption) ?_; try simp only [putAtH])
          refine Plan.nil ?_
          refine Plan.go [22, 23] ?_
          iterate 2 (refine takeL (by simp only [opsAt]; rfl) (by kernel_rfl) (by exact fun _ _ _ h => h) (by rfl) (by assumption) (fun w _ => by go_simp; try (with_reducible rfl)) ?_; try simp only [putAtH])
          refine Plan.nil ?_
          refine wpAnyH_done (by kernel_rfl) ?_ _
          go_wp2
          exact ⟨⟨k + 1, by omega, by go_num, by assumption, fun j s hj hjs => by
            obtain rfl : j = k := by have := H0.out; omega
            rw [Ht.out] at hjs; cases hjs; exact hb, fun j s u hj => by have := H0.out; omega⟩, by simp only [intOf]; omega⟩
        · obtain ⟨m, hm⟩ : ∃ m, k = m + 1 := ⟨k - 1, by omega⟩
          obtain ⟨s, hs1⟩ := some_at (xs := ts) (k := m) (by rw [Hn.out]; omega)
          obtain ⟨b, off, rfl, r0, r1⟩ := hs.at ht (by omega)
          obtain ⟨b', off', e', q0, q1⟩ := hs.at hs1 (by omega)
          simp only [Option.some.injEq, Addr.mk.injEq] at e'
          obtain ⟨rfl, rfl, -⟩ := e'
          have Hs : Hid (ts[m]? = some s) := hs1
          have hk1 : (m : Int) < (n : Int) := by omega
          have hp : 0 < k := h0
          have hm1 : (k : Int) - 1 = (m : Int) := by omega
          have hw : IntKind.i64.wrap (m : Int) = (m : Int) := Go.IntWalk.i64_in _ (by omega)
          have Hm : Hid (k = m + 1) := hm
          clear hs ht hs1 q1 hm h0
          cases hd : decide (t.no ≤ s.no)
          · go_wp2
            refine wp_region_held_drew (S := (fun w' => Keeps w w')) (by kernel_rfl) ?_ (fun hHeld => ?_)
            · exact Keeps.drew (by assumption)
            refine Plan.go [0, 1, 2, 3] ?_
            iterate 4 (refine takeL (by simp only [opsAt]; rfl) (by kernel_rfl) (by exact fun _ _ _ h => h) (by rfl) (by assumption) (fun w _ => by go_simp; try (with_reducible rfl)) ?_; try simp only [putAtH])
            refine Plan.nil ?_
            refine callH 4 (by kernel_rfl) (by simp only [opsAt]; rfl) (fun K hK => ?_)
            go_simp
            first
              | (go_at_call 109; refine (specTaskOk_any t _).mono ?_; rintro e w' ⟨rfl, hkk⟩; rw [hb])
            try go_wp2_with fail
            refine hK.out _ _ ?_ (fun hHeld => ?_)
            · exact Keeps.trans (by assumption) (by assumption)
            clear hK K
            try simp only [putAtH]
            refine Plan.go [5, 6, 7, 8, 9, 10, 11, 12, 13, 14, 15, 16, 17, 18, 19, 20, 21, 22, 23] ?_
            iterate 19 (refine takeL (by simp only [opsAt]; rfl) (by kernel_rfl) (by exact fun _ _ _ h => h) (by rfl) (by assumption) (fun w _ => by go_simp; try (with_reducible rfl)) ?_; try simp only [putAtH])
            refine Plan.nil ?_
            refine wpAnyH_done (by kernel_rfl) ?_ _
            go_wp2
            exact ⟨⟨k + 1, by omega, by go_num, by assumption, fun j x hj hjx => by
              by_cases e : j = k
              · subst e; rw [Ht.out] at hjx; cases hjx; exact hb
              · exact H1.out j x (by omega) hjx, fun j x y hj hx hy => by
              have hk := Hm.out
              by_cases e : j = m
              · subst e; rw [← hk] at hy; rw [Hs.out] at hx; rw [Ht.out] at hy; cases hx; cases hy
                have := of_decide_eq_false hd; omega
              · exact H2.out j x y (by omega) hx hy⟩, by simp only [intOf]; omega⟩
          · have Hr : Hid (tasksB ts = false) := tasksB_down Hs.out (by rw [← Hm.out]; exact Ht.out) (of_decide_eq_true hd)
            go_wp2
            refine wp_region_held_drew (S := (fun w' => Keeps w w')) (by kernel_rfl) ?_ (fun hHeld => ?_)
            · exact Keeps.drew (by assumption)
            refine Plan.go [0, 1, 2, 3] ?_
            iterate 4 (refine takeL (by simp only [opsAt]; rfl) (by kernel_rfl) (by exact fun _ _ _ h => h) (by rfl) (by assumption) (fun w _ => by go_simp; try (with_reducible rfl)) ?_; try simp only [putAtH])
            refine Plan.nil ?_
            refine callH 4 (by kernel_rfl) (by simp only [opsAt]; rfl) (fun K hK => ?_)
            go_simp
            first
              | (go_at_call 109; refine (specTaskOk_any t _).mono ?_; rintro e w' ⟨rfl, hkk⟩; rw [hb])
            try go_wp2_with fail
            refine hK.out _ _ ?_ (fun hHeld => ?_)
            · exact Keeps.trans (by assumption) (by assumption)
            clear hK K
            try simp only [putAtH]
            refine Plan.go [5, 6, 7, 8, 9, 10, 11, 12, 13, 14, 15, 16, 17, 18, 19, 20, 21, 22, 23] ?_
            iterate 19 (refine takeL (by simp only [opsAt]; rfl) (by kernel_rfl) (by exact fun _ _ _ h => h) (by rfl) (by assumption) (fun w _ => by go_simp; try (with_reducible rfl)) ?_; try simp only [putAtH])
            refine Plan.nil ?_
            refine wpAnyH_done (by kernel_rfl) ?_ _
            go_wp2
            go_ret
            exact ⟨by rw [Hr.out]; rfl, by assumption⟩
    · have Hr : Hid (tasksB ts = decide (n ≤ 12)) := by
        show _ = _
        rw [← Hn.out]
        have hh : ∀ (j : Nat) (t : Tsk), ts[j]? = some t → j < k := fun j t h => by
          rcases Nat.lt_or_ge j ts.length with h' | h'
          · have := Hn.out; omega
          · simp [List.getElem?_eq_none h'] at h
        exact tasksB_all (fun j t h => H1.out j t (hh j t h) h) (fun j s t h1 h2 => H2.out j s t (hh _ t h2) h1 h2)
      by_cases h12 : n ≤ 12
      · have hd : decide ((n : Int) ≤ 12) = true := by simp; omega
        go_wp2
        go_ret
        exact ⟨by rw [Hr.out]; simp [h12], hK⟩
      · have hd : decide ((n : Int) ≤ 12) = false := by simp; omega
        go_wp2
        go_ret
        exact ⟨by rw [Hr.out]; simp [h12], hK⟩
end Go.Proofs.YthpdlbcdbncnhaaGreatDoor
namespace Go.Proofs.YthpdlbcdbncnhaaGreatDoor
open Go.RowKit
attribute [local go_sem] Keeps.refl Keeps.alloc Keeps.drew Keeps.drewN

/-- The task t ahead of the first whose number is not below its own. -/
def ins (t : Tsk) : List Tsk → List Tsk
  | [] => [t]
  | x :: r => if decide (t.no ≤ x.no) then t :: x :: r else x :: ins t r
theorem ins_length (t : Tsk) (ts : List Tsk) : (ins t ts).length = ts.length + 1 := by
  induction ts with
  | nil => rfl
  | cons x r ih => simp only [ins]; split <;> simp [ih]
/-- The list that comes of it, and whether. -/
def putL (ts : List Tsk) (t : Tsk) : List Tsk := if tasksB ts then (if tasksB (ins t ts) then ins t ts else ts) else []
def putB (ts : List Tsk) (t : Tsk) : Bool := tasksB ts && tasksB (ins t ts)
theorem tasksB_len {ts : List Tsk} (h : tasksB ts = true) : ts.length ≤ 12 := by
  simp only [tasksB, Bool.and_eq_true, decide_eq_true_eq] at h; exact h.2

theorem tc_size (t : Tsk) : (tc t).size = 14 := rfl
theorem tc_one (t : Tsk) : ∀ u ∈ (tc t).toList, u.oneCell' = true := by
  intro u hu
  simp at hu
  rcases hu with rfl | rfl | rfl | rfl | rfl | rfl | rfl | rfl | rfl | rfl | rfl | rfl | rfl | rfl <;> rfl
/-- A row of tasks of one's own. -/
abbrev OwnT (w : World) (base : Nat) (v : Value) (ts : List Tsk) : Prop := Own 47 14 tc w base v ts

set_option maxRecDepth 100000 in
set_option maxHeartbeats 4000000 in
theorem specTaskPut_any (ba off cap : Nat) (ts : List Tsk) (t : Tsk) (w : World) (hl : ts.length ≤ maxLen) (hs : Ts w (some ⟨ba, off, none⟩) ts) :
    Calls Tryz.prog 146 #[.slice (some ⟨ba, off, none⟩) ts.length cap, tk t] w fun e w' => ∃ v, e = .returned (.tuple #[v, .bool (putB ts t)]) ∧ OwnT w' w.heap.size v (putL ts t) ∧ Keeps w w' := by
  generalize hn : ts.length = n at *
  have Hn : Hid (ts.length = n) := hn
  clear hn
  go_enter Tryz.func146, Tryz.ntmps146
  go_wp2_with fail
  have kW : Keeps w (w.alloc (.cells (tc t) 47)) := (Keeps.refl _).alloc _
  have B0 := Blk.new w (tc t) 47
  have hs0 := hs.keeps kW
  refine ((Hn.out ▸ specTasksOk_any (some ⟨ba, off, none⟩) cap ts _ (by rw [Hn.out]; exact hl) hs0 : Calls _ _ _ _ _)).mono ?_
  rintro e w1 ⟨rfl, k1⟩
  have B1 := B0.keeps k1
  have hs1 := hs0.keeps k1
  have kw1 := kW.trans k1
  clear kW B0 hs0 k1 hs
  cases hb : tasksB ts
  · have Hb : Hid (putB ts t = false) := by show _ = _; simp [putB, hb]
    have Hp : Hid (putL ts t = []) := by show _ = _; simp [putL, hb]
    go_wp2
    go_ret2
    exact ⟨_, by rw [Hb.out]; rfl, by rw [Hp.out]; exact Own.new 47 14 tc w1 kw1.size, kw1.alloc _⟩
  · have h12 : n ≤ 12 := by rw [← Hn.out]; exact tasksB_len hb
    have Hts : Hid (tasksB ts = true) := hb
    clear hb
    go_wp2_with fail
    have kz : Keeps w1 (w1.alloc (.cells #[] 47)) := (Keeps.refl _).alloc _
    have own0 : OwnT (w1.alloc (.cells #[] 47)) w1.heap.size (.slice (some ⟨w1.heap.size, 0, none⟩) 0 0) [] := Own.new 47 14 tc w1 (Nat.le_refl _)
    generalize w1.alloc (.cells #[] 47) = W at *
    have b0 : ∀ w', Keeps w1 w' → ∀ k, w'.cell? ⟨w.heap.size, k, none⟩ = (tc t)[k]? := fun w' h => (B1.keeps h).cells
    clear B1
    go_loopw [6, 7, 8] (fun v p i wr => ∃ (k : Nat) (put : Bool) (xs : List Tsk), k ≤ n ∧ i = .int .i64 k ∧ p = .bool put ∧ OwnT wr w1.heap.size v xs ∧ Keeps w1 wr ∧ Hid (xs ++ (if put then ts.drop k else ins t (ts.drop k)) = ins t ts)) (fun _ _ i _ => n - (intOf i).toNat)
    case atStart => exact ⟨0, false, [], Nat.zero_le _, rfl, rfl, own0, kz, by show _ = _; simp⟩
    case round =>
      obtain ⟨k, put, xs, hk', rfl, rfl, hown, hk, HI⟩ := hrel
      clear own0 kz
      have hxl : xs.length ≤ 13 := by
        have := congrArg List.length HI.out
        rw [List.length_append, ins_length, Hn.out] at this
        omega
      by_cases hlt : k < n
      · obtain ⟨x, hx⟩ := some_at (xs := ts) (k := k) (by rw [Hn.out]; exact hlt)
        have Hd : Hid (ts.drop k = x :: ts.drop (k + 1)) := by
          show _ = _
          rw [List.drop_eq_getElem_cons (by rw [Hn.out]; exact hlt)]
          congr 1
          rw [List.getElem?_eq_getElem (by rw [Hn.out]; exact hlt)] at hx
          simpa using hx
        obtain ⟨ba', off', e', r0, r1⟩ := hs1.at hx (by omega)
        simp only [Option.some.injEq, Addr.mk.injEq] at e'
        obtain ⟨rfl, rfl, -⟩ := e'
        have hlt' : (k : Int) < (n : Int) := by omega
        have HS : Hid (Lies 14 tc w1 (some ⟨ba, off, none⟩) ts) := hs1
        clear hx hs1
        cases put
        · cases hd : decide (t.no ≤ x.no)
          · go_wp2
            refine wp_region_held_drew (S := (fun w' => Keeps w1 w')) (by kernel_rfl) ?_ (fun hHeld => ?_)
            · exact Keeps.drew (by assumption)
            refine Plan.go [0, 1, 2, 3, 4, 5, 6, 7, 8, 9, 10, 11] ?_
            iterate 12 (refine takeL (by simp only [opsAt]; rfl) (by kernel_rfl) (by exact fun _ _ _ h => h) (by rfl) (by assumption) (fun w _ => by go_simp; try (with_reducible rfl)) ?_; try simp only [putAtH])
            refine Plan.nil ?_
            refine wpAnyH_done (by kernel_rfl) ?_ _
            go_wp2_with (at_builtin; (refine wpList_push rfl _ _ 32 rfl w1 47 (tk Tsk.zero) 14 112 tc Tryz.underlying32 (by kernel_rfl) rfl (by decide) tc_size tc_one _ xs rfl wr hown hk (((Keeps.refl _).alloc _).drew) x _ 1 ((Blk.new _ _ _).keeps (Keeps.refl _).drew) rfl ?c1 ?c2 ?_))
            case c1 => unfold maxLen; omega
            case c2 => omega
            intro v' w5 hown5 k5 _
            have HO : Hid (OwnT w5 w1.heap.size v' (xs ++ [x])) := hown5
            clear hown5 hown
            go_wp2
            refine ⟨⟨k + 1, false, xs ++ [x], by omega, by go_num, rfl, HO.out, k5, ?_⟩, by simp only [intOf]; omega⟩
            show _ = _
            rw [← HI.out, Hd.out]
            simp [ins, hd]
          · go_wp2
            refine wp_region_held_drew (S := (fun w' => Keeps w1 w')) (by kernel_rfl) ?_ (fun hHeld => ?_)
            · exact Keeps.drew (by assumption)
            refine Plan.go [0, 1, 2, 3, 4, 5, 6, 7, 8, 9, 10, 11] ?_
            iterate 12 (refine takeL (by simp only [opsAt]; rfl) (by kernel_rfl) (by exact fun _ _ _ h => h) (by rfl) (by assumption) (fun w _ => by go_simp; try (with_reducible rfl)) ?_; try simp only [putAtH])
            refine Plan.nil ?_
            refine wpAnyH_done (by kernel_rfl) ?_ _
            go_wp2_with (at_builtin; (refine wpList_push rfl _ _ 32 rfl w1 47 (tk Tsk.zero) 14 112 tc Tryz.underlying32 (by kernel_rfl) rfl (by decide) tc_size tc_one _ xs rfl wr hown hk (((Keeps.refl _).alloc _).drew) t _ 1 ((Blk.new _ _ _).keeps (Keeps.refl _).drew) rfl ?c1 ?c2 ?_))
            case c1 => unfold maxLen; omega
            case c2 => omega
            intro v' w5 hown5 k5 _
            have HO : Hid (OwnT w5 w1.heap.size v' (xs ++ [t])) := hown5
            clear hown
            go_wp2_with (at_builtin; (refine wpList_push rfl _ _ 32 rfl w1 47 (tk Tsk.zero) 14 112 tc Tryz.underlying32 (by kernel_rfl) rfl (by decide) tc_size tc_one _ (xs ++ [t]) rfl w5 hown5 k5 ((Keeps.refl _).alloc _) x _ 1 (Blk.new _ _ _) rfl ?c1 ?c2 ?_))
            case c1 => unfold maxLen; simp; omega
            case c2 => simp; omega
            intro v6 w6 hown6 k6 _
            have HO6 : Hid (OwnT w6 w1.heap.size v6 (xs ++ [t, x])) := hown6
            clear hown5 hown6
            go_wp2
            refine ⟨⟨k + 1, true, xs ++ [t, x], by omega, by go_num, rfl, HO6.out, k6, ?_⟩, by simp only [intOf]; omega⟩
            show _ = _
            rw [← HI.out, Hd.out]
            simp [ins, hd]
        · go_wp2
          refine wp_region_held_drew (S := (fun w' => Keeps w1 w')) (by kernel_rfl) ?_ (fun hHeld => ?_)
          · exact Keeps.drew (by assumption)
          refine Plan.go [0, 1, 2] ?_
          iterate 3 (refine takeL (by simp only [opsAt]; rfl) (by kernel_rfl) (by exact fun _ _ _ h => h) (by rfl) (by assumption) (fun w _ => by go_simp; try (with_reducible rfl)) ?_; try simp only [putAtH])
          refine Plan.nil ?_
          refine Plan.go [3, 4, 5, 6, 7, 8, 9, 10] ?_
          iterate 8 (refine skipL (by simp only [opsAt]; rfl) (by kernel_rfl) (by exact fun _ _ _ h => h) (by rfl) (by assumption) ?_; try simp only [putAtH])
          refine Plan.nil ?_
          refine takeH 11 (v := ?_) (by simp only [opsAt]; rfl) (by kernel_rfl) (by exact fun _ _ _ h => h) (by rfl) (by assumption) ?_ ?_
          rotate_left
          · (intro w _; go_simp; try (with_reducible rfl))
          try simp only [putAtH]
          refine wpAnyH_done (by kernel_rfl) ?_ _
          go_wp2_with (at_builtin; (refine wpList_push rfl _ _ 32 rfl w1 47 (tk Tsk.zero) 14 112 tc Tryz.underlying32 (by kernel_rfl) rfl (by decide) tc_size tc_one _ xs rfl wr hown hk (((Keeps.refl _).alloc _).drew) x _ 1 ((Blk.new _ _ _).keeps (Keeps.refl _).drew) rfl ?c1 ?c2 ?_))
          case c1 => unfold maxLen; omega
          case c2 => omega
          intro v' w5 hown5 k5 _
          have HO : Hid (OwnT w5 w1.heap.size v' (xs ++ [x])) := hown5
          clear hown5 hown
          go_wp2
          refine ⟨⟨k + 1, true, xs ++ [x], by omega, by go_num, rfl, HO.out, k5, ?_⟩, by simp only [intOf]; omega⟩
          show _ = _
          rw [← HI.out, Hd.out]
          simp
      · have e : k = n := by omega
        subst e
        have hdn : ts.drop k = [] := List.drop_eq_nil_of_le (by rw [Hn.out]; exact Nat.le_refl _)
        have hI := HI.out
        rw [hdn] at hI
        clear hdn HI hk' hlt
        cases put
        · have HI : Hid (xs ++ [t] = ins t ts) := by
            show _ = _
            simpa [ins] using hI
          clear hI
          go_wp2_with (at_builtin; (refine wpList_push rfl _ _ 32 rfl w1 47 (tk Tsk.zero) 14 112 tc Tryz.underlying32 (by kernel_rfl) rfl (by decide) tc_size tc_one _ xs rfl wr hown hk ((Keeps.refl _).alloc _) t _ 1 (Blk.new _ _ _) rfl ?c1 ?c2 ?_))
          case c1 => unfold maxLen; omega
          case c2 => omega
          intro v2 w2 hown2 hk2 _
          clear hown hk
          have hown := hown2
          have hk := hk2
          obtain ⟨ys, HY⟩ : ∃ ys, Hid (ys = xs ++ [t]) := ⟨_, rfl⟩
          rw [← HY.out] at hown
          have HX0 : Hid (ys = ins t ts) := HY.out.trans HI.out
          clear hown2 hk2 HI HY hxl xs
          revert HX0
          revert hown
          generalize ys = xs
          intro hown HX
          obtain ⟨av, cv, rfl, hlies, hcv, hmv⟩ := hown.slice tc_size
          have hxl : Hid (xs.length = ts.length + 1) := by show _ = _; rw [HX.out, ins_length]
          go_wp2_with fail
          refine (specTasksOk_any av cv xs _ (by rw [hxl.out, Hn.out]; unfold maxLen; omega) hlies).mono ?_
          rintro e w3 ⟨rfl, k3⟩
          have hown3 := hown.keeps k3
          have kw3 := hk.trans k3
          have hX := HX.out
          subst hX
          cases hq : tasksB (ins t ts)
          · have Hb : Hid (putB ts t = false) := by show _ = _; simp [putB, hq]
            have Hp : Hid (putL ts t = ts) := by show _ = _; simp [putL, hq, Hts.out]
            clear hown hown3 hlies
            have hts3 := hs1.keeps kw3
            go_wp2_with (at_builtin; (refine wpList_pushAll rfl _ _ 32 rfl w3 47 (tk Tsk.zero) 14 112 tc Tryz.underlying32 (by kernel_rfl) rfl (by decide) tc_size tc_one _ [] rfl (Own.new 47 14 tc w3 (Nat.le_refl _)) ((Keeps.refl _).alloc _) ba off cap ts (by rw [Hn.out]; rfl) (hts3.keeps ((Keeps.refl _).alloc _)) ?c1 ?c2 ?_))
            case c1 => rw [Hn.out]; unfold maxLen; simp; omega
            case c2 => rw [Hn.out]; simp; omega
            intro v' w5 hown5 k5 _
            have HO : Hid (OwnT w5 w3.heap.size v' ([] ++ ts)) := hown5
            clear hown5
            go_wp2
            go_ret2
            exact ⟨_, by rw [Hb.out]; rfl, by rw [Hp.out]; exact Own.base HO.out (kw1.trans kw3).size, (kw1.trans kw3).trans k5⟩
          · have Hb : Hid (putB ts t = true) := by show _ = _; simp [putB, hq, Hts.out]
            have Hp : Hid (putL ts t = ins t ts) := by show _ = _; simp [putL, hq, Hts.out]
            go_wp2
            go_ret2
            exact ⟨_, by rw [Hb.out]; rfl, by rw [Hp.out]; exact Own.base hown3 kw1.size, kw1.trans kw3⟩
        · have HX : Hid (xs = ins t ts) := by
            show _ = _
            simpa using hI
          clear hI hxl
          obtain ⟨av, cv, rfl, hlies, hcv, hmv⟩ := hown.slice tc_size
          have hxl : Hid (xs.length = ts.length + 1) := by show _ = _; rw [HX.out, ins_length]
          go_wp2_with fail
          refine (specTasksOk_any av cv xs _ (by rw [hxl.out, Hn.out]; unfold maxLen; omega) hlies).mono ?_
          rintro e w3 ⟨rfl, k3⟩
          have hown3 := hown.keeps k3
          have kw3 := hk.trans k3
          have hX := HX.out
          subst hX
          cases hq : tasksB (ins t ts)
          · have Hb : Hid (putB ts t = false) := by show _ = _; simp [putB, hq]
            have Hp : Hid (putL ts t = ts) := by show _ = _; simp [putL, hq, Hts.out]
            clear hown hown3 hlies
            have hts3 := hs1.keeps kw3
            go_wp2_with (at_builtin; (refine wpList_pushAll rfl _ _ 32 rfl w3 47 (tk Tsk.zero) 14 112 tc Tryz.underlying32 (by kernel_rfl) rfl (by decide) tc_size tc_one _ [] rfl (Own.new 47 14 tc w3 (Nat.le_refl _)) ((Keeps.refl _).alloc _) ba off cap ts (by rw [Hn.out]; rfl) (hts3.keeps ((Keeps.refl _).alloc _)) ?c1 ?c2 ?_))
            case c1 => rw [Hn.out]; unfold maxLen; simp; omega
            case c2 => rw [Hn.out]; simp; omega
            intro v' w5 hown5 k5 _
            have HO : Hid (OwnT w5 w3.heap.size v' ([] ++ ts)) := hown5
            clear hown5
            go_wp2
            go_ret2
            exact ⟨_, by rw [Hb.out]; rfl, by rw [Hp.out]; exact Own.base HO.out (kw1.trans kw3).size, (kw1.trans kw3).trans k5⟩
          · have Hb : Hid (putB ts t = true) := by show _ = _; simp [putB, hq, Hts.out]
            have Hp : Hid (putL ts t = ins t ts) := by show _ = _; simp [putL, hq, Hts.out]
            go_wp2
            go_ret2
            exact ⟨_, by rw [Hb.out]; rfl, by rw [Hp.out]; exact Own.base hown3 kw1.size, kw1.trans kw3⟩
end Go.Proofs.YthpdlbcdbncnhaaGreatDoor
namespace Go.Proofs.YthpdlbcdbncnhaaGreatDoor
open Go.RowKit
attribute [local go_sem] Keeps.refl Keeps.alloc Keeps.drew Keeps.drewN

/-- The mark k. -/
def mkT (k : Int) : Tsk := ⟨k, k + 1, k + 1 + 1, k + 1 + 1 + 1, (k + 1 + 1 + 1 + 1) % 3 == 0, k + 1 + 1 + 1 + 1 + 1, k + 1 + 1 + 1 + 1 + 1 + 1, k + 1 + 1 + 1 + 1 + 1 + 1 + 1, k + 1 + 1 + 1 + 1 + 1 + 1 + 1 + 1, k + 1 + 1 + 1 + 1 + 1 + 1 + 1 + 1 + 1, k + 1 + 1 + 1 + 1 + 1 + 1 + 1 + 1 + 1 + 1, k + 1 + 1 + 1 + 1 + 1 + 1 + 1 + 1 + 1 + 1 + 1, k + 1 + 1 + 1 + 1 + 1 + 1 + 1 + 1 + 1 + 1 + 1 + 1, k + 1 + 1 + 1 + 1 + 1 + 1 + 1 + 1 + 1 + 1 + 1 + 1 + 1⟩
/-- Its cells. -/
abbrev mkC (k : Int) : Array Value := #[.int .i64 (k), .int .i64 (k + 1), .int .i64 (k + 1 + 1), .int .i64 (k + 1 + 1 + 1), .bool ((k + 1 + 1 + 1 + 1) % 3 == 0), .int .i64 (k + 1 + 1 + 1 + 1 + 1), .int .i64 (k + 1 + 1 + 1 + 1 + 1 + 1), .int .i64 (k + 1 + 1 + 1 + 1 + 1 + 1 + 1), .int .i64 (k + 1 + 1 + 1 + 1 + 1 + 1 + 1 + 1), .int .i64 (k + 1 + 1 + 1 + 1 + 1 + 1 + 1 + 1 + 1), .int .i64 (k + 1 + 1 + 1 + 1 + 1 + 1 + 1 + 1 + 1 + 1), .int .i64 (k + 1 + 1 + 1 + 1 + 1 + 1 + 1 + 1 + 1 + 1 + 1), .int .i64 (k + 1 + 1 + 1 + 1 + 1 + 1 + 1 + 1 + 1 + 1 + 1 + 1), .int .i64 (k + 1 + 1 + 1 + 1 + 1 + 1 + 1 + 1 + 1 + 1 + 1 + 1 + 1)]
/-- n marks from k on. -/
def marks (k : Int) (n : Nat) : List Tsk := (List.range n).map fun i : Nat => mkT (k + 14 * (i : Int))
theorem marks_at (k : Int) (n : Nat) {i : Nat} {t : Tsk} (h : (marks k n)[i]? = some t) : i < n ∧ t = mkT (k + 14 * (i : Int)) := by
  have hi : i < n := by
    rcases Nat.lt_or_ge i n with h' | h'
    · exact h'
    · rw [List.getElem?_eq_none (by simpa [marks] using h')] at h; cases h
  refine ⟨hi, ?_⟩
  simp [marks, hi] at h
  exact h.symm
theorem marks_length (k : Int) (n : Nat) : (marks k n).length = n := by simp [marks]

/-- The block b has m cells that may be written. -/
structure Room (w : World) (b m : Nat) : Prop where
  lt : b < w.heap.size
  cells : ∀ o, o < m → ∃ v, w.cell? ⟨b, o, none⟩ = some v
  frozens : ∀ o, w.frozen? ⟨b, o, none⟩ = false
theorem Room.of_row {w : World} {b n m : Nat} {T : TypeId} {f : Nat → Value} (h : w.rowIs b T n f) (hm : m ≤ n) : Room w b m :=
  ⟨h.lt, fun o ho => ⟨_, h.cell (by omega)⟩, fun o => h.frozen o⟩
theorem Room.setCell {w : World} {b m : Nat} (h : Room w b m) (p : Addr) (v : Value) : Room (w.setCell p v) b m :=
  ⟨by simpa using h.lt, fun q hq => by obtain ⟨u, hu⟩ := h.cells q hq; exact cell?_setCell_some hu, fun q => by simpa using h.frozens q⟩
theorem Room.put {w : World} {b m o : Nat} (h : Room w b m) (t : Tsk) : Room (putAt w b o t) b m :=
  (((((((((((((h.setCell _ _).setCell _ _).setCell _ _).setCell _ _).setCell _ _).setCell _ _).setCell _ _).setCell _ _).setCell _ _).setCell _ _).setCell _ _).setCell _ _).setCell _ _).setCell _ _
theorem KeepsBut.put {g o : Nat} {a b : World} (h : KeepsBut g a b) (t : Tsk) : KeepsBut g a (putAt b g o t) :=
  (((((((((((((h.setCell _ _).setCell _ _).setCell _ _).setCell _ _).setCell _ _).setCell _ _).setCell _ _).setCell _ _).setCell _ _).setCell _ _).setCell _ _).setCell _ _).setCell _ _).setCell _ _

end Go.Proofs.YthpdlbcdbncnhaaGreatDoor
namespace Go.Proofs.YthpdlbcdbncnhaaGreatDoor
open Go.RowKit

theorem ascB_lt {ts : List Tsk} (h : ascB ts = true) : ∀ (j i : Nat) (a b : Tsk), i < j → ts[i]? = some a → ts[j]? = some b → a.no < b.no := by
  have H := (ascB_iff ts).1 h
  intro j
  induction j with
  | zero => intro i a b hi; omega
  | succ j ih =>
    intro i a b hi ha hb
    rcases Nat.lt_or_ge i j with h1 | h1
    · have hj : j < ts.length := by
        rcases Nat.lt_or_ge (j + 1) ts.length with h | h
        · omega
        · simp [List.getElem?_eq_none h] at hb
      have h2 := ih i a ts[j] h1 ha (List.getElem?_eq_getElem hj)
      have h3 := H j ts[j] b (List.getElem?_eq_getElem hj) hb
      omega
    · obtain rfl : i = j := by omega
      exact H i a b ha hb
theorem tasksB_asc {ts : List Tsk} (h : tasksB ts = true) : ascB ts = true := by
  simp only [tasksB, Bool.and_eq_true] at h; exact h.1.2
/-- In a list of tasks each is found at its place. -/
theorem atFrom_at {ts : List Tsk} (h : tasksB ts = true) {i : Nat} {x : Tsk} (hx : ts[i]? = some x) : atFrom ts x.no = i := by
  have A := ascB_lt (tasksB_asc h)
  have hi : i < ts.length := by
    rcases Nat.lt_or_ge i ts.length with h | h
    · exact h
    · simp [List.getElem?_eq_none h] at hx
  have : ts.findIdx? (fun t => t.no == x.no) = some i := by
    rw [List.findIdx?_eq_some_iff_getElem]
    have e1 : ts[i] = x := by rw [List.getElem?_eq_getElem hi] at hx; simpa using hx
    refine ⟨hi, by rw [e1]; simp, fun j hj => ?_⟩
    have := A i j ts[j] x hj (List.getElem?_eq_getElem _) hx
    simp; omega
  simp [atFrom, this]
theorem tasksB_task {ts : List Tsk} (h : tasksB ts = true) {i : Nat} {t : Tsk} (ht : ts[i]? = some t) : taskB t = true := by
  simp only [tasksB, Bool.and_eq_true] at h
  exact List.all_eq_true.1 h.1.1 t (List.mem_of_getElem? ht)
theorem task_no {t : Tsk} (h : taskB t = true) : 1 ≤ t.no ∧ t.no ≤ 1000 := by
  unfold taskB at h
  simp only [Bool.and_eq_true] at h
  exact inB_iff.1 h.1.1.1.1.1
/-- Nobody has the number 0. -/
theorem atFrom_zero {ts : List Tsk} (h : tasksB ts = true) : atFrom ts 0 = -1 := by
  unfold atFrom
  split
  · rename_i i hi
    obtain ⟨hi', h1, -⟩ := List.findIdx?_eq_some_iff_getElem.1 hi
    have := task_no (tasksB_task h (List.getElem?_eq_getElem hi'))
    have e : ts[i].no = 0 := by simpa using h1
    omega
  · rfl
end Go.Proofs.YthpdlbcdbncnhaaGreatDoor
namespace Go.Proofs.YthpdlbcdbncnhaaGreatDoor
open Go.RowKit

theorem run_eqlIn_task (d : Nat) (w : World) (a b : Tsk) : (Op.equalIn (d + 2) 47 (tk a) (tk b)).run Tryz.prog w = .ok (eqT a b) w := by
  obtain ⟨a0, a1, a2, a3, a4, a5, a6, a7, a8, a9, a10, a11, a12, a13⟩ := a
  obtain ⟨b0, b1, b2, b3, b4, b5, b6, b7, b8, b9, b10, b11, b12, b13⟩ := b
  simp only [eqT]
  rw [run_equalIn_agg _ _ _ _ _ (by kernel_rfl) (by kernel_rfl)]
  go_simp
  by_cases h0 : a0 = b0
  case neg => simp only [if_neg h0, beq_eq_false_iff_ne.2 h0, Bool.false_and]
  simp only [if_pos h0, beq_iff_eq.2 h0, Bool.true_and]
  by_cases h1 : a1 = b1
  case neg => simp only [if_neg h1, beq_eq_false_iff_ne.2 h1, Bool.false_and]
  simp only [if_pos h1, beq_iff_eq.2 h1, Bool.true_and]
  by_cases h2 : a2 = b2
  case neg => simp only [if_neg h2, beq_eq_false_iff_ne.2 h2, Bool.false_and]
  simp only [if_pos h2, beq_iff_eq.2 h2, Bool.true_and]
  by_cases h3 : a3 = b3
  case neg => simp only [if_neg h3, beq_eq_false_iff_ne.2 h3, Bool.false_and]
  simp only [if_pos h3, beq_iff_eq.2 h3, Bool.true_and]
  by_cases h4 : a4 = b4
  case neg => simp only [if_neg h4, beq_eq_false_iff_ne.2 h4, Bool.false_and]
  simp only [if_pos h4, beq_iff_eq.2 h4, Bool.true_and]
  by_cases h5 : a5 = b5
  case neg => simp only [if_neg h5, beq_eq_false_iff_ne.2 h5, Bool.false_and]
  simp only [if_pos h5, beq_iff_eq.2 h5, Bool.true_and]
  by_cases h6 : a6 = b6
  case neg => simp only [if_neg h6, beq_eq_false_iff_ne.2 h6, Bool.false_and]
  simp only [if_pos h6, beq_iff_eq.2 h6, Bool.true_and]
  by_cases h7 : a7 = b7
  case neg => simp only [if_neg h7, beq_eq_false_iff_ne.2 h7, Bool.false_and]
  simp only [if_pos h7, beq_iff_eq.2 h7, Bool.true_and]
  by_cases h8 : a8 = b8
  case neg => simp only [if_neg h8, beq_eq_false_iff_ne.2 h8, Bool.false_and]
  simp only [if_pos h8, beq_iff_eq.2 h8, Bool.true_and]
  by_cases h9 : a9 = b9
  case neg => simp only [if_neg h9, beq_eq_false_iff_ne.2 h9, Bool.false_and]
  simp only [if_pos h9, beq_iff_eq.2 h9, Bool.true_and]
  by_cases h10 : a10 = b10
  case neg => simp only [if_neg h10, beq_eq_false_iff_ne.2 h10, Bool.false_and]
  simp only [if_pos h10, beq_iff_eq.2 h10, Bool.true_and]
  by_cases h11 : a11 = b11
  case neg => simp only [if_neg h11, beq_eq_false_iff_ne.2 h11, Bool.false_and]
  simp only [if_pos h11, beq_iff_eq.2 h11, Bool.true_and]
  by_cases h12 : a12 = b12
  case neg => simp only [if_neg h12, beq_eq_false_iff_ne.2 h12, Bool.false_and]
  simp only [if_pos h12, beq_iff_eq.2 h12, Bool.true_and]
  by_cases h13 : a13 = b13
  case neg => simp only [if_neg h13, beq_eq_false_iff_ne.2 h13]
  simp only [if_pos h13, beq_iff_eq.2 h13]

theorem run_eql_task (w : World) (a b : Tsk) : (binOp .eql 47 (tk a) (tk b)).run Tryz.prog w = .ok (.bool (eqT a b)) w := by
  rw [run_eql_struct, run_eqlIn_task 9998]; rfl
theorem run_neq_task (w : World) (a b : Tsk) : (binOp .neq 47 (tk a) (tk b)).run Tryz.prog w = .ok (.bool (!eqT a b)) w := by
  rw [run_neq_struct, run_eqlIn_task 9998]; rfl
end Go.Proofs.YthpdlbcdbncnhaaGreatDoor
namespace Go.Proofs.YthpdlbcdbncnhaaGreatDoor
open Go.RowKit
attribute [local go_sem] Keeps.refl Keeps.alloc Keeps.drew Keeps.drewN

/-- What the program's functions are held to. -/
def SaysTaskAt : Prop := ∀ (a : Option Addr) (cap : Nat) (ts : List Tsk) (no : Int) (w : World), ts.length ≤ maxLen → Ts w a ts → Calls Tryz.prog 17 #[.slice a ts.length cap, .int .i64 no] w fun e w' => e = .returned (.int .i64 (atFrom ts no)) ∧ Keeps w w'
def SaysTasksOk : Prop := ∀ (a : Option Addr) (cap : Nat) (ts : List Tsk) (w : World), ts.length ≤ maxLen → Ts w a ts → Calls Tryz.prog 173 #[.slice a ts.length cap] w fun e w' => e = .returned (.bool (tasksB ts)) ∧ Keeps w w'
end Go.Proofs.YthpdlbcdbncnhaaGreatDoor
namespace Go.Proofs.YthpdlbcdbncnhaaGreatDoor
open Go.ChangeShapes Go.WideShapes Go.ChangeAt Go.RowKit

theorem read_int {H : Type} {enc : TypeId × Value → H} {W : World} {base : Nat} {spare : Nat → Bool} {held : Bool} {n : Nat} {cs : List Value} {k : Nat} {y : DataW H × List MemPlace}
    (h : DataW.trod enc Tryz.prog W base spare held n 3 ((cs.drop k).take 1) = some y) : ∃ x : Int, cs[k]? = some (.int .i64 x) := by
  obtain ⟨x, e, _⟩ := DataW.trod_int Tryz.underlying3 h
  refine ⟨x, ?_⟩
  have := congrArg (fun l => l[0]?) e
  simpa using this
theorem read_bool {H : Type} {enc : TypeId × Value → H} {W : World} {base : Nat} {spare : Nat → Bool} {held : Bool} {n : Nat} {cs : List Value} {k : Nat} {y : DataW H × List MemPlace}
    (h : DataW.trod enc Tryz.prog W base spare held n 4 ((cs.drop k).take 1) = some y) : ∃ x : Bool, cs[k]? = some (.bool x) := by
  obtain ⟨x, e, _⟩ := DataW.trod_bool Tryz.underlying4 h
  refine ⟨x, ?_⟩
  have := congrArg (fun l => l[0]?) e
  simpa using this
theorem list14 {α : Type} {cs : List α} (h : cs.length = 14) : ∃ c0 c1 c2 c3 c4 c5 c6 c7 c8 c9 c10 c11 c12 c13, cs = [c0, c1, c2, c3, c4, c5, c6, c7, c8, c9, c10, c11, c12, c13] := by
  match cs, h with
  | [c0, c1, c2, c3, c4, c5, c6, c7, c8, c9, c10, c11, c12, c13], _ => exact ⟨c0, c1, c2, c3, c4, c5, c6, c7, c8, c9, c10, c11, c12, c13, rfl⟩

set_option maxHeartbeats 1000000 in
set_option maxRecDepth 100000 in
theorem read_task {H : Type} {enc : TypeId × Value → H} {W : World} {base : Nat} {spare : Nat → Bool} {held : Bool} {fuel : Nat} {cs : List Value} {x : DataW H × List MemPlace}
    (h : DataW.trod enc Tryz.prog W base spare held fuel 103 cs = some x) : ∃ t : Tsk, cs = (tc t).toList := by
  have ci : Tryz.prog.cellsOf 3 = 1 := by kernel_rfl
  have cb : Tryz.prog.cellsOf 4 = 1 := by kernel_rfl
  have ct : Tryz.prog.cellsOf 103 = 14 := by kernel_rfl
  obtain ⟨xs, n, _, _, hl, hxl, hf⟩ := DataW.trod_struct Tryz.underlying103 h
  rw [ct] at hl
  replace hxl : xs.length = 14 := hxl
  have g0 : DataW.trod enc Tryz.prog W base spare held n 3 ((cs.drop 0).take (Tryz.prog.cellsOf 3)) = xs[0]? := hf 0 _ rfl
  rw [ci, List.getElem?_eq_getElem (show 0 < xs.length by omega)] at g0
  obtain ⟨x0, e0⟩ := read_int g0
  have g1 : DataW.trod enc Tryz.prog W base spare held n 3 ((cs.drop 1).take (Tryz.prog.cellsOf 3)) = xs[1]? := hf 1 _ rfl
  rw [ci, List.getElem?_eq_getElem (show 1 < xs.length by omega)] at g1
  obtain ⟨x1, e1⟩ := read_int g1
  have g2 : DataW.trod enc Tryz.prog W base spare held n 3 ((cs.drop 2).take (Tryz.prog.cellsOf 3)) = xs[2]? := hf 2 _ rfl
  rw [ci, List.getElem?_eq_getElem (show 2 < xs.length by omega)] at g2
  obtain ⟨x2, e2⟩ := read_int g2
  have g3 : DataW.trod enc Tryz.prog W base spare held n 3 ((cs.drop 3).take (Tryz.prog.cellsOf 3)) = xs[3]? := hf 3 _ rfl
  rw [ci, List.getElem?_eq_getElem (show 3 < xs.length by omega)] at g3
  obtain ⟨x3, e3⟩ := read_int g3
  have g4 : DataW.trod enc Tryz.prog W base spare held n 4 ((cs.drop 4).take (Tryz.prog.cellsOf 4)) = xs[4]? := hf 4 _ rfl
  rw [cb, List.getElem?_eq_getElem (show 4 < xs.length by omega)] at g4
  obtain ⟨x4, e4⟩ := read_bool g4
  have g5 : DataW.trod enc Tryz.prog W base spare held n 3 ((cs.drop 5).take (Tryz.prog.cellsOf 3)) = xs[5]? := hf 5 _ rfl
  rw [ci, List.getElem?_eq_getElem (show 5 < xs.length by omega)] at g5
  obtain ⟨x5, e5⟩ := read_int g5
  have g6 : DataW.trod enc Tryz.prog W base spare held n 3 ((cs.drop 6).take (Tryz.prog.cellsOf 3)) = xs[6]? := hf 6 _ rfl
  rw [ci, List.getElem?_eq_getElem (show 6 < xs.length by omega)] at g6
  obtain ⟨x6, e6⟩ := read_int g6
  have g7 : DataW.trod enc Tryz.prog W base spare held n 3 ((cs.drop 7).take (Tryz.prog.cellsOf 3)) = xs[7]? := hf 7 _ rfl
  rw [ci, List.getElem?_eq_getElem (show 7 < xs.length by omega)] at g7
  obtain ⟨x7, e7⟩ := read_int g7
  have g8 : DataW.trod enc Tryz.prog W base spare held n 3 ((cs.drop 8).take (Tryz.prog.cellsOf 3)) = xs[8]? := hf 8 _ rfl
  rw [ci, List.getElem?_eq_getElem (show 8 < xs.length by omega)] at g8
  obtain ⟨x8, e8⟩ := read_int g8
  have g9 : DataW.trod enc Tryz.prog W base spare held n 3 ((cs.drop 9).take (Tryz.prog.cellsOf 3)) = xs[9]? := hf 9 _ rfl
  rw [ci, List.getElem?_eq_getElem (show 9 < xs.length by omega)] at g9
  obtain ⟨x9, e9⟩ := read_int g9
  have g10 : DataW.trod enc Tryz.prog W base spare held n 3 ((cs.drop 10).take (Tryz.prog.cellsOf 3)) = xs[10]? := hf 10 _ rfl
  rw [ci, List.getElem?_eq_getElem (show 10 < xs.length by omega)] at g10
  obtain ⟨x10, e10⟩ := read_int g10
  have g11 : DataW.trod enc Tryz.prog W base spare held n 3 ((cs.drop 11).take (Tryz.prog.cellsOf 3)) = xs[11]? := hf 11 _ rfl
  rw [ci, List.getElem?_eq_getElem (show 11 < xs.length by omega)] at g11
  obtain ⟨x11, e11⟩ := read_int g11
  have g12 : DataW.trod enc Tryz.prog W base spare held n 3 ((cs.drop 12).take (Tryz.prog.cellsOf 3)) = xs[12]? := hf 12 _ rfl
  rw [ci, List.getElem?_eq_getElem (show 12 < xs.length by omega)] at g12
  obtain ⟨x12, e12⟩ := read_int g12
  have g13 : DataW.trod enc Tryz.prog W base spare held n 3 ((cs.drop 13).take (Tryz.prog.cellsOf 3)) = xs[13]? := hf 13 _ rfl
  rw [ci, List.getElem?_eq_getElem (show 13 < xs.length by omega)] at g13
  obtain ⟨x13, e13⟩ := read_int g13
  obtain ⟨c0, c1, c2, c3, c4, c5, c6, c7, c8, c9, c10, c11, c12, c13, rfl⟩ := list14 hl
  simp at e0 e1 e2 e3 e4 e5 e6 e7 e8 e9 e10 e11 e12 e13
  subst e0 e1 e2 e3 e4 e5 e6 e7 e8 e9 e10 e11 e12 e13
  exact ⟨⟨x0, x1, x2, x3, x4, x5, x6, x7, x8, x9, x10, x11, x12, x13⟩, rfl⟩

set_option maxRecDepth 100000 in
theorem open_task {H : Type} {enc : TypeId × Value → H} {W : World} {r : Reach} {b0 : Nat} {v : Value} {d : DataW H} {p : List MemPlace}
    (hv : Value.okWide Tryz.prog W r b0 103 v) (h : DataW.Trod enc Tryz.prog W 0 (fun _ => true) true 103 v d p) : ∃ t : Tsk, v = tk t := by
  obtain ⟨cs, rfl, _⟩ := okWide_struct Tryz.underlying103 hv
  obtain ⟨fuel, hf⟩ := h
  obtain ⟨t, ht⟩ := read_task hf
  refine ⟨t, ?_⟩
  simp only [Value.cells] at ht
  exact congrArg Value.agg (Array.ext' ht)

theorem addr_add (b off n : Nat) : (⟨b, off, none⟩ : Addr).add n = ⟨b, off + n, none⟩ := by
  unfold Addr.add
  by_cases h : n = 0 <;> simp [h]

set_option maxRecDepth 100000 in
theorem open_tasks {H : Type} {enc : TypeId × Value → H} {W : World} {a : Option Addr} {len cap : Nat} {d : DataW H} {p : List MemPlace}
    (h : DataW.Trod enc Tryz.prog W 0 (fun _ => true) true 22 (.slice a len cap) d p) : ∃ ts : List Tsk, ts.length = len ∧ ts.length ≤ maxLen ∧ Lies 14 tc W a ts := by
  have ct : Tryz.prog.cellsOf 103 = 14 := by kernel_rfl
  obtain ⟨fuel, hf⟩ := h
  rcases Go.Deep.open_slice Tryz.underlying22 hf with ⟨hcs, _⟩ | ⟨x, l, c, m, n, D, Pl, hcs, _, hl, hm, hmm, _, hc⟩
  · simp [Value.cells] at hcs
    obtain ⟨rfl, rfl, rfl⟩ := hcs
    exact ⟨[], rfl, by simp, .inl rfl⟩
  · simp [Value.cells] at hcs
    obtain ⟨rfl, rfl, rfl⟩ := hcs
    have hml : len ≤ m := by rw [hmm]; simp; omega
    rw [ct] at hc
    have each : ∀ i, i < len → ∃ t : Tsk, ∀ k, k < 14 → W.cell? ((x.add (i * 14)).add k) = (tc t)[k]? := by
      intro i hi
      obtain ⟨cs', h1, h2⟩ := hc i (by omega)
      obtain ⟨_, _, hcell⟩ := World.cells?_some h1
      obtain ⟨t, rfl⟩ := read_task h2
      exact ⟨t, fun k hk => by rw [hcell k hk]; simp⟩
    haveI : Inhabited Tsk := ⟨Tsk.zero⟩
    obtain ⟨T, hT⟩ := Go.Deep.choose_lt each
    refine ⟨(List.range len).map T, by simp, by simp; omega, ?_⟩
    obtain ⟨b, off, spot⟩ := x
    by_cases h0 : len = 0
    · subst h0; exact .inl rfl
    · have hs : spot = none := by
        have h1 := hT 0 (by omega) 0 (by omega)
        have h2 := World.cell?_spot (h1.trans (by rfl : (tc (T 0))[0]? = some (.int .i64 (T 0).no)))
        simpa [Addr.add] using h2
      subst hs
      have hb : b < W.heap.size := by
        have h1 := (hT 0 (by omega) 0 (by omega)).trans (by rfl : (tc (T 0))[0]? = some (.int .i64 (T 0).no))
        have := World.block_lt_of_cell? W _ h1
        simpa [Addr.add] using this
      refine .inr ⟨b, off, rfl, hb, fun i t hi k hk => ?_⟩
      have hi' : i < len := by
        rcases Nat.lt_or_ge i len with h | h
        · exact h
        · rw [List.getElem?_eq_none (by simpa using h)] at hi; cases hi
      have e : T i = t := by simpa [hi'] using hi
      have := hT i hi' k hk
      rwa [addr_add, addr_add, e] at this
end Go.Proofs.YthpdlbcdbncnhaaGreatDoor
