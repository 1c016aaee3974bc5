/-
  The turns of a run of drawn calls are of the first numbers.
-/
import Derived.Test.YthpdlbcdbncnhaaTraceP
import Derived.Test.YthpdlbcdbncnhaaGCall3
import Derived.Test.YthpdlbcdbncnhaaGCall1
import Derived.Test.YthpdlbcdbncnhaaGSys4
import Derived.Test.YthpdlbcdbncnhaaGPure2
namespace Go.Proofs.Ythpdlbcdbncnhaa
open Go.RowKit

/-- Numbers are low, and so are the turns. -/
def Low (s : Sy) : Prop := (∀ t ∈ s.tasks, 1 ≤ t.no ∧ t.no ≤ 40) ∧ ∀ t ∈ s.trace, turnIn t
theorem renewOne_no (now : Int) (t : Tsk) : (renewOne now t).no = t.no := by
  unfold renewOne renewT
  split
  · split <;> rfl
  · rfl
theorem fairTo_no (t : Tsk) (x : Int) : (fairTo t x).no = t.no := by
  unfold fairTo; split <;> rfl
theorem wakeOne_no (s : Sy) (t : Tsk) : (wakeOne s t).no = t.no := by
  unfold wakeOne
  show (if ableB s.tasks s.locks t.no && t.idle then fairWakeT (wakeT { t with idle := false } s.now) (s.floors.getD t.cpu.toNat 0) else t).no = t.no
  split
  · have e : (wakeT { t with idle := false } s.now).no = t.no := by unfold wakeT; split <;> rfl
    unfold fairWakeT
    split
    · rw [fairTo_no, e]
    · exact e
  · rfl
theorem nextT_no (s : Sy) (t : Tsk) : (nextT s t).no = t.no := by
  have e1 : (spendT t).no = t.no := by unfold spendT; split <;> rfl
  have e2 : ∀ u : Tsk, (fairSpendT u).no = u.no := fun u => by
    unfold fairSpendT; split
    · exact fairTo_no _ _
    · rfl
  have e3 : ∀ (u : Tsk) (q : Int), (fixSpendT u q).no = u.no := fun u q => by
    unfold fixSpendT
    split
    · split
      · rfl
      · split <;> rfl
    · rfl
  unfold nextT
  rw [e3, e2, e1]
theorem Low.turn {s : Sy} (h : Low s) {c : Nat} (hc : c < 4) : Low (turnS s c) := by
  unfold turnS
  split
  · refine ⟨h.1, fun t ht => ?_⟩
    rcases List.mem_append.1 ht with h1 | h1
    · exact h.2 t h1
    · rw [List.mem_singleton] at h1
      rw [h1]
      exact ⟨⟨by show (0 : Int) ≤ c; omega, by show (c : Int) < 4; omega⟩, by show (0 : Int) ≤ 0; omega, by show (0 : Int) ≤ 40; omega⟩
  · next hp =>
    have hq : ∃ u, s.tasks[(pickI s.tasks s.locks c).toNat]? = some u := by
      rcases topN_spec s.tasks (candP s.tasks s.locks c) s.tasks.length (Nat.le_refl _) with ⟨e, _⟩ | ⟨j, u, e, _, hu, _, _⟩
      · have e' : pickI s.tasks s.locks c = -1 := e
        omega
      · have e' : pickI s.tasks s.locks c = (j : Int) := e
        exact ⟨u, by rw [e', Int.toNat_natCast]; exact hu⟩
    obtain ⟨u, hu⟩ := hq
    rw [getD_of hu]
    have hno := h.1 u (List.mem_of_getElem? hu)
    refine ⟨fun t ht => ?_, fun t ht => ?_⟩
    · rcases List.mem_or_eq_of_mem_set ht with h1 | h1
      · exact h.1 t h1
      · rw [h1, nextT_no]
        exact hno
    · rcases List.mem_append.1 ht with h1 | h1
      · exact h.2 t h1
      · rw [List.mem_singleton] at h1
        rw [h1]
        exact ⟨⟨by show (0 : Int) ≤ c; omega, by show (c : Int) < 4; omega⟩, by show (0 : Int) ≤ u.no; omega, hno.2⟩
theorem Low.turns {s : Sy} (h : Low s) : ∀ k : Nat, k ≤ 4 → Low (turnsS s k)
  | 0, _ => h
  | k + 1, hk => (Low.turns h k (by omega)).turn (by omega)
theorem Low.map {s : Sy} (h : Low s) (f : Tsk → Tsk) (hf : ∀ t, (f t).no = t.no) : ∀ t ∈ s.tasks.map f, 1 ≤ t.no ∧ t.no ≤ 40 := by
  intro t ht
  obtain ⟨u, hu, rfl⟩ := List.mem_map.1 ht
  rw [hf]
  exact h.1 u hu
theorem Low.tick {s : Sy} (h : Low s) (ht : tickB s = true) : Low (tickS s) := by
  have e : tickS s = aheadS (turnsS (flooredS (wakeS (agedS s))) s.cpus.toNat) := by unfold tickS; rw [ht]; rfl
  have hc : s.cpus ≤ 4 := by
    unfold tickB at ht
    rw [Bool.and_eq_true] at ht
    exact (sysB_iff.1 ht.1).cpus.2
  have h1 : Low (agedS s) := ⟨h.map _ (renewOne_no _), h.2⟩
  have h2 : Low (wakeS (agedS s)) := ⟨h1.map _ (wakeOne_no _), h1.2⟩
  have h3 : Low (flooredS (wakeS (agedS s))) := h2
  have h4 := h3.turns s.cpus.toNat (by omega)
  rw [e]
  exact h4
theorem Low.ticks : ∀ (n : Nat) {s : Sy}, Low s → Low (ticksS s n).1
  | 0, _, h => h
  | n + 1, s, h => by
    cases hb : tickB s
    · have e : (ticksS s (n + 1)).1 = s := by simp [ticksS, hb]
      rw [e]; exact h
    · have e : (ticksS s (n + 1)).1 = (ticksS (tickS s) n).1 := by simp [ticksS, hb]
      rw [e]
      exact Low.ticks n (h.tick hb)
theorem mem_ins (t : Tsk) : ∀ (ts : List Tsk) (x : Tsk), x ∈ ins t ts → x = t ∨ x ∈ ts
  | [], x, h => by
    have : x ∈ [t] := h
    exact .inl (List.mem_singleton.1 this)
  | y :: ts, x, h => by
    unfold ins at h
    split at h
    · rcases List.mem_cons.1 h with h1 | h1
      · exact .inl h1
      · exact .inr h1
    · rcases List.mem_cons.1 h with h1 | h1
      · exact .inr (by simp [h1])
      · rcases mem_ins t ts x h1 with h2 | h2
        · exact .inl h2
        · exact .inr (by simp [h2])
theorem mem_putL {ts : List Tsk} {t x : Tsk} (h : x ∈ putL ts t) : x = t ∨ x ∈ ts := by
  unfold putL at h
  split at h
  · split at h
    · exact mem_ins t ts x h
    · exact .inr h
  · cases h
theorem made_no {s : Sy} {c : Cl} (h : madeB s c = true) : (madeT s c).no = c.no := by
  unfold madeB at h
  unfold madeT
  split at h
  · next h1 =>
    rw [if_pos h1]
    unfold dueNewT
    rw [if_pos h]
    rfl
  · next h1 =>
    rw [if_neg h1]
    split at h
    · next h2 =>
      rw [if_pos h2]
      unfold newT
      rw [if_pos h]
      rfl
    · next h2 =>
      rw [if_neg h2]
      unfold newT
      rw [if_pos h]
      rfl
theorem Low.set {s : Sy} (h : Low s) (k : Nat) {t : Tsk} (ht : 1 ≤ t.no ∧ t.no ≤ 40) : ∀ x ∈ s.tasks.set k t, 1 ≤ x.no ∧ x.no ≤ 40 := by
  intro x hx
  rcases List.mem_or_eq_of_mem_set hx with h1 | h1
  · exact h.1 x h1
  · rw [h1]; exact ht
theorem tAt_low {s : Sy} (h : Low s) {no : Int} (ht : thereB s.tasks no = true) : 1 ≤ (tAt s.tasks no).no ∧ (tAt s.tasks no).no ≤ 40 := by
  obtain ⟨k, _, ⟨t, hk⟩, e⟩ := there_at ht
  rw [e t hk]
  exact h.1 t (List.mem_of_getElem? hk)
theorem Low.call {s : Sy} (h : Low s) {c : Cl} (hf : Few c) : Low (callS s c) := by
  unfold callS
  split
  case isFalse => exact ⟨fun t ht => (by cases ht), fun t ht => (by cases ht)⟩
  split
  case isFalse => exact h
  case isTrue hd =>
    rw [beq_iff_eq] at hd
    unfold doN at hd
    unfold doC
    split at hd
    · next hk =>
      rw [if_pos hk]
      have hm : madeB s c = true := by
        unfold newN at hd
        split at hd
        · omega
        · next hx =>
          simp only [Bool.or_eq_true, Bool.not_eq_true', not_or, Bool.not_eq_false] at hx
          exact hx.2
      have hn := hf hk
      refine ⟨fun t ht => ?_, h.2⟩
      rcases mem_putL ht with h1 | h1
      · rw [h1, made_no hm]
        omega
      · exact h.1 t h1
    · next hk =>
      rw [if_neg hk]
      split at hd
      · next h11 =>
        rw [if_pos h11]
        exact Low.ticks _ h
      · next h11 =>
        rw [if_neg h11]
        split at hd
        · omega
        · next hth =>
          simp only [Bool.not_eq_true', Bool.not_eq_false] at hth
          have ht := tAt_low h hth
          unfold ofTaskC
          split
          · exact ⟨h.set _ ht, h.2⟩
          split
          · exact ⟨h.set _ ht, h.2⟩
          split
          · exact ⟨fun t hx => h.1 t (List.mem_of_mem_eraseIdx hx), h.2⟩
          split
          · exact h
          split
          · exact h
          split
          · exact ⟨h.set _ ht, h.2⟩
          split
          · refine ⟨h.set _ ?_, h.2⟩
            have e : (fairMoveT (tAt s.tasks c.no) c.cpu (s.floors.getD (tAt s.tasks c.no).cpu.toNat 0) (s.floors.getD c.cpu.toNat 0)).no = (tAt s.tasks c.no).no := by unfold fairMoveT; split <;> rfl
            rw [e]
            exact ht
          · exact h
theorem Low.run : ∀ (cs : List Cl) {s : Sy}, Low s → (∀ c ∈ cs, Few c) → Low (runS s cs)
  | [], _, h, _ => h
  | c :: r, s, h, hf => by
    have hr : ∀ x ∈ r, Few x := fun x hx => hf x (by simp [hx])
    show Low (if callN s c == 0 then runS (callS s c) r else runS s r)
    split
    · exact Low.run r (h.call (hf c (by simp))) hr
    · exact Low.run r h hr
theorem Low.new (n : Int) : Low (newS n) := by
  unfold newS
  split <;> exact ⟨fun t ht => (by cases ht), fun t ht => (by cases ht)⟩
theorem run_low {n : Int} {cs : List Cl} (h : ∀ c ∈ cs, Few c) : Low (runS (newS n) cs) := Low.run cs (Low.new n) h
end Go.Proofs.Ythpdlbcdbncnhaa
