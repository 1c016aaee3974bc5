/-
  Lists of tasks: the program's TaskAt, TasksOk and what puts a task among others.
-/
import Derived.Test.YtmdpngahofeliaaImplTaskOk
import Derived.Test.YtmdpngahofeliaaTaskListLaws
import Derived.Test.YtmdpngahofeliaaCopyAny
namespace Go.Proofs.Ytmdpngahofeliaa
open Go.RowKit
attribute [local go_sem] Keeps.refl Keeps.alloc Keeps.drew Keeps.drewN

theorem atFrom_here {ts : List Tsk} {no : Int} {k : Nat} {t : Tsk} (ht : ts[k]? = some t) (hq : (t.no == no) = true) (H : ∀ (j : Nat) (s : Tsk), j < k → ts[j]? = some s → (s.no == no) = false) : atFrom ts no = k := by
  have hk' : k < ts.length := by
    rcases Nat.lt_or_ge k ts.length with h | h
    · exact h
    · simp [List.getElem?_eq_none h] at ht
  have : ts.findIdx? (fun t => t.no == no) = some k := by
    rw [List.findIdx?_eq_some_iff_getElem]
    have e1 : ts[k] = t := by rw [List.getElem?_eq_getElem hk'] at ht; simpa using ht
    refine ⟨hk', by rw [e1]; exact hq, fun j hj => ?_⟩
    have := H j ts[j] hj (List.getElem?_eq_getElem _)
    simp [this]
  simp [atFrom, this]
theorem atFrom_none {ts : List Tsk} {no : Int} (H : ∀ (j : Nat) (s : Tsk), ts[j]? = some s → (s.no == no) = false) : atFrom ts no = -1 := by
  have : ts.findIdx? (fun t => t.no == no) = none := by
    rw [List.findIdx?_eq_none_iff]
    intro t ht
    obtain ⟨j, hj, rfl⟩ := List.mem_iff_getElem.1 ht
    exact H j _ (List.getElem?_eq_getElem hj)
  simp [atFrom, this]

set_option maxRecDepth 100000 in
set_option maxHeartbeats 1000000 in
theorem implTaskAt_says : SaysTaskAt := by
  intro a cap ts no w hl hs
  unfold maxLen at hl
  generalize hn : ts.length = n at hl
  have Hn : Hid (ts.length = n) := hn
  clear hn
  go_enter Try.func33, Try.ntmps33
  go_wp2
  go_loopw [9] (fun i wr => ∃ k : Nat, k ≤ n ∧ i = .int .i64 k ∧ Keeps w wr ∧ Hid (∀ j t, j < k → ts[j]? = some t → (t.no == no) = false)) (fun i _ => n - (intOf i).toNat)
  case atStart => exact ⟨0, Nat.zero_le _, rfl, Keeps.refl _, fun j t hj => by omega⟩
  case round =>
    obtain ⟨k, hk, rfl, hK, H⟩ := hrel
    by_cases hlt : k < n
    · obtain ⟨t, ht⟩ := some_at (xs := ts) (k := k) (by rw [Hn.out]; exact hlt)
      obtain ⟨b, off, rfl, r0, r1⟩ := hs.at ht (by omega)
      have hlt' : (k : Int) < (n : Int) := by omega
      have Ht : Hid (ts[k]? = some t) := ht
      clear hs ht
      cases hq : (t.no == no)
      · go_wp2
        exact ⟨⟨k + 1, by omega, by go_num, hK.alloc _, fun j s hj hs => by
          by_cases e : j = k
          · subst e; rw [Ht.out] at hs; cases hs; exact hq
          · exact H.out j s (by omega) hs⟩, by simp only [intOf]; omega⟩
      · have Hr : Hid (atFrom ts no = k) := atFrom_here Ht.out hq H.out
        go_wp2
        go_ret
        exact ⟨by rw [Hr.out]; rfl, hK.alloc _⟩
    · have Hr : Hid (atFrom ts no = -1) := atFrom_none fun j s hs => by
        refine H.out j s ?_ hs
        rcases Nat.lt_or_ge j ts.length with h' | h'
        · have := Hn.out; omega
        · simp [List.getElem?_eq_none h'] at hs
      go_wp2
      go_ret
      exact ⟨by rw [Hr.out]; rfl, hK⟩
end Go.Proofs.Ytmdpngahofeliaa
