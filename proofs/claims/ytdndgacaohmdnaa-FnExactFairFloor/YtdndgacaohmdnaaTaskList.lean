/-
  Lists of tasks: the laws' own helpers, and what the model's functions that only read a list answer.
-/
import Derived.Test.YtdndgacaohmdnaaTaskSpec
import Derived.Test.YtdndgacaohmdnaaTaskPutAt
namespace Go.Proofs.Ytdndgacaohmdnaa
open Go.RowKit
attribute [local go_sem] Keeps.refl Keeps.alloc Keeps.drew Keeps.drewN

set_option maxRecDepth 100000 in
theorem szTaskS_any (a : Option Addr) (cap n : Nat) (left : Int) (w : World) (hl : n ≤ maxLen) (h0 : 0 ≤ left) (h1 : left ≤ 1048576) :
    Calls Try.prog 41 #[.slice a n cap, .int .i64 left] w fun e w' => e = .returned (.int .i64 (if (n : Int) ≤ left then left - n else -1)) ∧ w' = w := by
  unfold maxLen at hl
  by_cases h : (n : Int) ≤ left
  · rw [if_pos h]
    go_enter Try.func41, Try.ntmps41
    go_wp2
    go_ret
    exact ⟨rfl, rfl⟩
  · rw [if_neg h]
    go_enter Try.func41, Try.ntmps41
    go_wp2
    go_ret
    exact ⟨rfl, rfl⟩

/-- The tasks ts lie there. -/
abbrev Ts (w : World) (a : Option Addr) (ts : List Tsk) : Prop := Lies 14 tc w a ts

theorem some_at {α : Type} {xs : List α} {k : Nat} (h : k < xs.length) : ∃ x, xs[k]? = some x := ⟨xs[k], List.getElem?_eq_getElem h⟩

set_option maxRecDepth 100000 in
set_option maxHeartbeats 1000000 in
theorem eqTaskS_same (a a' : Option Addr) (cap cap' : Nat) (ts : List Tsk) (w : World) (hl : ts.length ≤ maxLen) (hs : Ts w a ts) (hs' : Ts w a' ts) :
    Calls Try.prog 43 #[.slice a ts.length cap, .slice a' ts.length cap'] w fun e w' => e = .returned (.bool true) ∧ Keeps w w' := by
  unfold maxLen at hl
  generalize hn : ts.length = n at hl
  have Hn : Hid (ts.length = n) := hn
  clear hn
  have hne : ((n : Int) != (n : Int)) = false := by simp
  go_enter Try.func43, Try.ntmps43
  go_wp2
  go_loopw [5] (fun i wr => ∃ k : Nat, k ≤ n ∧ i = .int .i64 k ∧ Keeps w wr) (fun i _ => n - (intOf i).toNat)
  case atStart => exact ⟨0, Nat.zero_le _, rfl, Keeps.refl _⟩
  case round =>
    obtain ⟨k, hk, rfl, hK⟩ := hrel
    by_cases hlt : k < n
    · obtain ⟨t, ht⟩ := some_at (xs := ts) (k := k) (by rw [Hn.out]; exact hlt)
      obtain ⟨b, off, rfl, r0, r1⟩ := hs.at ht (by omega)
      obtain ⟨b', off', rfl, r0', r1'⟩ := hs'.at ht (by omega)
      have hlt' : (k : Int) < (n : Int) := by omega
      clear hs hs' ht
      go_wp2
      go_region_held3 (fun w' => Keeps w w') (first | exact Keeps.drew (by assumption) | exact Keeps.trans (by assumption) (by assumption))
        (first
        | (go_at_call 40; refine (eqTask_same t _).mono ?_; rintro e w1 ⟨rfl, hb⟩))
      go_wp2
      exact ⟨⟨k + 1, by omega, by go_num, by assumption⟩, by simp only [intOf]; omega⟩
    · go_wp2
      go_ret
      exact ⟨rfl, hK⟩

/-- The place of the first with that number, from the place k on. -/
def atFrom (ts : List Tsk) (no : Int) : Int := match ts.findIdx? (fun t => t.no == no) with
  | some i => i
  | none => -1

set_option maxRecDepth 100000 in
set_option maxHeartbeats 2000000 in
theorem toTaskS_any (a : Option Addr) (cap : Nat) (ts : List Tsk) (w : World) (hl : ts.length ≤ 1048576) (hs : Ts w a ts) :
    Calls Try.prog 42 #[.slice a ts.length cap] w fun e w' => ∃ b, e = .returned (.slice (some ⟨b, 0, none⟩) ts.length ts.length) ∧ Ts w' (some ⟨b, 0, none⟩) ts ∧ (∃ f, w'.rowIs b 25 (ts.length * 14) f) ∧ w.heap.size ≤ b ∧ Keeps w w' := by
  generalize hn : ts.length = n at hl
  have Hn : Hid (ts.length = n) := hn
  clear hn
  obtain ⟨C, hC, hmk⟩ := run_make_any (P := Try.prog) 35 25 (tk Tsk.zero) 14 112 Try.underlying35 (by kernel_rfl) n (by omega) (by omega)
  obtain ⟨f0, hrow0⟩ := rowIs_new w C 25
  rw [hC] at hrow0
  clear hC
  go_enter Try.func42, Try.ntmps42
  go_wp2
  go_loopw [4] (fun i wr => ∃ k : Nat, k ≤ n ∧ i = .int .i64 k ∧ Keeps w wr ∧ (∃ f, wr.rowIs w.heap.size 25 (n * 14) f) ∧ Hid (∀ j t, j < k → ts[j]? = some t → ∀ m, m < 14 → wr.cell? ⟨w.heap.size, j * 14 + m, none⟩ = (tc t)[m]?)) (fun i _ => n - (intOf i).toNat)
  case atStart => exact ⟨0, Nat.zero_le _, rfl, (Keeps.refl _).alloc _, ⟨f0, hrow0⟩, fun j _ hj => by omega⟩
  case round =>
    obtain ⟨k, hk, rfl, hK, ⟨f, hrow⟩, hf⟩ := hrel
    clear hmk hrow0
    by_cases hlt : k < n
    · obtain ⟨t, ht⟩ := some_at (xs := ts) (k := k) (by rw [Hn.out]; exact hlt)
      obtain ⟨b, off, rfl, r0, r1⟩ := hs.at ht (by omega)
      have Ht : Hid (ts[k]? = some t) := ht
      clear ht hs
      have hlt' : (k : Int) < (n : Int) := by omega
      have s0 : ∀ w', Keeps wr w' → w'.cell? ⟨w.heap.size, k * 14, none⟩ = some (f (k * 14)) := fun w' h => (rowIs_keeps hrow h).cell (by omega)
      have s1 : ∀ w', Keeps wr w' → ∀ m, m < 14 → w'.cell? ⟨w.heap.size, k * 14 + m, none⟩ = some (f (k * 14 + m)) := fun w' h m hm => (rowIs_keeps hrow h).cell (by omega)
      have s2 : ∀ w', Keeps wr w' → ∀ o, w'.frozen? ⟨w.heap.size, o, none⟩ = false := fun w' h o => (rowIs_keeps hrow h).frozen _
      have HR : Hid (wr.rowIs w.heap.size 25 (n * 14) f) := hrow
      clear hrow
      go_wp2_with (go_at_call 39; refine (toTask_any t _).mono ?_; rintro e w1 ⟨rfl, hb⟩)
      have hR1 := rowIs_keeps HR.out hb
      refine ⟨⟨k + 1, by omega, by go_num, (hK.trans hb).putAt (b := w.heap.size) (o := k * 14) (Nat.le_refl _) t, putAt_row (o := k * 14) hR1 t, ?_⟩, by simp only [intOf]; omega⟩
      intro j s hj hjs m hm
      by_cases hjk : j = k
      · subst hjk
        rw [Ht.out] at hjs
        cases hjs
        exact putAt_in (o := j * 14) t (fun m hm => ⟨_, s1 _ hb m hm⟩) m hm
      · refine (putAt_other (w := w1) (b := w.heap.size) (o := k * 14) t (by omega)).trans ((hb.cells _ _ HR.out.lt).trans ?_)
        exact hf.out j s (by omega) hjs m hm
    · have e : k = n := by omega
      subst e
      go_wp2
      go_ret
      refine ⟨w.heap.size, rfl, .inr ⟨_, _, rfl, hrow.lt, fun i x hx m hm => ?_⟩, ⟨f, hrow⟩, Nat.le_refl _, hK⟩
      rw [Nat.zero_add]
      refine hf.out i x ?_ hx m hm
      have : i < ts.length := by
        rcases Nat.lt_or_ge i ts.length with h | h
        · exact h
        · simp [List.getElem?_eq_none h] at hx
      rw [Hn.out] at this
      exact this
end Go.Proofs.Ytdndgacaohmdnaa
