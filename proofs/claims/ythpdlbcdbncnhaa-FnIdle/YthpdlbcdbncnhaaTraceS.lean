/-
  The model's IdleOn: how many turns of a processor were nobody's.
-/
import Derived.Test.YthpdlbcdbncnhaaTraceP
import Derived.Test.YthpdlbcdbncnhaaGSys1
namespace Go.Proofs.Ythpdlbcdbncnhaa
open Go.RowKit
attribute [local go_sem] Keeps.refl Keeps.alloc Keeps.drew Keeps.drewN

/-- How many of the first k. -/
theorem countP_step {α : Type} (p : α → Bool) {xs : List α} {k : Nat} {x : α} (h : xs[k]? = some x) : (xs.take (k + 1)).countP p = (xs.take k).countP p + (if p x then 1 else 0) := by
  rw [List.take_add_one, h]
  simp [List.countP_append, List.countP_cons]
theorem countP_le_take {α : Type} (p : α → Bool) (xs : List α) (k : Nat) : (xs.take k).countP p ≤ k := Nat.le_trans List.countP_le_length (by simp; omega)

set_option maxRecDepth 100000 in
set_option maxHeartbeats 1000000 in
theorem specIdleOn_any (a : Option Addr) (n cap : Nat) (xs : List Tn) (cpu : Int) (w : World) (hn : xs.length = n) (hl : n ≤ maxLen) (hs : Rs w a xs) :
    Calls Try.prog 6 #[.slice a n cap, .int .i64 cpu] w fun e w' => e = .returned (.int .i64 (idleN xs cpu)) ∧ Keeps w w' := by
  unfold maxLen at hl
  have Hn : Hid (xs.length = n) := hn
  clear hn
  go_enter Try.func6, Try.ntmps6
  go_wp2
  go_loopw [5, 6] (fun c i wr => ∃ k q : Nat, k ≤ n ∧ q ≤ k ∧ i = .int .i64 k ∧ c = .int .i64 q ∧ Hid (q = (xs.take k).countP (idleP cpu)) ∧ Keeps w wr) (fun _ i _ => n - (intOf i).toNat)
  case atStart => exact ⟨0, 0, Nat.zero_le _, Nat.zero_le _, rfl, rfl, by show _ = _; simp, Keeps.refl _⟩
  case round =>
    obtain ⟨k, q, hk, hq, rfl, rfl, HQ, hK⟩ := hrel
    by_cases hlt : k < n
    · obtain ⟨x, hx⟩ := some_in (xs := xs) (k := k) (by rw [Hn.out]; exact hlt)
      obtain ⟨b, off, rfl, r0, r1⟩ := hs.at hx (by omega)
      have hlt' : (k : Int) < (n : Int) := by omega
      have HS : Hid ((xs.take (k + 1)).countP (idleP cpu) = q + (if idleP cpu x then 1 else 0)) := by show _ = _; rw [countP_step _ hx, HQ.out]
      clear hs hx
      cases c1 : (x.cpu == cpu)
      · have H1 : Hid (q = (xs.take (k + 1)).countP (idleP cpu)) := by show _ = _; rw [HS.out]; simp [idleP, c1]
        clear HS
        go_wp2
        exact ⟨⟨k + 1, q, by omega, by omega, by go_num, rfl, H1, by assumption⟩, by simp only [intOf]; omega⟩
      · cases c2 : (x.ctx == 0)
        · have H1 : Hid (q = (xs.take (k + 1)).countP (idleP cpu)) := by show _ = _; rw [HS.out]; simp [idleP, c1, c2]
          clear HS
          go_wp2
          exact ⟨⟨k + 1, q, by omega, by omega, by go_num, rfl, H1, by assumption⟩, by simp only [intOf]; omega⟩
        · have H1 : Hid (q + 1 = (xs.take (k + 1)).countP (idleP cpu)) := by show _ = _; rw [HS.out]; simp [idleP, c1, c2]
          clear HS
          go_wp2
          exact ⟨⟨k + 1, q + 1, by omega, by omega, by go_num, by go_num, H1, by assumption⟩, by simp only [intOf]; omega⟩
    · have hlt' : decide ((k : Int) < (n : Int)) = false := by simp; omega
      have HE : Hid (idleN xs cpu = q) := by
        show _ = _
        rw [HQ.out, List.take_of_length_le (by rw [Hn.out]; omega)]
        rfl
      go_wp2
      go_ret
      exact ⟨by rw [HE.out]; rfl, hK⟩
end Go.Proofs.Ythpdlbcdbncnhaa
