/-
  The law FnSpent: its walk, over contracts of the program's functions.
-/
import Derived.Test.YtmdpngahofeliaaDueLaws
import Derived.Test.YtmdpngahofeliaaDrawDue
import Derived.Test.YtmdpngahofeliaaTaskEq
namespace Go.Proofs.Ytmdpngahofeliaa
open Go.RowKit
attribute [local go_sem] Keeps.refl Keeps.alloc Keeps.drew Keeps.drewN
attribute [local go_sem high] run_eql_task run_neq_task

/-- While it is spent: the task that is spent, what the first spending left, the share. -/
structure SP (w wr : World) (s s2 s3 : Nat) (U N : Tsk) (q p : Int) : Prop where
  kp : Keeps w wr
  one : Blk wr s (tc U)
  two : Blk wr s2 (tc N)
  shr : Blk wr s3 #[.int .i64 q, .int .i64 p]
theorem SP.go {w wr wr' : World} {s s2 s3 : Nat} {U N : Tsk} {q p : Int} (h : SP w wr s s2 s3 U N q p) (k : Keeps wr wr') : SP w wr' s s2 s3 U N q p := ⟨h.kp.trans k, h.one.keeps k, h.two.keeps k, h.shr.keeps k⟩
theorem SP.put {w wr : World} {s s2 s3 : Nat} {U N : Tsk} {q p : Int} (h : SP w wr s s2 s3 U N q p) (V : Tsk) (hs : w.heap.size ≤ s) (h2 : s ≠ s2) (h3 : s ≠ s3) : SP w (putC wr s 0 (tc V).toList) s s2 s3 V N q p :=
  ⟨Keeps.putC hs _ _ h.kp, h.one.putC _ rfl, Blk.farC h2 _ _ h.two, Blk.farC h3 _ _ h.shr⟩
theorem SP.rules {w wr : World} {s s2 s3 : Nat} {U N : Tsk} {q p : Int} (h : SP w wr s s2 s3 U N q p) :
    (∀ k, wr.cell? ⟨s, k, none⟩ = (tc U)[k]?) ∧ (∀ k, wr.cell? ⟨s2, k, none⟩ = (tc N)[k]?) ∧ (∀ k, wr.cell? ⟨s3, k, none⟩ = (#[.int .i64 q, .int .i64 p] : Array Value)[k]?) ∧ ∀ k, wr.frozen? ⟨s, k, none⟩ = false :=
  ⟨h.one.cells, h.two.cells, h.shr.cells, h.one.frozens⟩

set_option maxRecDepth 100000 in
set_option maxHeartbeats 4000000 in
theorem spent_walk (HS : SaysDueSpend) (HH : SaysDueShare) (a : Option Addr) (n cap : Nat) (w : World) (hm : n ≤ maxLen) (hb : ∀ g, w.heap.size ≤ g → Bytes g w a n) :
    Calls Try.prog 19 #[.slice a n cap] w fun e w' => e = .returned (.bool true) ∧ Keeps w w' := by
  have hS : Hid SaysDueSpend := HS
  have hH : Hid SaysDueShare := HH
  clear HS HH
  by_cases hn : n ≤ 1048576
  case neg =>
    have hd : decide (1048576 < (n : Int)) = true := by simp; omega
    go_enter Try.func19, Try.ntmps19
    go_wp2_with (go_at_call 41; refine (big_any _ _ _ _ hm).mono ?_; rintro e w1 ⟨rfl, rfl⟩)
    go_ret
    exact ⟨rfl, Keeps.refl _⟩
  have hd : decide (1048576 < (n : Int)) = false := by simp; omega
  go_enter Try.func19, Try.ntmps19
  go_wp2_with fail
  refine (big_any _ _ _ _ hm).mono ?_
  rintro e w0 ⟨rfl, rfl⟩
  rw [hd]
  go_wp2_with fail
  refine (drawDueSpend_any _ _ _ _ hn hb).mono ?_
  rintro e w1 ⟨t, rfl, k1⟩
  clear hb hd
  obtain ⟨N, HN⟩ : ∃ N, Hid (spendT t = N) := ⟨_, rfl⟩
  obtain ⟨q, Hq⟩ : ∃ q, Hid (dueQ t = q) := ⟨_, rfl⟩
  obtain ⟨p, Hp⟩ : ∃ p, Hid (dueP t = p) := ⟨_, rfl⟩
  obtain ⟨g, Hg⟩ : ∃ g, Hid (dueB t = g) := ⟨_, rfl⟩
  go_wp2_with fail
  have kW := k1.alloc (.cells (tc t) 25)
  have r1 : ∀ w', Keeps (w1.alloc (.cells (tc t) 25)) w' → Blk w' w1.heap.size (tc t) := fun w' h => (Blk.new w1 (tc t) 25).keeps h
  have c1 : ∀ w', Keeps (w1.alloc (.cells (tc t) 25)) w' → ∀ k, w'.cell? ⟨w1.heap.size, k, none⟩ = (tc t)[k]? := fun w' h => (r1 w' h).cells
  have hs0 : w0.heap.size ≤ w1.heap.size := k1.size
  clear k1
  have hl1 : w1.heap.size < (w1.alloc (.cells (tc t) 25)).heap.size := by simp
  generalize w1.alloc (.cells (tc t) 25) = W1 at *
  generalize w1.heap.size = s at *
  refine (hS.out t _).mono ?_
  rintro e w2 ⟨rfl, k2⟩
  rw [HN.out]
  go_wp2_with fail
  have r2 : ∀ w', Keeps (w2.alloc (.cells (tc N) 25)) w' → Blk w' w2.heap.size (tc N) := fun w' h => (Blk.new w2 (tc N) 25).keeps h
  have c2 : ∀ w', Keeps (w2.alloc (.cells (tc N) 25)) w' → ∀ k, w'.cell? ⟨w2.heap.size, k, none⟩ = (tc N)[k]? := fun w' h => (r2 w' h).cells
  have k2' := k2.alloc (.cells (tc N) 25)
  have hs2 : s ≠ w2.heap.size := by have := k2.size; omega
  have r1' : ∀ w', Keeps (w2.alloc (.cells (tc N) 25)) w' → Blk w' s (tc t) := fun w' h => r1 w' (k2'.trans h)
  have c1' : ∀ w', Keeps (w2.alloc (.cells (tc N) 25)) w' → ∀ k, w'.cell? ⟨s, k, none⟩ = (tc t)[k]? := fun w' h => (r1' w' h).cells
  have KW := kW.trans k2'
  have hl2 : w2.heap.size < (w2.alloc (.cells (tc N) 25)).heap.size := by simp
  have hl1' : s < (w2.alloc (.cells (tc N) 25)).heap.size := Nat.lt_of_lt_of_le hl1 k2'.size
  clear r1 c1 k2 k2' kW hl1
  generalize w2.alloc (.cells (tc N) 25) = W2 at *
  generalize w2.heap.size = s2 at *
  refine (hH.out t _).mono ?_
  rintro e w3 ⟨rfl, k3⟩
  rw [Hq.out, Hp.out, Hg.out]
  go_wp2_with fail
  have r3 : ∀ w', Keeps (w3.alloc (.cells #[.int .i64 q, .int .i64 p] 59)) w' → Blk w' w3.heap.size #[.int .i64 q, .int .i64 p] := fun w' h => (Blk.new w3 _ 59).keeps h
  have k3' := k3.alloc (.cells #[.int .i64 q, .int .i64 p] 59)
  have hs3 : s ≠ w3.heap.size := by have := k3.size; omega
  have R1 : ∀ w', Keeps (w3.alloc (.cells #[.int .i64 q, .int .i64 p] 59)) w' → Blk w' s (tc t) := fun w' h => r1' w' (k3'.trans h)
  have R2 : ∀ w', Keeps (w3.alloc (.cells #[.int .i64 q, .int .i64 p] 59)) w' → Blk w' s2 (tc N) := fun w' h => r2 w' (k3'.trans h)
  have C1 : ∀ w', Keeps (w3.alloc (.cells #[.int .i64 q, .int .i64 p] 59)) w' → ∀ k, w'.cell? ⟨s, k, none⟩ = (tc t)[k]? := fun w' h => (R1 w' h).cells
  have C2 : ∀ w', Keeps (w3.alloc (.cells #[.int .i64 q, .int .i64 p] 59)) w' → ∀ k, w'.cell? ⟨s2, k, none⟩ = (tc N)[k]? := fun w' h => (R2 w' h).cells
  have C3 : ∀ w', Keeps (w3.alloc (.cells #[.int .i64 q, .int .i64 p] 59)) w' → ∀ k, w'.cell? ⟨w3.heap.size, k, none⟩ = (#[.int .i64 q, .int .i64 p] : Array Value)[k]? := fun w' h => (r3 w' h).cells
  have KX := KW.trans k3'
  clear r1' r2 c1' c2 k3 k3' KW hl1' hl2
  generalize w3.alloc (.cells #[.int .i64 q, .int .i64 p] 59) = W3 at *
  generalize w3.heap.size = s3 at *
  refine (specDueShare_any t _).mono ?_
  rintro e w4 ⟨rfl, k4⟩
  rw [Hq.out, Hp.out, Hg.out]
  have K4 := k4.alloc (.cells #[.int .i64 q, .int .i64 p] 59)
  clear k4
  go_wp2_with fail
  generalize w4.alloc (.cells #[.int .i64 q, .int .i64 p] 59) = W4 at *
  generalize w4.heap.size = s4 at *
  have nNN : eqT N N = true := eqT_same N
  have ngg : (g != g) = false := by simp
  refine wp_region_held_drew (S := (fun w' => Keeps W3 w')) (by kernel_rfl) ?_ (fun hHeld => ?_)
  · exact K4.drew
  refine wpAnyH_take (i := 0) (v := ?_) (by simp only [List.getElem?_toArray, List.getElem?_cons_zero]; rfl) (by kernel_rfl) (by kernel_rfl) (by kernel_rfl) (by exact fun _ _ _ h => h) (Or.inl ⟨by rfl, ?_⟩) (by assumption) ?_
  rotate_left
  · (intro w hSw; (try dsimp only at hSw); go_simp; try (with_reducible rfl))
  try simp only [Act.put, List.setIfInBounds_toArray, List.set_cons_zero, List.set_cons_succ]
  refine wpAnyH_take (i := 1) (v := ?_) (by simp only [List.getElem?_toArray, List.getElem?_cons_succ, List.getElem?_cons_zero]; rfl) (by kernel_rfl) (by kernel_rfl) (by kernel_rfl) (by exact fun _ _ _ h => h) (Or.inl ⟨by rfl, ?_⟩) (by assumption) ?_
  rotate_left
  · (intro w hSw; (try dsimp only at hSw); go_simp; try (with_reducible rfl))
  try simp only [Act.put, List.setIfInBounds_toArray, List.set_cons_zero, List.set_cons_succ]
  refine wpAnyH_ready (rs := [2]) (by kernel_rfl) (by simp) ?_
  refine AllReadyH.cons (by simp only [List.getElem?_toArray, List.getElem?_cons_succ, List.getElem?_cons_zero]; rfl) (fun K hK => ?_) AllReadyH.nil
  go_simp
  first
    | (go_at_call 50; refine (specDueSpend_any t _).mono ?_; rintro e w5 ⟨rfl, k5⟩; rw [HN.out])
  try go_wp2_with fail
  refine hK.out _ _ ?_ (fun hHeld => ?_)
  · exact Keeps.trans (by assumption) (by assumption)
  clear hK K
  try simp only [Act.put, List.setIfInBounds_toArray, List.set_cons_zero, List.set_cons_succ]
  refine wpAnyH_take (i := 3) (v := ?_) (by simp only [List.getElem?_toArray, List.getElem?_cons_succ, List.getElem?_cons_zero]; rfl) (by kernel_rfl) (by kernel_rfl) (by kernel_rfl) (by exact fun _ _ _ h => h) (Or.inl ⟨by rfl, ?_⟩) (by assumption) ?_
  rotate_left
  · (intro w hSw; (try dsimp only at hSw); go_simp; try (with_reducible rfl))
  try simp only [Act.put, List.setIfInBounds_toArray, List.set_cons_zero, List.set_cons_succ]
  refine wpAnyH_take (i := 4) (v := ?_) (by simp only [List.getElem?_toArray, List.getElem?_cons_succ, List.getElem?_cons_zero]; rfl) (by kernel_rfl) (by kernel_rfl) (by kernel_rfl) (by exact fun _ _ _ h => h) (Or.inl ⟨by rfl, ?_⟩) (by assumption) ?_
  rotate_left
  · (intro w hSw; (try dsimp only at hSw); go_simp; try (with_reducible rfl))
  try simp only [Act.put, List.setIfInBounds_toArray, List.set_cons_zero, List.set_cons_succ]
  refine wpAnyH_take (i := 5) (v := ?_) (by simp only [List.getElem?_toArray, List.getElem?_cons_succ, List.getElem?_cons_zero]; rfl) (by kernel_rfl) (by kernel_rfl) (by kernel_rfl) (by exact fun _ _ _ h => h) (Or.inl ⟨by rfl, ?_⟩) (by assumption) ?_
  rotate_left
  · (intro w hSw; (try dsimp only at hSw); go_simp; try (with_reducible rfl))
  try simp only [Act.put, List.setIfInBounds_toArray, List.set_cons_zero, List.set_cons_succ]
  refine wpAnyH_take (i := 6) (v := ?_) (by simp only [List.getElem?_toArray, List.getElem?_cons_succ, List.getElem?_cons_zero]; rfl) (by kernel_rfl) (by kernel_rfl) (by kernel_rfl) (by exact fun _ _ _ h => h) (Or.inl ⟨by rfl, ?_⟩) (by assumption) ?_
  rotate_left
  · (intro w hSw; (try dsimp only at hSw); go_simp; try (with_reducible rfl))
  try simp only [Act.put, List.setIfInBounds_toArray, List.set_cons_zero, List.set_cons_succ]
  refine wpAnyH_take (i := 7) (v := ?_) (by simp only [List.getElem?_toArray, List.getElem?_cons_succ, List.getElem?_cons_zero]; rfl) (by kernel_rfl) (by kernel_rfl) (by kernel_rfl) (by exact fun _ _ _ h => h) (Or.inl ⟨by rfl, ?_⟩) (by assumption) ?_
  rotate_left
  · (intro w hSw; (try dsimp only at hSw); go_simp; try (with_reducible rfl))
  try simp only [Act.put, List.setIfInBounds_toArray, List.set_cons_zero, List.set_cons_succ]
  refine wpAnyH_take (i := 8) (v := ?_) (by simp only [List.getElem?_toArray, List.getElem?_cons_succ, List.getElem?_cons_zero]; rfl) (by kernel_rfl) (by kernel_rfl) (by kernel_rfl) (by exact fun _ _ _ h => h) (Or.inl ⟨by rfl, ?_⟩) (by assumption) ?_
  rotate_left
  · (intro w hSw; (try dsimp only at hSw); go_simp; try (with_reducible rfl))
  try simp only [Act.put, List.setIfInBounds_toArray, List.set_cons_zero, List.set_cons_succ]
  refine wpAnyH_done (by kernel_rfl) ?_ _
  have K5 : Keeps W3 w5 := by assumption
  clear k5 nNN ngg K4
  cases g
  · have e : N = t := by rw [← HN.out]; simp [spendT, spendB, Hg.out]
    have eq0 : q = 0 := by rw [← Hq.out]; simp [dueQ, Hg.out]
    have ep0 : p = 0 := by rw [← Hp.out]; simp [dueP, Hg.out]
    subst e eq0 ep0
    have nNN : eqT N N = true := eqT_same N
    go_wp2
    go_ret
    exact ⟨rfl, KX.trans K5⟩
  · have hD := (dueB_iff t).1 Hg.out
    have Eqq : Hid (q = t.q) := by show _ = _; rw [← Hq.out]; simp [dueQ, Hg.out]
    have Epp : Hid (p = t.p) := by show _ = _; rw [← Hp.out]; simp [dueP, Hg.out]
    obtain ⟨q0, q1⟩ := hD.q
    obtain ⟨p0, p1⟩ := hD.p
    obtain ⟨l0, l1⟩ := hD.left
    have S5 : Hid (SP w0 w5 s s2 s3 (spentT t 0) N q p) := ⟨KX.trans K5, by rw [spent_zero hD]; exact R1 w5 K5, R2 w5 K5, r3 w5 K5⟩
    have HD : Hid (IsDue t) := hD
    clear hD
    go_wp2
    go_loopw [10] (fun i wr => ∃ k : Nat, (k : Int) ≤ t.q + 1 ∧ i = .int .i64 k ∧ SP w0 wr s s2 s3 (spentT t k) N q p) (fun i _ => (t.q + 1 - intOf i).toNat)
    case atStart => exact ⟨0, by simp; omega, rfl, S5.out⟩
    case round =>
      obtain ⟨k, hk, rfl, S⟩ := hrel
      clear S5 C1 C2 C3 R1 R2 r3 K5 KX
      obtain ⟨U, HU⟩ : ∃ U, Hid (spentT t k = U) := ⟨_, rfl⟩
      rw [HU.out] at S
      have Uq : Hid (U.q = t.q) := by show _ = _; rw [← HU.out]; rfl
      have u0 : 1 ≤ U.q := by rw [Uq.out]; exact q0
      have u1 : U.q ≤ 40 := by rw [Uq.out]; omega
      obtain ⟨z1, z2, z3, z4⟩ := S.rules
      by_cases hlt : (k : Int) < U.q + 1
      · have hst := spent_step HD.out (i := (k : Int)) (by omega)
        rw [HU.out] at hst
        obtain ⟨V, HV⟩ : ∃ V, Hid (spentT t (k + 1) = V) := ⟨_, rfl⟩
        rw [HV.out] at hst
        have Hst : Hid (spendT U = V) := hst
        have HSP : Hid (SP w0 wr s s2 s3 U N q p) := S
        clear S hst
        go_wp2_with fail
        refine (hS.out U _).mono ?_
        rintro e w6 ⟨rfl, k6⟩
        rw [Hst.out]
        have S6 := HSP.out.go k6
        clear z1 z2 z3 z4 HSP
        obtain ⟨z1, z2, z3, z4⟩ := S6.rules
        have HSP : Hid (SP w0 w6 s s2 s3 U N q p) := S6
        clear S6
        go_wp2
        have hlt2 := hlt
        rw [Uq.out] at hlt2
        refine ⟨⟨k + 1, by omega, by go_num, ?_⟩, by simp only [intOf]; omega⟩
        rw [show ((k + 1 : Nat) : Int) = (k : Int) + 1 by omega, HV.out]
        exact HSP.out.put V hs0 hs2 hs3
      · have hlt' : decide ((k : Int) < U.q + 1) = false := by simp; omega
        have hlt2 := hlt
        rw [Uq.out] at hlt2
        have hU0 : (U.left == 0) = true := by rw [← HU.out]; simp only [spentT, beq_iff_eq]; omega
        have f1 : (q == N.q) = true := by rw [Eqq.out, ← HN.out]; unfold spendT; split <;> simp
        have f2 : (p == N.p) = true := by rw [Epp.out, ← HN.out]; unfold spendT; split <;> simp
        have HSP : Hid (Keeps w0 wr) := S.kp
        clear S
        cases hl : (t.left == 0)
        · have hNl : (N.left == t.left - 1) = true := by
            have : 0 < t.left := by simp at hl; omega
            rw [← HN.out]; simp [spendT, spendB, Hg.out, this]
          go_wp2
          go_ret
          exact ⟨rfl, HSP.out⟩
        · have hNl : (N.left == 0) = true := by
            have h0 : t.left = 0 := by simpa using hl
            rw [← HN.out]; simp [spendT, spendB, h0]
          go_wp2
          go_ret
          exact ⟨rfl, HSP.out⟩
end Go.Proofs.Ytmdpngahofeliaa
