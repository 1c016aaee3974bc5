/-
  The law FnMoved: its walk, over contracts of the program's functions.
-/
import Derived.Test.YtdndgacaohmdnaaFairLaws
import Derived.Test.YtdndgacaohmdnaaDrawFair
import Derived.Test.YtdndgacaohmdnaaTaskEq
import Derived.Test.YtdndgacaohmdnaaTaskLaws
import Derived.Deep.DeepCutAuto
namespace Go.Proofs.Ytdndgacaohmdnaa
open Go.RowKit
attribute [local go_sem] Keeps.refl Keeps.alloc Keeps.drew Keeps.drewN
attribute [local go_sem high] run_eql_task run_neq_task

set_option maxRecDepth 100000 in
set_option maxHeartbeats 4000000 in
theorem moved_walk (H0 : SaysTaskOk) (H1 : SaysFairMove) (a : Option Addr) (n cap : Nat) (w : World) (hm : n ≤ maxLen) (hb : ∀ g, w.heap.size ≤ g → Bytes g w a n) :
    Calls Try.prog 6 #[.slice a n cap] w fun e w' => e = .returned (.bool true) ∧ Keeps w w' := by
  have hT : Hid SaysTaskOk := H0
  have hM : Hid SaysFairMove := H1
  clear H0 H1
  by_cases hn : n ≤ 1048576
  case neg =>
    have hd : decide (1048576 < (n : Int)) = true := by simp; omega
    go_enter Try.func6, Try.ntmps6
    go_wp2_with (go_at_call 13; refine (big_any _ _ _ _ hm).mono ?_; rintro e w1 ⟨rfl, rfl⟩)
    go_ret
    exact ⟨rfl, Keeps.refl _⟩
  have hd : decide (1048576 < (n : Int)) = false := by simp; omega
  go_enter Try.func6, Try.ntmps6
  go_wp2_with fail
  refine (big_any _ _ _ _ hm).mono ?_
  rintro e w0 ⟨rfl, rfl⟩
  rw [hd]
  go_wp2_with fail
  refine (drawFairMove_any _ _ _ _ hn hb).mono ?_
  rintro e w1 ⟨t, c, f, x, rfl, hc, hf, hx, k1⟩
  clear hb hd
  obtain ⟨c0, c1⟩ := hc
  obtain ⟨f0, f1⟩ := hf
  obtain ⟨x0, x1⟩ := hx
  obtain ⟨N, HN⟩ : ∃ N, Hid (fairMoveT t c f x = N) := ⟨_, rfl⟩
  go_wp2_with fail
  have kW := k1.alloc (.cells (tc t) 25)
  have r1 : ∀ w', Keeps (w1.alloc (.cells (tc t) 25)) w' → ∀ k, w'.cell? ⟨w1.heap.size, k, none⟩ = (tc t)[k]? := fun w' h => ((Blk.new w1 (tc t) 25).keeps h).cells
  clear k1
  generalize w1.alloc (.cells (tc t) 25) = W1 at *
  generalize w1.heap.size = s at *
  refine (hM.out t c f x _).mono ?_
  rintro e w2 ⟨rfl, k2⟩
  rw [HN.out]
  go_wp2_with fail
  have r2 : ∀ w', Keeps (w2.alloc (.cells (tc N) 25)) w' → ∀ k, w'.cell? ⟨w2.heap.size, k, none⟩ = (tc N)[k]? := fun w' h => ((Blk.new w2 (tc N) 25).keeps h).cells
  have r3 : ∀ w', Keeps (w2.alloc (.cells (tc N) 25)) w' → ∀ k, w'.cell? ⟨s, k, none⟩ = (tc t)[k]? := fun w' h => r1 w' ((k2.alloc _).trans h)
  have KW := kW.trans (k2.alloc (.cells (tc N) 25))
  clear r1 k2 kW
  generalize w2.alloc (.cells (tc N) 25) = W2 at *
  generalize w2.heap.size = s2 at *
  have K0 := Keeps.refl W2
  have nNN : eqT N N = true := eqT_same N
  refine wp_region_held_drew (S := (fun w' => Keeps W2 w')) (by kernel_rfl) ?_ (fun hHeld => ?_)
  · exact K0.drew
  refine wpAnyH_take (i := 0) (v := ?_) (by simp only [List.getElem?_toArray, List.getElem?_cons_zero]; rfl) (by kernel_rfl) (by kernel_rfl) (by kernel_rfl) (by exact fun _ _ _ h => h) (Or.inl ⟨by rfl, ?_⟩) (by assumption) ?_
  rotate_left
  · (intro w hSw; (try dsimp only at hSw); go_simp; try (with_reducible rfl))
  try simp only [Act.put, List.setIfInBounds_toArray, List.set_cons_zero, List.set_cons_succ]
  refine wpAnyH_take (i := 1) (v := ?_) (by simp only [List.getElem?_toArray, List.getElem?_cons_succ, List.getElem?_cons_zero]; rfl) (by kernel_rfl) (by kernel_rfl) (by kernel_rfl) (by exact fun _ _ _ h => h) (Or.inl ⟨by rfl, ?_⟩) (by assumption) ?_
  rotate_left
  · (intro w hSw; (try dsimp only at hSw); go_simp; try (with_reducible rfl))
  try simp only [Act.put, List.setIfInBounds_toArray, List.set_cons_zero, List.set_cons_succ]
  refine wpAnyH_take (i := 2) (v := ?_) (by simp only [List.getElem?_toArray, List.getElem?_cons_succ, List.getElem?_cons_zero]; rfl) (by kernel_rfl) (by kernel_rfl) (by kernel_rfl) (by exact fun _ _ _ h => h) (Or.inl ⟨by rfl, ?_⟩) (by assumption) ?_
  rotate_left
  · (intro w hSw; (try dsimp only at hSw); go_simp; try (with_reducible rfl))
  try simp only [Act.put, List.setIfInBounds_toArray, List.set_cons_zero, List.set_cons_succ]
  refine wpAnyH_take (i := 3) (v := ?_) (by simp only [List.getElem?_toArray, List.getElem?_cons_succ, List.getElem?_cons_zero]; rfl) (by kernel_rfl) (by kernel_rfl) (by kernel_rfl) (by exact fun _ _ _ h => h) (Or.inl ⟨by rfl, ?_⟩) (by assumption) ?_
  rotate_left
  · (intro w hSw; (try dsimp only at hSw); go_simp; try (with_reducible rfl))
  try simp only [Act.put, List.setIfInBounds_toArray, List.set_cons_zero, List.set_cons_succ]
  refine wpAnyH_take (i := 4) (v := ?_) (by simp only [List.getElem?_toArray, List.getElem?_cons_succ, List.getElem?_cons_zero]; rfl) (by kernel_rfl) (by kernel_rfl) (by kernel_rfl) (by exact fun _ _ _ h => h) (Or.inl ⟨by rfl, ?_⟩) (by assumption) ?_
  rotate_left
  · (intro w hSw; (try dsimp only at hSw); go_simp; try (with_reducible rfl))
  try simp only [Act.put, List.setIfInBounds_toArray, List.set_cons_zero, List.set_cons_succ]
  refine wpAnyH_ready (rs := [5]) (by kernel_rfl) (by simp) ?_
  refine AllReadyH.cons (by simp only [List.getElem?_toArray, List.getElem?_cons_succ, List.getElem?_cons_zero]; rfl) (fun K hK => ?_) AllReadyH.nil
  go_simp
  first
    | (go_at_call 38; refine (specFairMove_any t c f x _).mono ?_; rintro e w3 ⟨rfl, k3⟩; rw [HN.out])
  try go_wp2_with fail
  refine hK.out _ _ ?_ (fun hHeld => ?_)
  · exact Keeps.trans (by assumption) (by assumption)
  clear hK K
  try simp only [Act.put, List.setIfInBounds_toArray, List.set_cons_zero, List.set_cons_succ]
  refine wpAnyH_take (i := 6) (v := ?_) (by simp only [List.getElem?_toArray, List.getElem?_cons_succ, List.getElem?_cons_zero]; rfl) (by kernel_rfl) (by kernel_rfl) (by kernel_rfl) (by exact fun _ _ _ h => h) (Or.inl ⟨by rfl, ?_⟩) (by assumption) ?_
  rotate_left
  · (intro w hSw; (try dsimp only at hSw); go_simp; try (with_reducible rfl))
  try simp only [Act.put, List.setIfInBounds_toArray, List.set_cons_zero, List.set_cons_succ]
  refine wpAnyH_done (by kernel_rfl) ?_ _
  have K3 : Keeps W2 w3 := by assumption
  clear k3 K0
  cases hq : eqT N t
  rotate_left
  · go_wp2
    go_ret
    exact ⟨rfl, KW.trans K3⟩
  · have hb : moveB t c f x = true := by
      cases hb : moveB t c f x
      · have : N = t := by rw [← HN.out]; simp [fairMoveT, hb]
        rw [this, eqT_same] at hq
        cases hq
      · rfl
    have hI := fairMove_is hb
    rw [HN.out] at hI
    have H3 : Hid (taskB N = true) := by
      have := (fairB_iff N).2 hI
      simp only [fairB, Bool.and_eq_true] at this
      exact this.1
    have eN : N = { t with cpu := c, v := x + max (t.v - f) 0 } := by rw [← HN.out]; unfold fairMoveT; rw [if_pos hb]
    simp only [moveB, Bool.and_eq_true, Bool.not_eq_true', decide_eq_false_iff_not, inB_iff] at hb
    obtain ⟨⟨⟨⟨hf0, hc0⟩, hfr⟩, hto⟩, hle⟩ := hb
    obtain ⟨tv0, tv1⟩ := ((fairB_iff t).1 hf0).v
    have g1 : (N.cpu == c) = true := by rw [eN]; simp
    have g2 : (N.nice == t.nice) = true := by rw [eN]; simp
    have g3 : (N.no == t.no) = true := by rw [eN]; simp
    have gv : N.v = x + max (t.v - f) 0 := by rw [eN]
    have e1 : IntKind.i64.wrap (t.v - f) = t.v - f := Go.IntWalk.i64_in _ (by omega)
    have e2 : IntKind.i64.wrap (N.v - x) = N.v - x := Go.IntWalk.i64_in _ (by omega)
    cases hn : decide (t.v - f < 0)
    · have g4 : (N.v - x == t.v - f) = true := by have := of_decide_eq_false hn; rw [gv]; simp; omega
      clear gv eN hI hf0 hc0 hfr hto hle HN
      go_wp2_with (go_at_call 23; refine (hT.out N _).mono ?_; rintro e w5 ⟨rfl, k5'⟩; have k5 : Keeps W2 w5 := K3.trans k5'; rw [H3.out])
      go_ret
      exact ⟨rfl, KW.trans k5⟩
    · have g4 : (N.v - x == 0) = true := by have := of_decide_eq_true hn; rw [gv]; simp; omega
      clear gv eN hI hf0 hc0 hfr hto hle HN
      go_wp2_with (go_at_call 23; refine (hT.out N _).mono ?_; rintro e w5 ⟨rfl, k5'⟩; have k5 : Keeps W2 w5 := K3.trans k5'; rw [H3.out])
      go_ret
      exact ⟨rfl, KW.trans k5⟩
end Go.Proofs.Ytdndgacaohmdnaa
