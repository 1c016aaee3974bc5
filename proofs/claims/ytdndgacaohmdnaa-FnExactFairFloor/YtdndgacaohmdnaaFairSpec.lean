/-
  Fair shares: contracts of the model's functions.
-/
import Derived.Test.YtdndgacaohmdnaaFairPure
import Derived.Test.YtdndgacaohmdnaaHas
namespace Go.Proofs.Ytdndgacaohmdnaa
open Go.RowKit
attribute [local go_sem] Keeps.refl Keeps.alloc Keeps.drew Keeps.drewN

set_option maxRecDepth 100000 in
theorem l1Max_any (a b : Int) (w : World) :
    Calls Try.prog 73 #[.int .i64 a, .int .i64 b] w fun e w' => e = .returned (.int .i64 (max a b)) ∧ w' = w := by
  by_cases h : a > b
  · have Hr : Hid (max a b = a) := by show _ = _; omega
    go_enter Try.func73, Try.ntmps73
    go_wp2
    go_ret
    exact ⟨by rw [Hr.out]; rfl, rfl⟩
  · have Hr : Hid (max a b = b) := by show _ = _; omega
    have hd : decide (a > b) = false := by simpa using h
    go_enter Try.func73, Try.ntmps73
    go_wp2
    go_ret
    exact ⟨by rw [Hr.out]; rfl, rfl⟩

set_option maxRecDepth 100000 in
theorem l6Fair_any (t : Tsk) (w : World) :
    Calls Try.prog 61 #[tk t] w fun e w' => e = .returned (.bool (fairB t)) ∧ Keeps w w' := by
  go_enter Try.func61, Try.ntmps61
  go_wp2_with fail
  refine (specTaskOk_any t _).mono ?_
  rintro e w1 ⟨rfl, k1⟩
  have B1 := (Blk.new w (tc t) 25).keeps k1
  have K1 : Keeps w w1 := ((Keeps.refl w).alloc _).trans k1
  obtain ⟨_, b1, b2⟩ := B1
  clear k1
  cases hb : taskB t
  · have Hr : Hid (fairB t = false) := by show _ = _; simp [fairB, hb]
    go_wp2
    go_ret
    exact ⟨by rw [Hr.out]; rfl, K1⟩
  · have Hr : Hid (fairB t = (t.cls == 3)) := by show _ = _; simp [fairB, hb]
    go_wp2
    go_ret
    exact ⟨by rw [Hr.out]; rfl, K1⟩

set_option maxRecDepth 100000 in
set_option maxHeartbeats 2000000 in
theorem specFairBefore_any (a b : Tsk) (w : World) :
    Calls Try.prog 22 #[tk a, tk b] w fun e w' => e = .returned (.bool (fairBefB a b)) ∧ Keeps w w' := by
  go_enter Try.func22, Try.ntmps22
  go_wp2_with fail
  have kW : Keeps w ((w.alloc (.cells (tc a) 25)).alloc (.cells (tc b) 25)) := ((Keeps.refl w).alloc _).alloc _
  have r1 : ∀ w', Keeps ((w.alloc (.cells (tc a) 25)).alloc (.cells (tc b) 25)) w' → ∀ k, w'.cell? ⟨w.heap.size, k, none⟩ = (tc a)[k]? := fun w' h => (((Blk.new w (tc a) 25).alloc _).keeps h).cells
  have r2 : ∀ w', Keeps ((w.alloc (.cells (tc a) 25)).alloc (.cells (tc b) 25)) w' → ∀ k, w'.cell? ⟨w.heap.size + 1, k, none⟩ = (tc b)[k]? := fun w' h => by
    have := (Blk.new (w.alloc (.cells (tc a) 25)) (tc b) 25).keeps h
    simp only [World.size_alloc] at this
    exact this.cells
  generalize (w.alloc (.cells (tc a) 25)).alloc (.cells (tc b) 25) = W at *
  refine (l6Fair_any a _).mono ?_
  rintro e w1 ⟨rfl, k1⟩
  cases ha : fairB a
  · have Hr : Hid (fairBefB a b = false) := by show _ = _; simp [fairBefB, ha]
    go_wp2
    go_ret
    exact ⟨by rw [Hr.out]; rfl, kW.trans k1⟩
  · go_wp2_with fail
    refine (l6Fair_any b _).mono ?_
    rintro e w2 ⟨rfl, k2⟩
    have K2 := k1.trans k2
    cases hb : fairB b
    · have Hr : Hid (fairBefB a b = false) := by show _ = _; simp [fairBefB, hb]
      go_wp2
      go_ret
      exact ⟨by rw [Hr.out]; rfl, kW.trans K2⟩
    · cases h1 : decide (a.v < b.v)
      · cases h2 : (a.v == b.v)
        · have Hr : Hid (fairBefB a b = false) := by show _ = _; simp only [fairBefB, h1, h2, Bool.false_and, Bool.or_false, Bool.and_false]
          go_wp2
          go_ret
          exact ⟨by rw [Hr.out]; rfl, kW.trans K2⟩
        · have Hr : Hid (fairBefB a b = decide (a.no < b.no)) := by show _ = _; simp only [fairBefB, ha, hb, h1, h2, Bool.true_and, Bool.false_or]
          go_wp2
          go_ret
          exact ⟨by rw [Hr.out]; rfl, kW.trans K2⟩
      · have Hr : Hid (fairBefB a b = true) := by show _ = _; simp only [fairBefB, ha, hb, h1, Bool.true_or, Bool.and_true]
        go_wp2
        go_ret
        exact ⟨by rw [Hr.out]; rfl, kW.trans K2⟩

set_option maxRecDepth 100000 in
set_option maxHeartbeats 2000000 in
theorem l6To_any (t : Tsk) (x : Int) (w : World) :
    Calls Try.prog 71 #[tk t, .int .i64 x] w fun e w' => e = .returned (tk (fairTo t x)) ∧ Keeps w w' := by
  cases hb : inB x 0 100000000
  · have Hn : Hid (fairTo t x = t) := by show _ = _; simp [fairTo, hb]
    go_enter Try.func71, Try.ntmps71
    go_wp2_with (go_at_call 74; refine (l1In_any _ _ _ _).mono ?_; rintro e w' ⟨rfl, rfl⟩; rw [hb])
    exact bodyPost_ret (v := tk t) (by simp [results, Try.results71, go_sem]) rfl ⟨by rw [Hn.out], by repeat (first | exact Keeps.refl _ | refine Keeps.alloc ?_ _ | refine Keeps.drewN ?_ _ | refine Keeps.setCell ?_ (by simp [go_sem]) _)⟩
  · have Hn : Hid (fairTo t x = { t with v := x }) := by show _ = _; simp [fairTo, hb]
    go_enter Try.func71, Try.ntmps71
    go_wp2_with (go_at_call 74; refine (l1In_any _ _ _ _).mono ?_; rintro e w' ⟨rfl, rfl⟩; rw [hb])
    exact bodyPost_ret (v := tk { t with v := x }) (by simp [results, Try.results71, go_sem]) rfl ⟨by rw [Hn.out], by repeat (first | exact Keeps.refl _ | refine Keeps.alloc ?_ _ | refine Keeps.drewN ?_ _ | refine Keeps.setCell ?_ (by simp [go_sem]) _)⟩

end Go.Proofs.Ytdndgacaohmdnaa
