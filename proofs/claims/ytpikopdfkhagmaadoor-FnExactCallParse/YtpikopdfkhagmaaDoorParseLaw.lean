/-
  The walk of FnExactCallParse.
-/
import Derived.Test.YtpikopdfkhagmaaDoorImplCallParse
namespace Go.Proofs.YtpikopdfkhagmaaDoor
open Go.RowKit
attribute [local go_sem] Keeps.refl Keeps.alloc Keeps.drew Keeps.drewN

set_option maxRecDepth 100000 in
set_option maxHeartbeats 2000000 in
theorem eqCall_same (c : Cl) (w : World) :
    Calls Tryd.prog 11 #[ck c, ck c] w fun e w' => e = .returned (.bool true) ∧ Keeps w w' := by
  have h1 : (c.kind != c.kind) = false := by simp
  have h2 : (c.no != c.no) = false := by simp
  have h3 : (c.cpu != c.cpu) = false := by simp
  have h4 : (c.a != c.a) = false := by simp
  have h5 : (c.b != c.b) = false := by simp
  go_enter Tryd.func11, Tryd.ntmps11
  go_wp2
  go_ret
  exact ⟨rfl, ((Keeps.refl w).alloc _).alloc _⟩
set_option maxRecDepth 100000 in
set_option maxHeartbeats 4000000 in
theorem exactCallParse_walk (l : List UInt8) (w : World) (hg : GlobT w) (hgl : GlobL w) :
    Calls Tryd.prog 4 #[strV l] w fun e w' => e = .returned (.bool true) ∧ Keeps w w' := by
  obtain ⟨n, hn⟩ : ∃ n, l.length = n := ⟨_, rfl⟩
  have Hn : Hid (l.length = n) := hn
  have hsz : (⟨l.toArray⟩ : ByteArray).size = n := by simpa [ByteArray.size] using hn
  clear hn
  by_cases hl : n ≤ 1048576
  rotate_left
  · have hd : (1048576 : Int) < (n : Int) := by omega
    go_enter Tryd.func4, Tryd.ntmps4
    go_wp2
    go_ret
    exact ⟨rfl, Keeps.refl _⟩
  have hd : decide ((1048576 : Int) < (n : Int)) = false := by simp; omega
  obtain ⟨c, Hc⟩ : ∃ c, Hid (parseC l = c) := ⟨_, rfl⟩
  obtain ⟨b, Hb⟩ : ∃ b, Hid (parseB l = b) := ⟨_, rfl⟩
  have hbb : (b != b) = false := by simp
  have cS := specCallParse_any l w (by rw [Hn.out]; exact hl)
  have cI : Hid (∀ W, Keeps w W → Calls Tryd.prog 10 #[strV l] W fun e w' => e = .returned (.tuple #[ck c, .bool b]) ∧ Keeps W w') := fun W k => by
    have := implCallParse_any l W (hg.keeps k) (hgl.keeps k) (by rw [Hn.out]; exact hl)
    rw [Hc.out, Hb.out] at this
    exact this
  rw [Hc.out, Hb.out] at cS
  clear hg hgl
  go_enter Tryd.func4, Tryd.ntmps4
  go_upto_region 4 with (go_at_call 9; refine cS.mono ?_; rintro e w1 ⟨rfl, k1⟩)
  have kX : Keeps w (w1.alloc (.cells (cc c) 26)) := k1.alloc _
  have r1 := blkR w1 (cc c) 26
  change Code.wp _ _ _ _ (w1.alloc (.cells (cc c) 26))
  generalize w1.alloc (.cells (cc c) 26) = X at *
  generalize w1.heap.size = xb at *
  clear k1 cS
  go_upto_region 5 with (go_at_call 10; refine (cI.out _ kX).mono ?_; rintro e w2 ⟨rfl, k2⟩)
  have kY : Keeps w (w2.alloc (.cells (cc c) 26)) := (kX.trans k2).alloc _
  have r2 := blkR w2 (cc c) 26
  have r3 := fun w' (h : Keeps (w2.alloc (.cells (cc c) 26)) w') => r1 w' (((Keeps.refl _).alloc _).trans h |> (k2.trans ·))
  change Code.wp _ _ _ _ (w2.alloc (.cells (cc c) 26))
  generalize w2.alloc (.cells (cc c) 26) = Y at *
  generalize w2.heap.size = yb at *
  clear k2 r1 kX
  go_wp2_with (go_at_call 11; refine (eqCall_same c _).mono ?_; rintro e w3 ⟨rfl, k3⟩)
  go_ret
  exact ⟨rfl, kY.trans k3⟩
end Go.Proofs.YtpikopdfkhagmaaDoor
