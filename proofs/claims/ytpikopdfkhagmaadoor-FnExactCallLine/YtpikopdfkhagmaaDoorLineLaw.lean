/-
  The walk of FnExactCallLine.
-/
import Derived.Test.YtpikopdfkhagmaaDoorImplCallLine
namespace Go.Proofs.YtpikopdfkhagmaaDoor
open Go.RowKit
attribute [local go_sem] Keeps.refl Keeps.alloc Keeps.drew Keeps.drewN

set_option maxRecDepth 100000 in
set_option maxHeartbeats 2000000 in
theorem exactCallLine_walk (c : Cl) (w : World) (hg : GlobT w) :
    Calls Tryd.prog 3 #[ck c] w fun e w' => e = .returned (.bool true) ∧ Keeps w w' := by
  obtain ⟨l, Hl⟩ : ∃ l, Hid (lineL c = l) := ⟨_, rfl⟩
  obtain ⟨b, Hb⟩ : ∃ b, Hid (lineB c = b) := ⟨_, rfl⟩
  have hbb : (b != b) = false := by simp
  have hll := run_strNe l l
  rw [show (l == l) = true from by simp] at hll
  have cS : ∀ W, Calls Tryd.prog 6 #[ck c] W fun e w' => e = .returned (.tuple #[strV l, .bool b]) ∧ Keeps W w' := fun W => by
    have := specCallLine_any c W
    rw [Hl.out, Hb.out] at this
    exact this
  have cI : ∀ W, Keeps w W → Calls Tryd.prog 8 #[ck c] W fun e w' => e = .returned (.tuple #[strV l, .bool b]) ∧ Keeps W w' := fun W k => by
    have := implCallLine_any c W (hg.keeps k)
    rw [Hl.out, Hb.out] at this
    exact this
  have HI := cI
  clear cI hg
  go_enter Tryd.func3, Tryd.ntmps3
  go_wp2_with fail
  have kW : Keeps w (w.alloc (.cells (cc c) 23)) := (Keeps.refl _).alloc _
  have r1 := blkR w (cc c) 23
  generalize w.alloc (.cells (cc c) 23) = W at *
  refine (toCall_any c _).mono ?_
  rintro e w1 ⟨rfl, b1⟩
  have k1 : Keeps W w1 := b1
  go_wp2_with fail
  refine (cS _).mono ?_
  rintro e w2 ⟨rfl, b2⟩
  have k2 : Keeps W w2 := k1.trans b2
  go_wp2_with fail
  refine (toCall_any c _).mono ?_
  rintro e w3 ⟨rfl, b3⟩
  have k3 : Keeps W w3 := k2.trans b3
  go_wp2_with fail
  refine (HI _ (kW.trans k3)).mono ?_
  rintro e w4 ⟨rfl, b4⟩
  have k4 : Keeps W w4 := k3.trans b4
  go_wp2
  go_ret
  exact ⟨rfl, kW.trans k4⟩
end Go.Proofs.YtpikopdfkhagmaaDoor
