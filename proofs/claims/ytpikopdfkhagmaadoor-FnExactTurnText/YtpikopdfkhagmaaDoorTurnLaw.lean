/-
  Texts as lists of bytes: a byte, a piece, whether two are alike.
  A row of turns of one's own.
  The walk of FnExactTurnText.
-/
import Derived.Test.YtpikopdfkhagmaaDoorDeskNum
import Derived.WalkSpells
import Derived.Test.YtpikopdfkhagmaaDoorSysBase
import Derived.Test.YtpikopdfkhagmaaDoorImplTurn
import Derived.Test.YtpikopdfkhagmaaDoorSysTo2
import Derived.Test.YtpikopdfkhagmaaDoorSysNewS
namespace Go.Proofs.YtpikopdfkhagmaaDoor
open Go.RowKit

set_option maxRecDepth 100000 in
theorem run_strNe (a b : List UInt8) (w : World) : (Op.stringOp .neq ⟨a.toArray⟩ ⟨b.toArray⟩).run Tryd.prog w = .ok (.bool (!(a == b))) w := by
  simp [Op.stringOp, ByteArray.toList_eq]
end Go.Proofs.YtpikopdfkhagmaaDoor
namespace Go.Proofs.YtpikopdfkhagmaaDoor
open Go.RowKit

theorem rowLies {w : World} {base : Nat} {a : Option Addr} {n cap : Nat} {xs : List Tn} (h : Own 57 3 tnc w base (.slice a n cap) xs) : Rs w a xs := (Own.row (x := ⟨a, n, cap⟩) h tnc_size).2.1
end Go.Proofs.YtpikopdfkhagmaaDoor
namespace Go.Proofs.YtpikopdfkhagmaaDoor
open Go.RowKit
attribute [local go_sem] Keeps.refl Keeps.alloc Keeps.drew Keeps.drewN

set_option maxRecDepth 100000 in
set_option maxHeartbeats 2000000 in
theorem exactTurnText_walk (a : Option Addr) (cap : Nat) (xs : List Tn) (w : World) (hl : xs.length ≤ maxLen) (hs : Rs w a xs) (hg : GlobT w) :
    Calls Tryd.prog 5 #[.slice a xs.length cap] w fun e w' => e = .returned (.bool true) ∧ Keeps w w' := by
  generalize hn : xs.length = n at hl
  have Hn : Hid (xs.length = n) := hn
  clear hn
  have Hl : Hid (n ≤ maxLen) := hl
  have c0 := szTurnS_any a cap n 1048576 w hl (by omega) (by omega)
  by_cases hz : n ≤ 1048576
  rotate_left
  · have Hz : Hid (szOf n 1048576 = -1) := if_neg (by omega)
    rw [Hz.out] at c0
    go_enter Tryd.func5, Tryd.ntmps5
    go_wp2_with (go_at_call 12; refine c0.mono ?_; rintro e w1 ⟨rfl, rfl⟩)
    go_ret
    exact ⟨rfl, Keeps.refl _⟩
  obtain ⟨q, Hq, hq0⟩ : ∃ q : Int, Hid (szOf n 1048576 = q) ∧ 0 ≤ q := ⟨_, rfl, by unfold szOf; rw [if_pos (by omega)]; omega⟩
  rw [Hq.out] at c0
  have hq : decide (q < 0) = false := by simp; omega
  have c1 := fun w' (k : Keeps w w') => toTurnS_n a n cap xs w' Hn.out (by rw [Hn.out]; exact hz) (hs.keeps k)
  obtain ⟨l, Hm⟩ : ∃ l, Hid (turnsL xs = l) := ⟨_, rfl⟩
  have hll := run_strNe l l
  rw [show (l == l) = true from by simp] at hll
  have HG : Hid (GlobT w) := hg
  clear hs hl hg
  go_enter Tryd.func5, Tryd.ntmps5
  go_upto_region 5 with (go_at_call 12; refine c0.mono ?_; rintro e w1 ⟨rfl, hw1⟩; have hw2 := hw1.symm; subst hw2)
  go_upto_region 6 with first
    | (go_at_call 14; refine (c1 _ (Keeps.refl _)).mono ?_; rintro e w2 ⟨b2, rfl, o2, k2⟩)
    | (go_at_call 13; refine (specTurnText_any _ n _ xs _ Hn.out hz (rowLies o2)).mono ?_; rintro e w3 ⟨rfl, k3⟩; rw [Hm.out])
  have K3 : Keeps w w3 := k2.trans k3
  clear k2 k3 o2
  go_upto_region 7 with (go_at_call 14; refine (c1 _ K3).mono ?_; rintro e w4 ⟨b4, rfl, o4, k4⟩)
  have R4 : Hid (Rs w4 (some ⟨b4, 0, none⟩) xs) := rowLies o4
  have K4 : Keeps w w4 := K3.trans k4
  clear k4 o4 K3
  go_upto_region 10 with (go_at_call 15; refine (implTurnText_any _ n _ xs _ (HG.out.keeps K4) Hn.out hz R4.out).mono ?_; rintro e w5 ⟨rfl, k5⟩; rw [Hm.out])
  have K5 : Keeps w w5 := K4.trans k5
  have R5 : Hid (Rs w5 (some ⟨b4, 0, none⟩) xs) := R4.out.keeps k5
  clear K4 R4 k5
  go_wp2_with (first
    | (go_at_call 14; refine (c1 _ K5).mono ?_; rintro e w6 ⟨b6, rfl, o6, k6⟩)
    | (go_at_call 16; refine (eqTurnS_n _ _ _ _ n xs _ Hl.out Hn (R5.out.keeps k6) (rowLies o6)).mono ?_; rintro e w7 ⟨rfl, k7⟩))
  go_ret
  exact ⟨rfl, (K5.trans k6).trans k7⟩
end Go.Proofs.YtpikopdfkhagmaaDoor
