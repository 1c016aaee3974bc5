/-
  The walks of FnExactShortOf and FnExactSpreadOn, over contracts of the program's functions.
-/
import Derived.Test.YthpdlbcdbncnhaaGreatDoorImplShort
import Derived.Test.YthpdlbcdbncnhaaGreatDoorGSys3
import Derived.Deep.RegionHeld3
namespace Go.Proofs.YthpdlbcdbncnhaaGreatDoor
open Go.RowKit
attribute [local go_sem] Keeps.refl Keeps.alloc Keeps.drew Keeps.drewN

set_option maxRecDepth 100000 in
set_option maxHeartbeats 8000000 in
theorem exactShortOf_walk (H : SaysShortOf) {p : Bool} {w : World} (hg : GlobE w) {v : Sv} {s : Sy} (x : Int) (h : SysLay p w v s) :
    Calls Tryz.prog 3 #[.agg (syc s v), .int .i64 x] w fun e w' => e = .returned (.bool true) ∧ Keeps w w' := by
  have HH : Hid SaysShortOf := H
  clear H
  have kW : Keeps w (w.alloc (.cells (syc s v) 28)) := (Keeps.refl w).alloc _
  have r0 : ∀ w', Keeps (w.alloc (.cells (syc s v) 28)) w' → ∀ j, w'.cell? ⟨w.heap.size, j, none⟩ = (syc s v)[j]? := fun w' k => ((Blk.new w (syc s v) 28).keeps k).cells
  have HS : Hid (SysLay p (w.alloc (.cells (syc s v) 28)) v s) := h.keeps kW
  have HG : Hid (GlobE (w.alloc (.cells (syc s v) 28))) := hg.keeps kW
  clear h hg
  obtain ⟨g, Hg⟩ : ∃ g, Hid (shortI s x = g) := ⟨_, rfl⟩
  obtain ⟨b, Hh⟩ : ∃ b, Hid (shortOk s x = b) := ⟨_, rfl⟩
  have n0 : (g != g) = false := by simp
  have n1 : (b != b) = false := by simp
  go_enter Tryz.func3, Tryz.ntmps3
  go_wp2_with fail
  generalize w.alloc (.cells (syc s v) 28) = W at *
  refine (szSys_any HS.out).mono ?_
  rintro e w1 ⟨rfl, k1⟩
  by_cases hz : sizeS s ≤ 1048576
  rotate_left
  · have Hz : Hid (szSysL s 1048576 = -1) := if_neg (by omega)
    rw [Hz.out]
    go_wp2
    go_ret
    exact ⟨rfl, kW.trans k1⟩
  have Hz : Hid (sizeS s ≤ 1048576) := hz
  obtain ⟨q, Hq, hq0⟩ : ∃ q : Int, Hid (szSysL s 1048576 = q) ∧ 0 ≤ q := ⟨_, rfl, by unfold szSysL; rw [if_pos (by omega)]; omega⟩
  rw [Hq.out]
  have hq : decide (q < 0) = false := by simp; omega
  clear hz Hq
  go_wp2_with fail
  refine (toSys_any (HS.out.keeps k1) Hz.out).mono ?_
  rintro e w2 ⟨v2, vs2, rfl, O2, k2⟩
  have S2 : Hid (SysOn w2 v2 s) := O2.on (by have := Hz.out; omega)
  have K2 : Keeps W w2 := k1.trans k2
  clear O2 k1 k2
  go_wp2_with fail
  refine (specShortOf_any S2.out x).mono ?_
  rintro e w3 ⟨rfl, k3⟩
  rw [Hg.out, Hh.out]
  have K3 : Keeps W w3 := K2.trans k3
  clear S2 K2 k3
  go_wp2_with fail
  refine (toSys_any (HS.out.keeps K3) Hz.out).mono ?_
  rintro e w4 ⟨v4, vs4, rfl, O4, k4⟩
  have S4 : Hid (SysOn (w4.alloc (.cells (syc s v4) 37)) v4 s) := (O4.on (by have := Hz.out; omega)).keeps ((Keeps.refl _).alloc _)
  have K4 : Keeps W (w4.alloc (.cells (syc s v4) 37)) := (K3.trans k4).alloc _
  have rx : ∀ w', Keeps (w4.alloc (.cells (syc s v4) 37)) w' → ∀ j, w'.cell? ⟨w4.heap.size, j, none⟩ = (syc s v4)[j]? := fun w' k => ((Blk.new w4 (syc s v4) 37).keeps k).cells
  have r1 : ∀ w', Keeps (w4.alloc (.cells (syc s v4) 37)) w' → ∀ j, w'.cell? ⟨w.heap.size, j, none⟩ = (syc s v)[j]? := fun w' k => r0 w' (K4.trans k)
  clear O4 k4 K3
  go_wp2_with fail
  change Calls _ _ _ (w4.alloc (.cells (syc s v4) 37)) _
  generalize w4.alloc (.cells (syc s v4) 37) = X at *
  refine (HH.out X v4 s x (HG.out.keeps K4) S4.out).mono ?_
  rintro e w5 ⟨rfl, k5⟩
  rw [Hg.out, Hh.out]
  clear r0
  go_wp2_with fail
  refine wp_region_held_drew (S := (fun w' => Keeps X w')) (by kernel_rfl) ?_ (fun hHeld => ?_)
  · exact k5.drew
  refine Plan.go [0, 1] ?_
  iterate 2 (refine takeL (by simp only [opsAt]; rfl) (by kernel_rfl) (by exact fun _ _ _ h => h) (by rfl) (by assumption) (fun w _ => by go_simp; try (with_reducible rfl)) ?_; try simp only [putAtH])
  refine Plan.nil ?_
  refine callH 2 (by kernel_rfl) (by simp only [opsAt]; rfl) (fun K hK => ?_)
  go_simp
  first
    | (go_at_call 9; refine (toSys_any (HS.out.keeps (K4.trans k5.drew)) Hz.out).mono ?_; rintro e w6 ⟨v6, vs6, rfl, O6, k6⟩; have S6 : Hid (SysOn w6 v6 s) := O6.on (by have := Hz.out; omega); clear O6)
    | (go_at_call 11; refine (eqSys_same (S4.out.lay.keeps (k5.drew.trans k6)) S6.out.lay).mono ?_; rintro e w7 ⟨rfl, k7⟩)
  try go_wp2_with fail
  refine hK.out _ _ ?_ (fun hHeld => ?_)
  · exact Keeps.trans (by assumption) (by assumption)
  clear hK K
  try simp only [putAtH]
  refine callH 3 (by kernel_rfl) (by simp only [opsAt]; rfl) (fun K hK => ?_)
  go_simp
  first
    | (go_at_call 9; refine (toSys_any (HS.out.keeps (K4.trans k5.drew)) Hz.out).mono ?_; rintro e w6 ⟨v6, vs6, rfl, O6, k6⟩; have S6 : Hid (SysOn w6 v6 s) := O6.on (by have := Hz.out; omega); clear O6)
    | (go_at_call 11; refine (eqSys_same (S4.out.lay.keeps (k5.drew.trans k6)) S6.out.lay).mono ?_; rintro e w7 ⟨rfl, k7⟩)
  try go_wp2_with fail
  refine hK.out _ _ ?_ (fun hHeld => ?_)
  · exact Keeps.trans (by assumption) (by assumption)
  clear hK K
  try simp only [putAtH]
  refine takeH 4 (v := ?_) (by simp only [opsAt]; rfl) (by kernel_rfl) (by exact fun _ _ _ h => h) (by rfl) (by assumption) ?_ ?_
  rotate_left
  · (intro w _; go_simp; try (with_reducible rfl))
  try simp only [putAtH]
  refine wpAnyH_done (by kernel_rfl) ?_ _
  have K7 : Keeps X w7 := by assumption
  go_wp2
  go_ret
  exact ⟨rfl, kW.trans (K4.trans K7)⟩
set_option maxRecDepth 100000 in
set_option maxHeartbeats 8000000 in
theorem exactSpreadOn_walk (H : SaysSpreadOn) {p : Bool} {w : World} (hg : GlobE w) {v : Sv} {s : Sy} (x : Int) (h : SysLay p w v s) :
    Calls Tryz.prog 4 #[.agg (syc s v), .int .i64 x] w fun e w' => e = .returned (.bool true) ∧ Keeps w w' := by
  have HH : Hid SaysSpreadOn := H
  clear H
  have kW : Keeps w (w.alloc (.cells (syc s v) 28)) := (Keeps.refl w).alloc _
  have r0 : ∀ w', Keeps (w.alloc (.cells (syc s v) 28)) w' → ∀ j, w'.cell? ⟨w.heap.size, j, none⟩ = (syc s v)[j]? := fun w' k => ((Blk.new w (syc s v) 28).keeps k).cells
  have HS : Hid (SysLay p (w.alloc (.cells (syc s v) 28)) v s) := h.keeps kW
  have HG : Hid (GlobE (w.alloc (.cells (syc s v) 28))) := hg.keeps kW
  clear h hg
  obtain ⟨g, Hg⟩ : ∃ g, Hid (spreadOnI s x = g) := ⟨_, rfl⟩
  have n0 : (g != g) = false := by simp
  go_enter Tryz.func4, Tryz.ntmps4
  go_wp2_with fail
  generalize w.alloc (.cells (syc s v) 28) = W at *
  refine (szSys_any HS.out).mono ?_
  rintro e w1 ⟨rfl, k1⟩
  by_cases hz : sizeS s ≤ 1048576
  rotate_left
  · have Hz : Hid (szSysL s 1048576 = -1) := if_neg (by omega)
    rw [Hz.out]
    go_wp2
    go_ret
    exact ⟨rfl, kW.trans k1⟩
  have Hz : Hid (sizeS s ≤ 1048576) := hz
  obtain ⟨q, Hq, hq0⟩ : ∃ q : Int, Hid (szSysL s 1048576 = q) ∧ 0 ≤ q := ⟨_, rfl, by unfold szSysL; rw [if_pos (by omega)]; omega⟩
  rw [Hq.out]
  have hq : decide (q < 0) = false := by simp; omega
  clear hz Hq
  go_wp2_with fail
  refine (toSys_any (HS.out.keeps k1) Hz.out).mono ?_
  rintro e w2 ⟨v2, vs2, rfl, O2, k2⟩
  have S2 : Hid (SysOn w2 v2 s) := O2.on (by have := Hz.out; omega)
  have K2 : Keeps W w2 := k1.trans k2
  clear O2 k1 k2
  go_wp2_with fail
  refine (specSpreadOn_any S2.out x).mono ?_
  rintro e w3 ⟨rfl, k3⟩
  rw [Hg.out]
  have K3 : Keeps W w3 := K2.trans k3
  clear S2 K2 k3
  go_wp2_with fail
  refine (toSys_any (HS.out.keeps K3) Hz.out).mono ?_
  rintro e w4 ⟨v4, vs4, rfl, O4, k4⟩
  have S4 : Hid (SysOn (w4.alloc (.cells (syc s v4) 37)) v4 s) := (O4.on (by have := Hz.out; omega)).keeps ((Keeps.refl _).alloc _)
  have K4 : Keeps W (w4.alloc (.cells (syc s v4) 37)) := (K3.trans k4).alloc _
  have rx : ∀ w', Keeps (w4.alloc (.cells (syc s v4) 37)) w' → ∀ j, w'.cell? ⟨w4.heap.size, j, none⟩ = (syc s v4)[j]? := fun w' k => ((Blk.new w4 (syc s v4) 37).keeps k).cells
  have r1 : ∀ w', Keeps (w4.alloc (.cells (syc s v4) 37)) w' → ∀ j, w'.cell? ⟨w.heap.size, j, none⟩ = (syc s v)[j]? := fun w' k => r0 w' (K4.trans k)
  clear O4 k4 K3
  go_wp2_with fail
  change Calls _ _ _ (w4.alloc (.cells (syc s v4) 37)) _
  generalize w4.alloc (.cells (syc s v4) 37) = X at *
  refine (HH.out X v4 s x (HG.out.keeps K4) S4.out).mono ?_
  rintro e w5 ⟨rfl, k5⟩
  rw [Hg.out]
  clear r0
  go_wp2_with fail
  refine wp_region_held_drew (S := (fun w' => Keeps X w')) (by kernel_rfl) ?_ (fun hHeld => ?_)
  · exact k5.drew
  refine Plan.go [0, 1] ?_
  iterate 2 (refine takeL (by simp only [opsAt]; rfl) (by kernel_rfl) (by exact fun _ _ _ h => h) (by rfl) (by assumption) (fun w _ => by go_simp; try (with_reducible rfl)) ?_; try simp only [putAtH])
  refine Plan.nil ?_
  refine callH 2 (by kernel_rfl) (by simp only [opsAt]; rfl) (fun K hK => ?_)
  go_simp
  first
    | (go_at_call 9; refine (toSys_any (HS.out.keeps (K4.trans k5.drew)) Hz.out).mono ?_; rintro e w6 ⟨v6, vs6, rfl, O6, k6⟩; have S6 : Hid (SysOn w6 v6 s) := O6.on (by have := Hz.out; omega); clear O6)
    | (go_at_call 11; refine (eqSys_same (S4.out.lay.keeps (k5.drew.trans k6)) S6.out.lay).mono ?_; rintro e w7 ⟨rfl, k7⟩)
  try go_wp2_with fail
  refine hK.out _ _ ?_ (fun hHeld => ?_)
  · exact Keeps.trans (by assumption) (by assumption)
  clear hK K
  try simp only [putAtH]
  refine callH 3 (by kernel_rfl) (by simp only [opsAt]; rfl) (fun K hK => ?_)
  go_simp
  first
    | (go_at_call 9; refine (toSys_any (HS.out.keeps (K4.trans k5.drew)) Hz.out).mono ?_; rintro e w6 ⟨v6, vs6, rfl, O6, k6⟩; have S6 : Hid (SysOn w6 v6 s) := O6.on (by have := Hz.out; omega); clear O6)
    | (go_at_call 11; refine (eqSys_same (S4.out.lay.keeps (k5.drew.trans k6)) S6.out.lay).mono ?_; rintro e w7 ⟨rfl, k7⟩)
  try go_wp2_with fail
  refine hK.out _ _ ?_ (fun hHeld => ?_)
  · exact Keeps.trans (by assumption) (by assumption)
  clear hK K
  try simp only [putAtH]
  refine takeH 4 (v := ?_) (by simp only [opsAt]; rfl) (by kernel_rfl) (by exact fun _ _ _ h => h) (by rfl) (by assumption) ?_ ?_
  rotate_left
  · (intro w _; go_simp; try (with_reducible rfl))
  try simp only [putAtH]
  refine wpAnyH_done (by kernel_rfl) ?_ _
  have K7 : Keeps X w7 := by assumption
  go_wp2
  go_ret
  exact ⟨rfl, kW.trans (K4.trans K7)⟩
end Go.Proofs.YthpdlbcdbncnhaaGreatDoor
