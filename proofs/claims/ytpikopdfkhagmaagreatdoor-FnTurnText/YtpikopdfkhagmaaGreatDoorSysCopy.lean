/-
  The system: a copy of it.
-/
import Derived.Test.YtpikopdfkhagmaaGreatDoorSysBase
import Derived.Test.YtpikopdfkhagmaaGreatDoorLockAsk
namespace Go.Proofs.YtpikopdfkhagmaaGreatDoor
open Go.RowKit
attribute [local go_sem] Keeps.refl Keeps.alloc Keeps.drew Keeps.drewN

/-- The rows of a system of which nothing is there. -/
abbrev Sv.zero : Sv := ⟨⟨none, 0, 0⟩, ⟨none, 0, 0⟩, ⟨none, 0, 0⟩, ⟨none, 0, 0⟩, ⟨none, 0, 0⟩⟩
theorem Own.fresh {α : Type} (e : TypeId) (sz : Nat) (c : α → Array Value) {w W : World} {n : Nat} (h : W.heap.size = n) (hw : w = W.alloc (.cells #[] e)) : Own e sz c w n (.slice (Option.some ⟨n, 0, none⟩) 0 0) [] := by
  subst hw h
  exact Own.new e sz c W (Nat.le_refl _)
/-- A row of one's own as a slice. -/
theorem Own.form {α : Type} {e : TypeId} {sz : Nat} {c : α → Array Value} {w : World} {base : Nat} {v : Value} {xs : List α} (h : Own e sz c w base v xs) (hc : ∀ x, (c x).size = sz) : ∃ a cap, v = .slice a xs.length cap := by
  obtain ⟨a, cap, e, -, -, -⟩ := h.slice hc
  exact ⟨a, cap, e⟩
theorem Blk.aside {g : Nat} {w w' : World} {b : Nat} {C : Array Value} (h : Blk w b C) (k : KeepsBut g w w') (hg : b ≠ g) : Blk w' b C :=
  ⟨Nat.lt_of_lt_of_le h.lt k.size, fun i => (k.cells b i h.lt hg).trans (h.cells i), fun i => (World.frozen?_of_block (w := w) (k.block b h.lt hg)).trans (h.frozens i)⟩
theorem KeepsBut.putOwn {g : Nat} {a : World} : ∀ (L : List Value) (w : World) (k : Nat), KeepsBut g a w → KeepsBut g a (Go.Proofs.YtpikopdfkhagmaaGreatDoor.putC w g k L)
  | [], _, _, h => h
  | v :: r, _, k, h => KeepsBut.putOwn r _ (k + 1) (h.setCell k v)
/-- A row has been copied, and its slice is stored over the cell k of the block b. -/
theorem copied {X w' : World} {e : TypeId} {b k n : Nat} {C : Array Value} (hn : X.heap.size = n) (B : Blk X b C) (hk : k < C.size) (g : (X.alloc (.cells #[] e)).grownBy w' (some n)) (u : Value) :
    Blk w' b C ∧ KeepsBut b X (w'.setCell ⟨b, k, none⟩ u) ∧ Blk (w'.setCell ⟨b, k, none⟩ u) b (C.setIfInBounds k u) := by
  have hl := B.lt
  have B1 : Blk w' b C := (B.alloc _).grown g (by intro q hq; cases hq; omega)
  exact ⟨B1, ((KeepsBut.of ((Keeps.refl X).alloc _)).grown g (by intro q hq; cases hq; omega)).setCell k u, B1.set k hk u⟩
set_option maxRecDepth 100000 in
set_option maxHeartbeats 8000000 in
theorem l9Copy_any {w : World} {v : Sv} {s : Sy} (h : SysOn w v s) :
    Calls Tryz.prog 63 #[.agg (syc s v)] w fun e w' => ∃ v' vs, e = .returned (.agg (syc s v')) ∧ OwnS w' w.heap.size v' vs s ∧ Keeps w w' := by
  have hz := h.size
  have q1 : Hid (s.tasks.length ≤ 2097152) := by show _ ≤ _; unfold sizeS at hz; omega
  have q2 : Hid (s.ghosts.length ≤ 2097152) := by show _ ≤ _; unfold sizeS at hz; omega
  have q3 : Hid (s.floors.length ≤ 2097152) := by show _ ≤ _; unfold sizeS at hz; omega
  have q4 : Hid (s.trace.length ≤ 2097152) := by show _ ≤ _; unfold sizeS at hz; omega
  clear hz
  obtain ⟨W, HW⟩ : ∃ W, W = (w.alloc (.cells (syc s v) 43)).alloc (.cells (syc Sy.zero Sv.zero) 43) := ⟨_, rfl⟩
  have kW : Keeps w W := by rw [HW]; exact ((Keeps.refl w).alloc _).alloc _
  have hsz : W.heap.size = w.heap.size + 2 := by rw [HW]; simp
  have B0 : Hid (Blk W w.heap.size (syc s v)) := by show Blk _ _ _; rw [HW]; exact (Blk.new _ _ _).alloc _
  have R0 : Hid (Blk W (w.heap.size + 1) (syc Sy.zero Sv.zero)) := by
    show Blk _ _ _
    rw [HW]
    have := Blk.new (w.alloc (.cells (syc s v) 43)) (syc Sy.zero Sv.zero) 43
    simpa using this
  have hS : Hid (SysOn W v s) := h.keeps kW
  go_enter Tryz.func63, Tryz.ntmps63
  go_wp2_with (at_builtin; (refine wpList_copy rfl _ _ 38 rfl (w.heap.size + 2) 90 (tk Tsk.zero) 14 112 tc Tryz.underlying38 (by kernel_rfl) rfl (by decide) tc_size tc_one (.slice (some ⟨w.heap.size + 2, 0, none⟩) 0 0) rfl (Own.fresh (W := W) 90 14 tc hsz (by rw [HW]; rfl)) (by simp) s.tasks v.t (by rw [HW] at hS; exact (hS.out.tc.keeps ((Keeps.refl _).alloc _))) (by rw [HW] at hS; exact (hS.out.lay.t.keeps ((Keeps.refl _).alloc _))) h.lay.tl rfl q1.out (by decide) ?_))
  intro v1 w1 O1 g1 f1
  obtain ⟨a1, c1, rfl⟩ := O1.form tc_size
  have g1' : (W.alloc (.cells #[] 90)).grownBy w1 (some (w.heap.size + 2)) := by rw [HW]; exact g1
  obtain ⟨X1, KB1, BY1⟩ := copied hsz B0.out (k := 2) (by simp) g1' (.slice a1 s.tasks.length c1)
  have F1 : Hid (∀ q, (Value.slice a1 s.tasks.length c1).ownBlock = some q → w.heap.size + 2 ≤ q) := fun q hq => (O1.ltb q hq).1
  have O1Y : Hid (Own 90 14 tc (w1.setCell ⟨w.heap.size, 2, none⟩ (.slice a1 s.tasks.length c1)) (w.heap.size + 2) (.slice a1 s.tasks.length c1) s.tasks) := O1.butG ((KeepsBut.refl w.heap.size w1).setCell 2 _) (by omega)
  have RY1 : Hid (Blk (w1.setCell ⟨w.heap.size, 2, none⟩ (.slice a1 s.tasks.length c1)) (w.heap.size + 1) (syc Sy.zero Sv.zero)) := R0.out.aside KB1 (by omega)
  have KY1 : Keeps w (w1.setCell ⟨w.heap.size, 2, none⟩ (.slice a1 s.tasks.length c1)) := KB1.keeps kW (Nat.le_refl _)
  have BH1 : Hid (Blk (w1.setCell ⟨w.heap.size, 2, none⟩ (.slice a1 s.tasks.length c1)) w.heap.size (syc s { v with t := ⟨a1, s.tasks.length, c1⟩ })) := BY1
  have hz1 : Hid (w.heap.size + 2 ≤ (w1.setCell ⟨w.heap.size, 2, none⟩ (.slice a1 s.tasks.length c1)).heap.size) := by show _ ≤ _; have := KB1.size; omega
  obtain ⟨_, x1, x2⟩ := X1
  clear g1 g1' f1 O1 KB1 BY1 B0 R0 kW hS HW hsz
  go_wp2_with fail
  generalize w1.setCell ⟨w.heap.size, 2, none⟩ (.slice a1 s.tasks.length c1) = Y1 at *
  have CP := specCopy_any v.l.a v.l.cap s.locks Y1 (by have := h.size; unfold sizeS at this; omega) (h.keeps KY1).lay.l
  rw [h.lay.ll] at CP
  refine CP.mono ?_
  rintro e w2 ⟨lv, vs, rfl, ML, k2⟩
  obtain ⟨a2, c2, rfl, -, -⟩ := ML.lks
  clear CP x1 x2
  obtain ⟨Y2, HY2⟩ : ∃ Y2, Y2 = w2.setCell ⟨w.heap.size, 3, none⟩ (.slice a2 s.locks.length c2) := ⟨_, rfl⟩
  have X2 := BH1.out.keeps k2
  have KB2 : KeepsBut w.heap.size Y1 Y2 := by rw [HY2]; exact (KeepsBut.of k2).setCell 3 _
  have BH2 : Hid (Blk Y2 w.heap.size (syc s { v with t := ⟨a1, s.tasks.length, c1⟩, l := ⟨a2, s.locks.length, c2⟩ })) := by show Blk _ _ _; rw [HY2]; exact X2.set 3 (by simp) _
  have RY2 : Hid (Blk Y2 (w.heap.size + 1) (syc Sy.zero Sv.zero)) := RY1.out.aside KB2 (by omega)
  have KY2 : Keeps w Y2 := KB2.keeps KY1 (Nat.le_refl _)
  have O12 : Hid (Own 90 14 tc Y2 (w.heap.size + 2) (.slice a1 s.tasks.length c1) s.tasks) := O1Y.out.butG KB2 (by omega)
  have B1 : Hid (∀ q, (Value.slice a1 s.tasks.length c1).ownBlock = some q → q < Y1.heap.size) := fun q hq => (O1Y.out.ltb q hq).2
  have hz2 : Y2.heap.size = w2.heap.size := by rw [HY2]; simp
  have hz12 : Hid (Y1.heap.size ≤ w2.heap.size) := k2.size
  have M2 : Hid (Mine Y2 Y1.heap.size w2.heap.size (.slice a2 s.locks.length c2) vs s.locks) := by
    show Mine _ _ _ _ _ _
    refine ML.same fun q hq _ hq2 => ?_
    rw [HY2]
    exact heap_setCell (by have := hz1.out; omega)
  obtain ⟨_, x1, x2⟩ := X2
  clear O1Y RY1 BH1 ML KB2 k2 KY1
  have hS0 := h.keeps KY2
  have pl0 := hS0.gc.keeps ((Keeps.refl Y2).alloc (.cells #[] 129))
  have li0 : Lies 4 ghc (Y2.alloc (.cells #[] 129)) v.g.a s.ghosts := ((h.keeps KY2).lay.g).keeps ((Keeps.refl _).alloc _)
  rw [HY2] at pl0 li0
  go_wp2_with (at_builtin; (refine wpList_copy rfl _ _ 40 rfl w2.heap.size 129 (.agg (ghc Gh.zero)) 4 32 ghc Tryz.underlying40 (by kernel_rfl) rfl (by decide) ghc_size ghc_one (.slice (some ⟨w2.heap.size, 0, none⟩) 0 0) rfl (Own.fresh (W := Y2) 129 4 ghc hz2 (by rw [HY2])) (by simp) s.ghosts v.g pl0 li0 h.lay.gl rfl q2.out (by decide) ?_))
  intro v3 w3 O3 g3 f3
  obtain ⟨a3, c3, rfl⟩ := O3.form ghc_size
  have g3' : (Y2.alloc (.cells #[] 129)).grownBy w3 (some w2.heap.size) := by rw [HY2]; exact g3
  obtain ⟨X3, KB3, BY3⟩ := copied hz2 BH2.out (k := 4) (by simp) g3' (.slice a3 s.ghosts.length c3)
  obtain ⟨Y3, HY3⟩ : ∃ Y, Y = w3.setCell ⟨w.heap.size, 4, none⟩ (.slice a3 s.ghosts.length c3) := ⟨_, rfl⟩
  rw [← HY3] at KB3 BY3
  have BH3 : Hid (Blk Y3 w.heap.size (syc s { v with t := ⟨a1, s.tasks.length, c1⟩, l := ⟨a2, s.locks.length, c2⟩, g := ⟨a3, s.ghosts.length, c3⟩ })) := BY3
  have RY3 : Hid (Blk Y3 (w.heap.size + 1) (syc Sy.zero Sv.zero)) := RY2.out.aside KB3 (by omega)
  have KY3 : Keeps w Y3 := KB3.keeps KY2 (Nat.le_refl _)
  have hz3 : Y3.heap.size = w3.heap.size := by rw [HY3]; simp
  have hz23 : Hid (w2.heap.size ≤ w3.heap.size) := by show _ ≤ _; have e1 := g3'.size; have e2 := hz2; simp at e1; omega
  have O123 : Hid (Own 90 14 tc Y3 (w.heap.size + 2) (.slice a1 s.tasks.length c1) s.tasks) := O12.out.butG KB3 (by have := hz1.out; have := hz12.out; have := hz23.out; omega)
  have M3 : Hid (Mine Y3 Y1.heap.size w2.heap.size (.slice a2 s.locks.length c2) vs s.locks) := by
    show Mine _ _ _ _ _ _
    refine M2.out.same fun q hq hq1 hq2 => KB3.block q hq2 (by have := hz1.out; omega)
  have N3 : Hid (Own 129 4 ghc Y3 w2.heap.size (.slice a3 s.ghosts.length c3) s.ghosts) := by
    show Own _ _ _ _ _ _ _
    rw [HY3]
    exact O3.butG ((KeepsBut.refl w.heap.size w3).setCell 4 _) (by have := hz1.out; have := hz12.out; omega)
  obtain ⟨_, x1, x2⟩ := X3
  clear g3 g3' f3 O3 BY3 BH2 RY2 pl0 li0 hS0
  have hS1 := h.keeps KY3
  have pl1 := hS1.fc.keeps ((Keeps.refl Y3).alloc (.cells #[] 3))
  have li1 : Lies 1 ic (Y3.alloc (.cells #[] 3)) v.f.a s.floors := ((h.keeps KY3).lay.f.lies).keeps ((Keeps.refl _).alloc _)
  rw [HY3] at pl1 li1
  go_wp2_with (at_builtin; (refine wpList_copy rfl _ _ 41 rfl w3.heap.size 3 (.int .i64 0) 1 8 ic Tryz.underlying41 (by kernel_rfl) rfl (by decide) ic_size ic_one (.slice (some ⟨w3.heap.size, 0, none⟩) 0 0) rfl (Own.fresh (W := Y3) 3 1 ic hz3 (by rw [HY3])) (by simp) s.floors v.f pl1 li1 h.lay.fl rfl q3.out (by decide) ?_))
  intro v4 w4 O4 g4 f4
  obtain ⟨a4, c4, rfl⟩ := O4.form ic_size
  have g4' : (Y3.alloc (.cells #[] 3)).grownBy w4 (some w3.heap.size) := by rw [HY3]; exact g4
  obtain ⟨X4, KB4, BY4⟩ := copied hz3 BH3.out (k := 5) (by simp) g4' (.slice a4 s.floors.length c4)
  obtain ⟨Y4, HY4⟩ : ∃ Y, Y = w4.setCell ⟨w.heap.size, 5, none⟩ (.slice a4 s.floors.length c4) := ⟨_, rfl⟩
  rw [← HY4] at KB4 BY4
  have BH4 : Hid (Blk Y4 w.heap.size (syc s { v with t := ⟨a1, s.tasks.length, c1⟩, l := ⟨a2, s.locks.length, c2⟩, g := ⟨a3, s.ghosts.length, c3⟩, f := ⟨a4, s.floors.length, c4⟩ })) := BY4
  have RY4 : Hid (Blk Y4 (w.heap.size + 1) (syc Sy.zero Sv.zero)) := RY3.out.aside KB4 (by omega)
  have KY4 : Keeps w Y4 := KB4.keeps KY3 (Nat.le_refl _)
  have hz4 : Y4.heap.size = w4.heap.size := by rw [HY4]; simp
  have hz34 : Hid (w3.heap.size ≤ w4.heap.size) := by show _ ≤ _; have e1 := g4'.size; have e2 := hz3; simp at e1; omega
  have O124 : Hid (Own 90 14 tc Y4 (w.heap.size + 2) (.slice a1 s.tasks.length c1) s.tasks) := O123.out.butG KB4 (by have := hz1.out; have := hz12.out; have := hz23.out; have := hz34.out; omega)
  have N34 : Hid (Own 129 4 ghc Y4 w2.heap.size (.slice a3 s.ghosts.length c3) s.ghosts) := N3.out.butG KB4 (by have := hz1.out; have := hz12.out; have := hz23.out; have := hz34.out; omega)
  have M4 : Hid (Mine Y4 Y1.heap.size w2.heap.size (.slice a2 s.locks.length c2) vs s.locks) := by
    show Mine _ _ _ _ _ _
    refine M3.out.same fun q hq hq1 hq2 => KB4.block q hq2 (by have := hz1.out; omega)
  have N4 : Hid (Own 3 1 ic Y4 w3.heap.size (.slice a4 s.floors.length c4) s.floors) := by
    show Own _ _ _ _ _ _ _
    rw [HY4]
    exact O4.butG ((KeepsBut.refl w.heap.size w4).setCell 5 _) (by have := hz1.out; have := hz12.out; have := hz23.out; omega)
  obtain ⟨_, x1, x2⟩ := X4
  clear g4 g4' f4 O4 BY4 BH3 RY3 pl1 li1 hS1
  have hS2 := h.keeps KY4
  have pl2 := hS2.rc.keeps ((Keeps.refl Y4).alloc (.cells #[] 71))
  have li2 : Lies 3 tnc (Y4.alloc (.cells #[] 71)) v.r.a s.trace := ((h.keeps KY4).lay.r).keeps ((Keeps.refl _).alloc _)
  rw [HY4] at pl2 li2
  go_wp2_with (at_builtin; (refine wpList_copy rfl _ _ 33 rfl w4.heap.size 71 (.agg (tnc Tn.zero)) 3 24 tnc Tryz.underlying33 (by kernel_rfl) rfl (by decide) tnc_size tnc_one (.slice (some ⟨w4.heap.size, 0, none⟩) 0 0) rfl (Own.fresh (W := Y4) 71 3 tnc hz4 (by rw [HY4])) (by simp) s.trace v.r pl2 li2 h.lay.rl rfl q4.out (by decide) ?_))
  intro v5 w5 O5 g5 f5
  obtain ⟨a5, c5, rfl⟩ := O5.form tnc_size
  have g5' : (Y4.alloc (.cells #[] 71)).grownBy w5 (some w4.heap.size) := by rw [HY4]; exact g5
  obtain ⟨X5, KB5, BY5⟩ := copied hz4 BH4.out (k := 8) (by simp) g5' (.slice a5 s.trace.length c5)
  obtain ⟨Y5, HY5⟩ : ∃ Y, Y = w5.setCell ⟨w.heap.size, 8, none⟩ (.slice a5 s.trace.length c5) := ⟨_, rfl⟩
  rw [← HY5] at KB5 BY5
  have BH5 : Hid (Blk Y5 w.heap.size (syc s { v with t := ⟨a1, s.tasks.length, c1⟩, l := ⟨a2, s.locks.length, c2⟩, g := ⟨a3, s.ghosts.length, c3⟩, f := ⟨a4, s.floors.length, c4⟩, r := ⟨a5, s.trace.length, c5⟩ })) := BY5
  have RY5 : Hid (Blk Y5 (w.heap.size + 1) (syc Sy.zero Sv.zero)) := RY4.out.aside KB5 (by omega)
  have KY5 : Keeps w Y5 := KB5.keeps KY4 (Nat.le_refl _)
  have hz5 : Y5.heap.size = w5.heap.size := by rw [HY5]; simp
  have hz45 : Hid (w4.heap.size ≤ w5.heap.size) := by show _ ≤ _; have e1 := g5'.size; have e2 := hz4; simp at e1; omega
  have O125 : Hid (Own 90 14 tc Y5 (w.heap.size + 2) (.slice a1 s.tasks.length c1) s.tasks) := O124.out.butG KB5 (by have := hz1.out; have := hz12.out; have := hz23.out; have := hz34.out; have := hz45.out; omega)
  have N35 : Hid (Own 129 4 ghc Y5 w2.heap.size (.slice a3 s.ghosts.length c3) s.ghosts) := N34.out.butG KB5 (by have := hz1.out; have := hz12.out; have := hz23.out; have := hz34.out; have := hz45.out; omega)
  have N45 : Hid (Own 3 1 ic Y5 w3.heap.size (.slice a4 s.floors.length c4) s.floors) := N4.out.butG KB5 (by have := hz1.out; have := hz12.out; have := hz23.out; have := hz34.out; have := hz45.out; omega)
  have M5 : Hid (Mine Y5 Y1.heap.size w2.heap.size (.slice a2 s.locks.length c2) vs s.locks) := by
    show Mine _ _ _ _ _ _
    refine M4.out.same fun q hq hq1 hq2 => KB5.block q hq2 (by have := hz1.out; omega)
  have N5 : Hid (Own 71 3 tnc Y5 w4.heap.size (.slice a5 s.trace.length c5) s.trace) := by
    show Own _ _ _ _ _ _ _
    rw [HY5]
    exact O5.butG ((KeepsBut.refl w.heap.size w5).setCell 8 _) (by have := hz1.out; have := hz12.out; have := hz23.out; have := hz34.out; omega)
  obtain ⟨_, x1, x2⟩ := X5
  clear g5 g5' f5 O5 BY5 BH4 RY4 pl2 li2 hS2
  have RZ := RY5.out
  rw [HY5] at RZ
  obtain ⟨_, y1, y2⟩ := RZ
  go_wp2
  have D := RY5.out.putC (syc s ⟨⟨a1, s.tasks.length, c1⟩, ⟨a2, s.locks.length, c2⟩, ⟨a3, s.ghosts.length, c3⟩, ⟨a4, s.floors.length, c4⟩, ⟨a5, s.trace.length, c5⟩⟩).toList rfl
  have KZ := Keeps.putC (b := w.heap.size + 1) (by omega) (syc s ⟨⟨a1, s.tasks.length, c1⟩, ⟨a2, s.locks.length, c2⟩, ⟨a3, s.ghosts.length, c3⟩, ⟨a4, s.floors.length, c4⟩, ⟨a5, s.trace.length, c5⟩⟩).toList 0 KY5
  have KBZ : KeepsBut (w.heap.size + 1) Y5 (putC Y5 (w.heap.size + 1) 0 (syc s ⟨⟨a1, s.tasks.length, c1⟩, ⟨a2, s.locks.length, c2⟩, ⟨a3, s.ghosts.length, c3⟩, ⟨a4, s.floors.length, c4⟩, ⟨a5, s.trace.length, c5⟩⟩).toList) := KeepsBut.putOwn _ _ _ (KeepsBut.refl _ _)
  change bodyPost _ _ _ _ _ (putC (w5.setCell ⟨w.heap.size, 8, none⟩ (.slice a5 s.trace.length c5)) (w.heap.size + 1) 0 (syc s ⟨⟨a1, s.tasks.length, c1⟩, ⟨a2, s.locks.length, c2⟩, ⟨a3, s.ghosts.length, c3⟩, ⟨a4, s.floors.length, c4⟩, ⟨a5, s.trace.length, c5⟩⟩).toList)
  rw [← HY5]
  have e1 := hz1.out
  have e2 := hz12.out
  have e3 := hz23.out
  have e4 := hz34.out
  have e5 := hz45.out
  have e6 := KBZ.size
  have S0 : OwnS (putC Y5 (w.heap.size + 1) 0 (syc s ⟨⟨a1, s.tasks.length, c1⟩, ⟨a2, s.locks.length, c2⟩, ⟨a3, s.ghosts.length, c3⟩, ⟨a4, s.floors.length, c4⟩, ⟨a5, s.trace.length, c5⟩⟩).toList) w.heap.size ⟨⟨a1, s.tasks.length, c1⟩, ⟨a2, s.locks.length, c2⟩, ⟨a3, s.ghosts.length, c3⟩, ⟨a4, s.floors.length, c4⟩, ⟨a5, s.trace.length, c5⟩⟩ vs s := by
    refine ⟨(O125.out.butG KBZ (by omega)).base (by omega), (M5.out.same fun q hq _ hq2 => KBZ.block q hq2 (by omega)).widen (by omega) (by omega), (N35.out.butG KBZ (by omega)).base (by omega), (N45.out.butG KBZ (by omega)).base (by omega), (N5.out.butG KBZ (by omega)).base (by omega), ?_⟩
    refine apart_of (w.heap.size + 2) Y1.heap.size w2.heap.size w3.heap.size w4.heap.size w5.heap.size (fun q hq => ⟨F1.out q hq, B1.out q hq⟩) ?_ (fun q hq => ?_) (fun q hq => ?_) (fun q hq => ?_) (by omega) (by omega) (by omega)
    · rintro q (hq | ⟨x, hx, hq⟩)
      · exact ⟨(M5.out.own.ltb q hq).1, M5.out.out q hq⟩
      · obtain ⟨j, hj⟩ := List.mem_iff_getElem?.1 hx
        exact ⟨(M5.out.blkLt (.inr ⟨x, hx, hq⟩)).1, (M5.out.inn j x q hj hq).1⟩
    · have := N3.out.ltb q hq
      exact ⟨this.1, by omega⟩
    · have := N4.out.ltb q hq
      exact ⟨this.1, by omega⟩
    · have := N5.out.ltb q hq
      exact ⟨this.1, by omega⟩
  generalize putC Y5 (w.heap.size + 1) 0 (syc s ⟨⟨a1, s.tasks.length, c1⟩, ⟨a2, s.locks.length, c2⟩, ⟨a3, s.ghosts.length, c3⟩, ⟨a4, s.floors.length, c4⟩, ⟨a5, s.trace.length, c5⟩⟩).toList = Z at D KZ S0 ⊢
  exact bodyPost_ret (v := .agg (syc s ⟨⟨a1, s.tasks.length, c1⟩, ⟨a2, s.locks.length, c2⟩, ⟨a3, s.ghosts.length, c3⟩, ⟨a4, s.floors.length, c4⟩, ⟨a5, s.trace.length, c5⟩⟩)) (by simp [results, Tryz.results63, go_sem, D.cells]) rfl ⟨⟨⟨a1, s.tasks.length, c1⟩, ⟨a2, s.locks.length, c2⟩, ⟨a3, s.ghosts.length, c3⟩, ⟨a4, s.floors.length, c4⟩, ⟨a5, s.trace.length, c5⟩⟩, vs, rfl, S0, KZ⟩
end Go.Proofs.YtpikopdfkhagmaaGreatDoor
