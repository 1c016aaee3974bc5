/-
  Drawn systems with a processor, and with a task: for FnShor
-/
import Derived.Test.YthpdlbcdbncnhaaGreatDoorGCall4
import Derived.Test.YthpdlbcdbncnhaaGreatDoorGShort1
import Derived.Deep.DeepCutAuto
import Derived.Deep.Cut
namespace Go.Proofs.YthpdlbcdbncnhaaGreatDoor
open Go.RowKit
set_option maxRecDepth 100000 in
set_option linter.unusedSimpArgs false in
set_option maxHeartbeats 8000000 in
theorem qky (a : Option Addr) (n cap : Nat) (w : World) (hn : n <= 1048576) (hb : ∀ g, w.heap.size <= g -> Bytes g w a n) :
  Calls Tryz.prog 16 #[.slice a n cap] w (qfT w) := by
 go_enter Tryz.func16, Tryz.ntmps16
 go_wp2_with fail
 have kW : Keeps w (w.alloc (.cells zc 37)) := (Keeps.refl w).alloc _
 have B0 : Blk (w.alloc (.cells zc 37)) w.heap.size zc := Blk.new w zc 37
 refine (qfC a n cap _ hn (fun g hg => (hb g (by have := kW.size; omega)).but (.of kW))).mono ?_
 rintro e w1 ⟨g, rfl, hg, hc1, k1⟩
 clear hb
 have K1 : Keeps w w1 := kW.trans k1
 have B1 : Blk w1 w.heap.size zc := B0.keeps k1
 have hg1 := hc1.lt
 have hwg : w.heap.size < g := by simp at hg; omega
 clear kW k1 B0 hg
 go_upto_region 3 with (go_at_call 55; refine (qfS hc1 a n cap hn).mono ?_; rintro e w2 ⟨s, v, vs, rfl, o2, sz, hc2, k2⟩; obtain ⟨⟨ta5, tn5, tc5⟩, ⟨la5, ln5, lc5⟩, ⟨ga5, gn5, gc5⟩, ⟨fa5, fn5, fc5⟩, ⟨ra5, rn5, rc5⟩⟩ := v)
 have kA : Keeps w2 (w2.alloc (.cells (syc s ⟨⟨ta5, tn5, tc5⟩, ⟨la5, ln5, lc5⟩, ⟨ga5, gn5, gc5⟩, ⟨fa5, fn5, fc5⟩, ⟨ra5, rn5, rc5⟩⟩) 37)) := (Keeps.refl w2).alloc _
 have X0 : Hid (Blk (w2.alloc (.cells (syc s ⟨⟨ta5, tn5, tc5⟩, ⟨la5, ln5, lc5⟩, ⟨ga5, gn5, gc5⟩, ⟨fa5, fn5, fc5⟩, ⟨ra5, rn5, rc5⟩⟩) 37)) w2.heap.size (syc s ⟨⟨ta5, tn5, tc5⟩, ⟨la5, ln5, lc5⟩, ⟨ga5, gn5, gc5⟩, ⟨fa5, fn5, fc5⟩, ⟨ra5, rn5, rc5⟩⟩)) := Blk.new _ _ _
 have K2 : Keeps w (w2.alloc (.cells (syc s ⟨⟨ta5, tn5, tc5⟩, ⟨la5, ln5, lc5⟩, ⟨ga5, gn5, gc5⟩, ⟨fa5, fn5, fc5⟩, ⟨ra5, rn5, rc5⟩⟩) 37)) := (k2.keeps K1 (by omega)).alloc _
 have B2 : Hid (Blk (w2.alloc (.cells (syc s ⟨⟨ta5, tn5, tc5⟩, ⟨la5, ln5, lc5⟩, ⟨ga5, gn5, gc5⟩, ⟨fa5, fn5, fc5⟩, ⟨ra5, rn5, rc5⟩⟩) 37)) w.heap.size zc) := (B1.but k2 (by omega)).keeps kA
 have O2 : Hid (OwnS (w2.alloc (.cells (syc s ⟨⟨ta5, tn5, tc5⟩, ⟨la5, ln5, lc5⟩, ⟨ga5, gn5, gc5⟩, ⟨fa5, fn5, fc5⟩, ⟨ra5, rn5, rc5⟩⟩) 37)) w1.heap.size ⟨⟨ta5, tn5, tc5⟩, ⟨la5, ln5, lc5⟩, ⟨ga5, gn5, gc5⟩, ⟨fa5, fn5, fc5⟩, ⟨ra5, rn5, rc5⟩⟩ vs s) := o2.keeps kA
 have C2 := hc2.keeps kA
 have hs1 := K1.size
 have hxb : g < w2.heap.size /\ w.heap.size < w2.heap.size := by have := hc2.lt; omega
 have gl : g < w1.heap.size := hg1
 have wl : w.heap.size < w1.heap.size := by omega
 change Code.wp _ _ _ _ (w2.alloc (.cells (syc s ⟨⟨ta5, tn5, tc5⟩, ⟨la5, ln5, lc5⟩, ⟨ga5, gn5, gc5⟩, ⟨fa5, fn5, fc5⟩, ⟨ra5, rn5, rc5⟩⟩) 37))
 clear kA k2 o2 hc1 hc2 B1 K1
 generalize w2.alloc (.cells (syc s ⟨⟨ta5, tn5, tc5⟩, ⟨la5, ln5, lc5⟩, ⟨ga5, gn5, gc5⟩, ⟨fa5, fn5, fc5⟩, ⟨ra5, rn5, rc5⟩⟩) 37) = Y at *
 generalize w2.heap.size = xb at *
 have e0 : ∀ w', Blk w' xb (syc s ⟨⟨ta5, tn5, tc5⟩, ⟨la5, ln5, lc5⟩, ⟨ga5, gn5, gc5⟩, ⟨fa5, fn5, fc5⟩, ⟨ra5, rn5, rc5⟩⟩) -> ∀ q, w'.cell? ⟨xb, q, none⟩ = (syc s ⟨⟨ta5, tn5, tc5⟩, ⟨la5, ln5, lc5⟩, ⟨ga5, gn5, gc5⟩, ⟨fa5, fn5, fc5⟩, ⟨ra5, rn5, rc5⟩⟩)[q]? := fun w' hh => hh.cells
 dsimp only [syc] at e0
 refine wp_region_held_drew (S := (fun w' => Blk w' xb (syc s ⟨⟨ta5, tn5, tc5⟩, ⟨la5, ln5, lc5⟩, ⟨ga5, gn5, gc5⟩, ⟨fa5, fn5, fc5⟩, ⟨ra5, rn5, rc5⟩⟩))) (by kernel_rfl) ?_ (fun hHeld => ?_)
 ·exact X0.out.keeps (Keeps.refl _).drew
 refine Plan.go [0, 1] ?_
 iterate 2 (refine qac (by simp only [qab]; rfl) (by kernel_rfl) (by exact fun _ _ _ h => h) (by rfl) (by assumption) (fun w _ => by go_simp; try (with_reducible rfl)) ?_; try simp only [qaa])
 refine Plan.nil ?_
 refine qad 2 (by kernel_rfl) (by simp only [qab]; rfl) (fun K hK => ?_)
 go_simp
 (go_at_call 57; refine (qal g _ _ (C2.keeps (Keeps.refl _).drew) (by omega) (by omega)).mono ?_; rintro e w6 ⟨z6, rfl, z60, z61, hc6, k6⟩; have k6' : KeepsBut g Y w6 := ((KeepsBut.refl g Y).drew).trans k6; have B6 := X0.out.but k6' (by omega); have hwz : IntKind.i64.wrap (z6 - 1) = z6 - 1 := Go.IntWalk.i64_in _ (by omega))
 try go_wp2_with fail
 refine hK.out _ _ ?_ (fun hHeld => ?_)
 ·assumption
 clear hK K
 try simp only [qaa]
 refine qas 3 (v := ?_) (by simp only [qab]; rfl) (by kernel_rfl) (by exact fun _ _ _ h => h) (by rfl) (by assumption) ?_ ?_
 rotate_left
 ·(intro w _; go_simp; try (with_reducible rfl))
 try simp only [qaa]
 refine qad 4 (by kernel_rfl) (by simp only [qab]; rfl) (fun K hK => ?_)
 have B9 : Hid (Blk w6 w.heap.size zc) := B2.out.but k6' (by omega); obtain ⟨_, r1, r2⟩ := B9.out
 go_simp
 try go_wp2_with fail
 refine hK.out _ _ ?_ (fun hHeld => ?_)
 ·exact Blk.farC (c := w.heap.size) (by omega) (syc (s : Sy) ⟨⟨ta5, tn5, tc5⟩, ⟨la5, ln5, lc5⟩, ⟨ga5, gn5, gc5⟩, ⟨fa5, fn5, fc5⟩, ⟨ra5, rn5, rc5⟩⟩).toList 0 B6
 clear hK K
 try simp only [qaa]
 refine qas 5 (v := ?_) (by simp only [qab]; rfl) (by kernel_rfl) (by exact fun _ _ _ h => h) (by rfl) (by assumption) ?_ ?_
 rotate_left
 ·(intro w _; go_simp; try (with_reducible rfl))
 try simp only [qaa]
 refine wpAnyH_done (by kernel_rfl) ?_ _
 have K9 : Keeps w w6 := k6'.keeps K2 (by omega)
 have O9 : Hid (OwnS w6 w1.heap.size ⟨⟨ta5, tn5, tc5⟩, ⟨la5, ln5, lc5⟩, ⟨ga5, gn5, gc5⟩, ⟨fa5, fn5, fc5⟩, ⟨ra5, rn5, rc5⟩⟩ vs s) := O2.out.butG k6' gl
 clear r1 r2 e0
 go_wp2
 have E1 := (B9.out).putC (syc (s : Sy) ⟨⟨ta5, tn5, tc5⟩, ⟨la5, ln5, lc5⟩, ⟨ga5, gn5, gc5⟩, ⟨fa5, fn5, fc5⟩, ⟨ra5, rn5, rc5⟩⟩).toList rfl
 have K10 := Keeps.putC (b := w.heap.size) (Nat.le_refl _) (syc (s : Sy) ⟨⟨ta5, tn5, tc5⟩, ⟨la5, ln5, lc5⟩, ⟨ga5, gn5, gc5⟩, ⟨fa5, fn5, fc5⟩, ⟨ra5, rn5, rc5⟩⟩).toList 0 K9
 have O10 : OwnS (putC w6 w.heap.size 0 (syc (s : Sy) ⟨⟨ta5, tn5, tc5⟩, ⟨la5, ln5, lc5⟩, ⟨ga5, gn5, gc5⟩, ⟨fa5, fn5, fc5⟩, ⟨ra5, rn5, rc5⟩⟩).toList) w.heap.size ⟨⟨ta5, tn5, tc5⟩, ⟨la5, ln5, lc5⟩, ⟨ga5, gn5, gc5⟩, ⟨fa5, fn5, fc5⟩, ⟨ra5, rn5, rc5⟩⟩ vs s := (OwnS.farC (c := w.heap.size) (fun i hi => by have := (O9.out.blkLt hi).1; omega) _ _ O9.out).base (by omega)
 change bodyPost _ _ _ _ _ (putC w6 w.heap.size 0 (syc (s : Sy) ⟨⟨ta5, tn5, tc5⟩, ⟨la5, ln5, lc5⟩, ⟨ga5, gn5, gc5⟩, ⟨fa5, fn5, fc5⟩, ⟨ra5, rn5, rc5⟩⟩).toList)
 generalize putC w6 w.heap.size 0 (syc (s : Sy) ⟨⟨ta5, tn5, tc5⟩, ⟨la5, ln5, lc5⟩, ⟨ga5, gn5, gc5⟩, ⟨fa5, fn5, fc5⟩, ⟨ra5, rn5, rc5⟩⟩).toList = Q at E1 K10 O10 ⊢
 exact bodyPost_ret (v := .tuple #[.agg (syc (s : Sy) ⟨⟨ta5, tn5, tc5⟩, ⟨la5, ln5, lc5⟩, ⟨ga5, gn5, gc5⟩, ⟨fa5, fn5, fc5⟩, ⟨ra5, rn5, rc5⟩⟩), .int .i64 (z6 - 1)]) (by simp [results, Tryz.results16, go_sem, E1.cells]) rfl ⟨s, ⟨⟨ta5, tn5, tc5⟩, ⟨la5, ln5, lc5⟩, ⟨ga5, gn5, gc5⟩, ⟨fa5, fn5, fc5⟩, ⟨ra5, rn5, rc5⟩⟩, vs, z6 - 1, rfl, O10, sz, K10⟩
set_option maxRecDepth 100000 in
set_option linter.unusedSimpArgs false in
set_option maxHeartbeats 8000000 in
theorem qkz (a : Option Addr) (n cap : Nat) (w : World) (hn : n <= 1048576) (hb : ∀ g, w.heap.size <= g -> Bytes g w a n) :
  Calls Tryz.prog 15 #[.slice a n cap] w (qfT w) := by
 go_enter Tryz.func15, Tryz.ntmps15
 go_wp2_with fail
 have kW : Keeps w (w.alloc (.cells zc 37)) := (Keeps.refl w).alloc _
 have B0 : Blk (w.alloc (.cells zc 37)) w.heap.size zc := Blk.new w zc 37
 refine (qfC a n cap _ hn (fun g hg => (hb g (by have := kW.size; omega)).but (.of kW))).mono ?_
 rintro e w1 ⟨g, rfl, hg, hc1, k1⟩
 clear hb
 have K1 : Keeps w w1 := kW.trans k1
 have B1 : Blk w1 w.heap.size zc := B0.keeps k1
 have hg1 := hc1.lt
 have hwg : w.heap.size < g := by simp at hg; omega
 clear kW k1 B0 hg
 go_upto_region 3 with (go_at_call 55; refine (qfS hc1 a n cap hn).mono ?_; rintro e w2 ⟨s, v, vs, rfl, o2, sz, hc2, k2⟩; obtain ⟨⟨ta5, tn5, tc5⟩, ⟨la5, ln5, lc5⟩, ⟨ga5, gn5, gc5⟩, ⟨fa5, fn5, fc5⟩, ⟨ra5, rn5, rc5⟩⟩ := v)
 have kA : Keeps w2 (w2.alloc (.cells (syc s ⟨⟨ta5, tn5, tc5⟩, ⟨la5, ln5, lc5⟩, ⟨ga5, gn5, gc5⟩, ⟨fa5, fn5, fc5⟩, ⟨ra5, rn5, rc5⟩⟩) 37)) := (Keeps.refl w2).alloc _
 have X0 : Hid (Blk (w2.alloc (.cells (syc s ⟨⟨ta5, tn5, tc5⟩, ⟨la5, ln5, lc5⟩, ⟨ga5, gn5, gc5⟩, ⟨fa5, fn5, fc5⟩, ⟨ra5, rn5, rc5⟩⟩) 37)) w2.heap.size (syc s ⟨⟨ta5, tn5, tc5⟩, ⟨la5, ln5, lc5⟩, ⟨ga5, gn5, gc5⟩, ⟨fa5, fn5, fc5⟩, ⟨ra5, rn5, rc5⟩⟩)) := Blk.new _ _ _
 have K2 : Keeps w (w2.alloc (.cells (syc s ⟨⟨ta5, tn5, tc5⟩, ⟨la5, ln5, lc5⟩, ⟨ga5, gn5, gc5⟩, ⟨fa5, fn5, fc5⟩, ⟨ra5, rn5, rc5⟩⟩) 37)) := (k2.keeps K1 (by omega)).alloc _
 have B2 : Hid (Blk (w2.alloc (.cells (syc s ⟨⟨ta5, tn5, tc5⟩, ⟨la5, ln5, lc5⟩, ⟨ga5, gn5, gc5⟩, ⟨fa5, fn5, fc5⟩, ⟨ra5, rn5, rc5⟩⟩) 37)) w.heap.size zc) := (B1.but k2 (by omega)).keeps kA
 have O2 : Hid (OwnS (w2.alloc (.cells (syc s ⟨⟨ta5, tn5, tc5⟩, ⟨la5, ln5, lc5⟩, ⟨ga5, gn5, gc5⟩, ⟨fa5, fn5, fc5⟩, ⟨ra5, rn5, rc5⟩⟩) 37)) w1.heap.size ⟨⟨ta5, tn5, tc5⟩, ⟨la5, ln5, lc5⟩, ⟨ga5, gn5, gc5⟩, ⟨fa5, fn5, fc5⟩, ⟨ra5, rn5, rc5⟩⟩ vs s) := o2.keeps kA
 have C2 := hc2.keeps kA
 have hs1 := K1.size
 have hxb : g < w2.heap.size /\ w.heap.size < w2.heap.size := by have := hc2.lt; omega
 have gl : g < w1.heap.size := hg1
 have wl : w.heap.size < w1.heap.size := by omega
 change Code.wp _ _ _ _ (w2.alloc (.cells (syc s ⟨⟨ta5, tn5, tc5⟩, ⟨la5, ln5, lc5⟩, ⟨ga5, gn5, gc5⟩, ⟨fa5, fn5, fc5⟩, ⟨ra5, rn5, rc5⟩⟩) 37))
 clear kA k2 o2 hc1 hc2 B1 K1
 generalize w2.alloc (.cells (syc s ⟨⟨ta5, tn5, tc5⟩, ⟨la5, ln5, lc5⟩, ⟨ga5, gn5, gc5⟩, ⟨fa5, fn5, fc5⟩, ⟨ra5, rn5, rc5⟩⟩) 37) = Y at *
 generalize w2.heap.size = xb at *
 have e0 : ∀ w', Blk w' xb (syc s ⟨⟨ta5, tn5, tc5⟩, ⟨la5, ln5, lc5⟩, ⟨ga5, gn5, gc5⟩, ⟨fa5, fn5, fc5⟩, ⟨ra5, rn5, rc5⟩⟩) -> ∀ q, w'.cell? ⟨xb, q, none⟩ = (syc s ⟨⟨ta5, tn5, tc5⟩, ⟨la5, ln5, lc5⟩, ⟨ga5, gn5, gc5⟩, ⟨fa5, fn5, fc5⟩, ⟨ra5, rn5, rc5⟩⟩)[q]? := fun w' hh => hh.cells
 dsimp only [syc] at e0
 refine wp_region_held_drew (S := (fun w' => Blk w' xb (syc s ⟨⟨ta5, tn5, tc5⟩, ⟨la5, ln5, lc5⟩, ⟨ga5, gn5, gc5⟩, ⟨fa5, fn5, fc5⟩, ⟨ra5, rn5, rc5⟩⟩))) (by kernel_rfl) ?_ (fun hHeld => ?_)
 ·exact X0.out.keeps (Keeps.refl _).drew
 refine Plan.go [0, 1, 2] ?_
 iterate 3 (refine qac (by simp only [qab]; rfl) (by kernel_rfl) (by exact fun _ _ _ h => h) (by rfl) (by assumption) (fun w _ => by go_simp; try (with_reducible rfl)) ?_; try simp only [qaa])
 refine Plan.nil ?_
 refine qad 3 (by kernel_rfl) (by simp only [qab]; rfl) (fun K hK => ?_)
 go_simp
 (go_at_call 56; refine (qfR (C2.keeps (Keeps.refl _).drew) (O2.out.keeps (Keeps.refl _).drew) gl (by have := sz.1; omega)).mono ?_; rintro e w6 ⟨z6, rfl, hc6, k6⟩; have k6' : KeepsBut g Y w6 := ((KeepsBut.refl g Y).drew).trans k6; have B6 := X0.out.but k6' (by omega))
 try go_wp2_with fail
 refine hK.out _ _ ?_ (fun hHeld => ?_)
 ·assumption
 clear hK K
 try simp only [qaa]
 refine qad 4 (by kernel_rfl) (by simp only [qab]; rfl) (fun K hK => ?_)
 have B9 : Hid (Blk w6 w.heap.size zc) := B2.out.but k6' (by omega); obtain ⟨_, r1, r2⟩ := B9.out
 go_simp
 try go_wp2_with fail
 refine hK.out _ _ ?_ (fun hHeld => ?_)
 ·exact Blk.farC (c := w.heap.size) (by omega) (syc (s : Sy) ⟨⟨ta5, tn5, tc5⟩, ⟨la5, ln5, lc5⟩, ⟨ga5, gn5, gc5⟩, ⟨fa5, fn5, fc5⟩, ⟨ra5, rn5, rc5⟩⟩).toList 0 B6
 clear hK K
 try simp only [qaa]
 refine qas 5 (v := ?_) (by simp only [qab]; rfl) (by kernel_rfl) (by exact fun _ _ _ h => h) (by rfl) (by assumption) ?_ ?_
 rotate_left
 ·(intro w _; go_simp; try (with_reducible rfl))
 try simp only [qaa]
 refine wpAnyH_done (by kernel_rfl) ?_ _
 have K9 : Keeps w w6 := k6'.keeps K2 (by omega)
 have O9 : Hid (OwnS w6 w1.heap.size ⟨⟨ta5, tn5, tc5⟩, ⟨la5, ln5, lc5⟩, ⟨ga5, gn5, gc5⟩, ⟨fa5, fn5, fc5⟩, ⟨ra5, rn5, rc5⟩⟩ vs s) := O2.out.butG k6' gl
 clear r1 r2 e0
 go_wp2
 have E1 := (B9.out).putC (syc (s : Sy) ⟨⟨ta5, tn5, tc5⟩, ⟨la5, ln5, lc5⟩, ⟨ga5, gn5, gc5⟩, ⟨fa5, fn5, fc5⟩, ⟨ra5, rn5, rc5⟩⟩).toList rfl
 have K10 := Keeps.putC (b := w.heap.size) (Nat.le_refl _) (syc (s : Sy) ⟨⟨ta5, tn5, tc5⟩, ⟨la5, ln5, lc5⟩, ⟨ga5, gn5, gc5⟩, ⟨fa5, fn5, fc5⟩, ⟨ra5, rn5, rc5⟩⟩).toList 0 K9
 have O10 : OwnS (putC w6 w.heap.size 0 (syc (s : Sy) ⟨⟨ta5, tn5, tc5⟩, ⟨la5, ln5, lc5⟩, ⟨ga5, gn5, gc5⟩, ⟨fa5, fn5, fc5⟩, ⟨ra5, rn5, rc5⟩⟩).toList) w.heap.size ⟨⟨ta5, tn5, tc5⟩, ⟨la5, ln5, lc5⟩, ⟨ga5, gn5, gc5⟩, ⟨fa5, fn5, fc5⟩, ⟨ra5, rn5, rc5⟩⟩ vs s := (OwnS.farC (c := w.heap.size) (fun i hi => by have := (O9.out.blkLt hi).1; omega) _ _ O9.out).base (by omega)
 change bodyPost _ _ _ _ _ (putC w6 w.heap.size 0 (syc (s : Sy) ⟨⟨ta5, tn5, tc5⟩, ⟨la5, ln5, lc5⟩, ⟨ga5, gn5, gc5⟩, ⟨fa5, fn5, fc5⟩, ⟨ra5, rn5, rc5⟩⟩).toList)
 generalize putC w6 w.heap.size 0 (syc (s : Sy) ⟨⟨ta5, tn5, tc5⟩, ⟨la5, ln5, lc5⟩, ⟨ga5, gn5, gc5⟩, ⟨fa5, fn5, fc5⟩, ⟨ra5, rn5, rc5⟩⟩).toList = Q at E1 K10 O10 ⊢
 exact bodyPost_ret (v := .tuple #[.agg (syc (s : Sy) ⟨⟨ta5, tn5, tc5⟩, ⟨la5, ln5, lc5⟩, ⟨ga5, gn5, gc5⟩, ⟨fa5, fn5, fc5⟩, ⟨ra5, rn5, rc5⟩⟩), .int .i64 z6]) (by simp [results, Tryz.results15, go_sem, E1.cells]) rfl ⟨s, ⟨⟨ta5, tn5, tc5⟩, ⟨la5, ln5, lc5⟩, ⟨ga5, gn5, gc5⟩, ⟨fa5, fn5, fc5⟩, ⟨ra5, rn5, rc5⟩⟩, vs, z6, rfl, O10, sz, K10⟩
end Go.Proofs.YthpdlbcdbncnhaaGreatDoor
namespace Go.Proofs.YthpdlbcdbncnhaaGreatDoor
open Go.RowKit
attribute [local go_sem] Keeps.refl Keeps.alloc Keeps.drew Keeps.drewN
theorem qkA (s : Sy) (c : Int) : 0 <= qbV s c := by
 unfold qbV
 split
 ·exact qkn _
 ·omega
theorem qkB {s : Sy} {no : Int} (h : qa4 s no = true) : ∃ (i : Nat) (t : Tsk), qav s.tasks no = (i : Int) /\ s.tasks[i]? = some t /\ (t.cls == 1) = true /\ qa9 s no = t.left - (t.due - s.now) /\ ((0 <= t.left /\ t.left <= 40) /\ 0 <= t.due /\ t.due <= 100040) /\ 0 <= s.now /\ s.now <= 100000 := by
 cases hsb : sysB s
 ·rw [(qff hsb).1] at h; cases h
 cases hf : s.tasks.findIdx? (fun t => t.no == no) with
 | none => rw [(qfe hf).1] at h; cases h
 | some i =>
  obtain ⟨t, ht, -⟩ := qfh hf
  have H1 := qfg hf ht hsb
  have hc : (t.cls == 1) = true := by rw [<- H1.1]; exact h
  have R := qb9.1 hsb
  exact ⟨i, t, qfj hf, ht, hc, H1.2.1 hc, qfi (qdI R.tasks ht) hc, R.now⟩
set_option maxRecDepth 100000 in
set_option linter.unusedSimpArgs false in
set_option maxHeartbeats 8000000 in
theorem qkC (H0 : qfk) (H1 : qfl) (H2 : qfv) (a : Option Addr) (n cap : Nat) (w : World) (hg : GlobE w) (hm : n <= maxLen) (hb : ∀ g, w.heap.size <= g -> Bytes g w a n) :
  Calls Tryz.prog 5 #[.slice a n cap] w fun e w' => e = .returned (.bool true) /\ Keeps w w' := by
 have HS : Hid qfk := H0
 have HP : Hid qfl := H1
 have HA : Hid qfv := H2
 clear H0 H1 H2
 by_cases hn : n <= 1048576
 case neg =>
  have hd : decide (1048576 < (n : Int)) = true := by simp; omega
  go_enter Tryz.func5, Tryz.ntmps5
  go_wp2_with (go_at_call 14; refine (qfD _ _ _ _ hm).mono ?_; rintro e w1 ⟨rfl, rfl⟩)
  go_ret
  exact ⟨rfl, Keeps.refl _⟩
 have hd : decide (1048576 < (n : Int)) = false := by simp; omega
 have HB : Hid (∀ g, w.heap.size <= g -> Bytes g w a n) := hb
 have HG : Hid (GlobE w) := hg
 clear hb hg
 go_enter Tryz.func5, Tryz.ntmps5
 go_wp2_with fail
 refine (qfD _ _ _ _ hm).mono ?_
 rintro e w0 ⟨rfl, rfl⟩
 rw [hd]
 go_upto_region 4 with (go_at_call 15; refine (qkz a n cap _ hn HB.out).mono ?_; rintro e w1 ⟨s, v, vs, z, rfl, o1, sz, k1⟩; obtain ⟨⟨ta5, tn5, tc5⟩, ⟨la5, ln5, lc5⟩, ⟨ga5, gn5, gc5⟩, ⟨fa5, fn5, fc5⟩, ⟨ra5, rn5, rc5⟩⟩ := v)
 have kW : Keeps w0 (w1.alloc (.cells (syc s ⟨⟨ta5, tn5, tc5⟩, ⟨la5, ln5, lc5⟩, ⟨ga5, gn5, gc5⟩, ⟨fa5, fn5, fc5⟩, ⟨ra5, rn5, rc5⟩⟩) 37)) := k1.alloc _
 have ON : Hid (SysOn (w1.alloc (.cells (syc s ⟨⟨ta5, tn5, tc5⟩, ⟨la5, ln5, lc5⟩, ⟨ga5, gn5, gc5⟩, ⟨fa5, fn5, fc5⟩, ⟨ra5, rn5, rc5⟩⟩) 37)) ⟨⟨ta5, tn5, tc5⟩, ⟨la5, ln5, lc5⟩, ⟨ga5, gn5, gc5⟩, ⟨fa5, fn5, fc5⟩, ⟨ra5, rn5, rc5⟩⟩ s) := (o1.on (by have := sz.2.2; omega)).keeps ((Keeps.refl _).alloc _)
 have X0 : Hid (Blk (w1.alloc (.cells (syc s ⟨⟨ta5, tn5, tc5⟩, ⟨la5, ln5, lc5⟩, ⟨ga5, gn5, gc5⟩, ⟨fa5, fn5, fc5⟩, ⟨ra5, rn5, rc5⟩⟩) 37)) w1.heap.size (syc s ⟨⟨ta5, tn5, tc5⟩, ⟨la5, ln5, lc5⟩, ⟨ga5, gn5, gc5⟩, ⟨fa5, fn5, fc5⟩, ⟨ra5, rn5, rc5⟩⟩)) := Blk.new _ _ _
 obtain ⟨sI, HsI⟩ : ∃ b, Hid (qa9 s z = b) := ⟨_, rfl⟩
 obtain ⟨sB, HsB⟩ : ∃ b, Hid (qa4 s z = b) := ⟨_, rfl⟩
 have hne : (sI != sI) = false := by simp
 have hnb : (sB != sB) = false := by simp
 change Code.wp _ _ _ _ (w1.alloc (.cells (syc s ⟨⟨ta5, tn5, tc5⟩, ⟨la5, ln5, lc5⟩, ⟨ga5, gn5, gc5⟩, ⟨fa5, fn5, fc5⟩, ⟨ra5, rn5, rc5⟩⟩) 37))
 clear o1 k1 sz hd
 generalize w1.alloc (.cells (syc s ⟨⟨ta5, tn5, tc5⟩, ⟨la5, ln5, lc5⟩, ⟨ga5, gn5, gc5⟩, ⟨fa5, fn5, fc5⟩, ⟨ra5, rn5, rc5⟩⟩) 37) = W at *
 generalize w1.heap.size = xb at *
 have hb0 : ∀ w', Keeps W w' -> ∀ q, w'.cell? ⟨xb, q, none⟩ = (syc s ⟨⟨ta5, tn5, tc5⟩, ⟨la5, ln5, lc5⟩, ⟨ga5, gn5, gc5⟩, ⟨fa5, fn5, fc5⟩, ⟨ra5, rn5, rc5⟩⟩)[q]? := fun w' k => (X0.out.keeps k).cells
 dsimp only [syc] at hb0
 have I1 : Hid (∀ w', Keeps W w' -> Calls Tryz.prog 10 #[.agg (syc s ⟨⟨ta5, tn5, tc5⟩, ⟨la5, ln5, lc5⟩, ⟨ga5, gn5, gc5⟩, ⟨fa5, fn5, fc5⟩, ⟨ra5, rn5, rc5⟩⟩), .int .i64 z] w' fun e w'' => e = .returned (.tuple #[.int .i64 sI, .bool sB]) /\ Keeps w' w'') := fun w' kk => by
  have := HS.out w' _ s z (HG.out.keeps (kW.trans kk)) (ON.out.keeps kk)
  rw [HsI.out, HsB.out] at this
  exact this
 have M1 : Hid (∀ w', Keeps W w' -> Calls Tryz.prog 8 #[.agg (syc s ⟨⟨ta5, tn5, tc5⟩, ⟨la5, ln5, lc5⟩, ⟨ga5, gn5, gc5⟩, ⟨fa5, fn5, fc5⟩, ⟨ra5, rn5, rc5⟩⟩), .int .i64 z] w' fun e w'' => e = .returned (.tuple #[.int .i64 sI, .bool sB]) /\ Keeps w' w'') := fun w' kk => by
  have := qks (ON.out.keeps kk) z
  rw [HsI.out, HsB.out] at this
  exact this
 go_upto_region 5 with (go_at_call 10; refine (I1.out _ (Keeps.refl _)).mono ?_; rintro e w2 ⟨rfl, k2⟩)
 go_upto_region 6 with (go_at_call 8; refine (M1.out _ k2).mono ?_; rintro e w3 ⟨rfl, k3⟩)
 have K3 : Keeps W w3 := k2.trans k3
 clear I1 M1 k2 k3
 go_upto_region 9 with (go_at_call 16; refine (qky a n cap _ hn (fun g hg => (HB.out g (by have := (kW.trans K3).size; omega)).but (.of (kW.trans K3)))).mono ?_; rintro e w4 ⟨s2, v2, vs2, z2, rfl, o4, sz4, k4⟩; obtain ⟨⟨ta7, tn7, tc7⟩, ⟨la7, ln7, lc7⟩, ⟨ga7, gn7, gc7⟩, ⟨fa7, fn7, fc7⟩, ⟨ra7, rn7, rc7⟩⟩ := v2)
 have K5 : Keeps W (w4.alloc (.cells (syc s2 ⟨⟨ta7, tn7, tc7⟩, ⟨la7, ln7, lc7⟩, ⟨ga7, gn7, gc7⟩, ⟨fa7, fn7, fc7⟩, ⟨ra7, rn7, rc7⟩⟩) 37)) := (K3.trans k4).alloc _
 have ON2 : Hid (SysOn (w4.alloc (.cells (syc s2 ⟨⟨ta7, tn7, tc7⟩, ⟨la7, ln7, lc7⟩, ⟨ga7, gn7, gc7⟩, ⟨fa7, fn7, fc7⟩, ⟨ra7, rn7, rc7⟩⟩) 37)) ⟨⟨ta7, tn7, tc7⟩, ⟨la7, ln7, lc7⟩, ⟨ga7, gn7, gc7⟩, ⟨fa7, fn7, fc7⟩, ⟨ra7, rn7, rc7⟩⟩ s2) := (o4.on (by have := sz4.2.2; omega)).keeps ((Keeps.refl _).alloc _)
 have X2 : Hid (Blk (w4.alloc (.cells (syc s2 ⟨⟨ta7, tn7, tc7⟩, ⟨la7, ln7, lc7⟩, ⟨ga7, gn7, gc7⟩, ⟨fa7, fn7, fc7⟩, ⟨ra7, rn7, rc7⟩⟩) 37)) w4.heap.size (syc s2 ⟨⟨ta7, tn7, tc7⟩, ⟨la7, ln7, lc7⟩, ⟨ga7, gn7, gc7⟩, ⟨fa7, fn7, fc7⟩, ⟨ra7, rn7, rc7⟩⟩)) := Blk.new _ _ _
 obtain ⟨fl, Hfl⟩ : ∃ b, Hid (qbV s2 z2 = b) := ⟨_, rfl⟩
 have hfl : decide (fl < 0) = false := by have := qkA s2 z2; rw [Hfl.out] at this; simp; omega
 have hnf : (fl != fl) = false := by simp
 change Code.wp _ _ _ _ (w4.alloc (.cells (syc s2 ⟨⟨ta7, tn7, tc7⟩, ⟨la7, ln7, lc7⟩, ⟨ga7, gn7, gc7⟩, ⟨fa7, fn7, fc7⟩, ⟨ra7, rn7, rc7⟩⟩) 37))
 clear o4 k4 sz4 K3
 generalize w4.alloc (.cells (syc s2 ⟨⟨ta7, tn7, tc7⟩, ⟨la7, ln7, lc7⟩, ⟨ga7, gn7, gc7⟩, ⟨fa7, fn7, fc7⟩, ⟨ra7, rn7, rc7⟩⟩) 37) = Y at *
 generalize w4.heap.size = yb at *
 have hb2 : ∀ w', Keeps Y w' -> ∀ q, w'.cell? ⟨yb, q, none⟩ = (syc s2 ⟨⟨ta7, tn7, tc7⟩, ⟨la7, ln7, lc7⟩, ⟨ga7, gn7, gc7⟩, ⟨fa7, fn7, fc7⟩, ⟨ra7, rn7, rc7⟩⟩)[q]? := fun w' k => (X2.out.keeps k).cells
 dsimp only [syc] at hb2
 have I2 : Hid (∀ w', Keeps Y w' -> Calls Tryz.prog 13 #[.agg (syc s2 ⟨⟨ta7, tn7, tc7⟩, ⟨la7, ln7, lc7⟩, ⟨ga7, gn7, gc7⟩, ⟨fa7, fn7, fc7⟩, ⟨ra7, rn7, rc7⟩⟩), .int .i64 z2] w' fun e w'' => e = .returned (.int .i64 fl) /\ Keeps w' w'') := fun w' kk => by
  have := HP.out w' _ s2 z2 (HG.out.keeps (kW.trans (K5.trans kk))) (ON2.out.keeps kk)
  rw [Hfl.out] at this
  exact this
 have M2 : Hid (∀ w', Keeps Y w' -> Calls Tryz.prog 12 #[.agg (syc s2 ⟨⟨ta7, tn7, tc7⟩, ⟨la7, ln7, lc7⟩, ⟨ga7, gn7, gc7⟩, ⟨fa7, fn7, fc7⟩, ⟨ra7, rn7, rc7⟩⟩), .int .i64 z2] w' fun e w'' => e = .returned (.int .i64 fl) /\ Keeps w' w'') := fun w' kk => by
  have := qkt (ON2.out.keeps kk) z2
  rw [Hfl.out] at this
  exact this
 have J1 := I2
 refine wp_region_held_drew (S := (fun w' => Keeps Y w')) (by kernel_rfl) ?_ (fun hHeld => ?_)
 ·exact (Keeps.refl Y).drew
 refine Plan.go [0, 1, 3, 4] ?_
 iterate 4 (refine qac (by simp only [qab]; rfl) (by kernel_rfl) (by exact fun _ _ _ h => h) (by rfl) (by assumption) (fun w _ => by go_simp; try (with_reducible rfl)) ?_; try simp only [qaa])
 refine Plan.nil ?_
 refine qad 2 (by kernel_rfl) (by simp only [qab]; rfl) (fun K hK => ?_)
 go_simp
 first
  | (have q0 := I2; clear I2; go_at_call 13; refine (q0.out _ (by assumption)).mono ?_; rintro e w5 ⟨rfl, k5⟩; clear q0)
  | (go_at_call 12; refine (M2.out _ (by assumption)).mono ?_; rintro e w6 ⟨rfl, k6⟩)
  | (have q0 := J1; clear J1; go_at_call 13; refine (q0.out _ (by assumption)).mono ?_; rintro e w7 ⟨rfl, k7⟩; clear q0)
 try go_wp2_with fail
 refine hK.out _ _ ?_ (fun hHeld => ?_)
 ·exact Keeps.trans (by assumption) (by assumption)
 clear hK K
 try simp only [qaa]
 refine qad 5 (by kernel_rfl) (by simp only [qab]; rfl) (fun K hK => ?_)
 go_simp
 first
  | (have q0 := I2; clear I2; go_at_call 13; refine (q0.out _ (by assumption)).mono ?_; rintro e w5 ⟨rfl, k5⟩; clear q0)
  | (go_at_call 12; refine (M2.out _ (by assumption)).mono ?_; rintro e w6 ⟨rfl, k6⟩)
  | (have q0 := J1; clear J1; go_at_call 13; refine (q0.out _ (by assumption)).mono ?_; rintro e w7 ⟨rfl, k7⟩; clear q0)
 try go_wp2_with fail
 refine hK.out _ _ ?_ (fun hHeld => ?_)
 ·exact Keeps.trans (by assumption) (by assumption)
 clear hK K
 try simp only [qaa]
 refine Plan.go [6, 7, 8, 9] ?_
 iterate 4 (refine qac (by simp only [qab]; rfl) (by kernel_rfl) (by exact fun _ _ _ h => h) (by rfl) (by assumption) (fun w _ => by go_simp; try (with_reducible rfl)) ?_; try simp only [qaa])
 refine Plan.nil ?_
 refine qad 10 (by kernel_rfl) (by simp only [qab]; rfl) (fun K hK => ?_)
 go_simp
 first
  | (have q0 := I2; clear I2; go_at_call 13; refine (q0.out _ (by assumption)).mono ?_; rintro e w5 ⟨rfl, k5⟩; clear q0)
  | (go_at_call 12; refine (M2.out _ (by assumption)).mono ?_; rintro e w6 ⟨rfl, k6⟩)
  | (have q0 := J1; clear J1; go_at_call 13; refine (q0.out _ (by assumption)).mono ?_; rintro e w7 ⟨rfl, k7⟩; clear q0)
 try go_wp2_with fail
 refine hK.out _ _ ?_ (fun hHeld => ?_)
 ·exact Keeps.trans (by assumption) (by assumption)
 clear hK K
 try simp only [qaa]
 refine Plan.go [11, 12] ?_
 iterate 2 (refine qac (by simp only [qab]; rfl) (by kernel_rfl) (by exact fun _ _ _ h => h) (by rfl) (by assumption) (fun w _ => by go_simp; try (with_reducible rfl)) ?_; try simp only [qaa])
 refine Plan.nil ?_
 refine wpAnyH_done (by kernel_rfl) ?_ _
 have KY : Keeps Y w7 := by assumption
 have K7 : Hid (Keeps W w7) := K5.trans KY
 clear KY hb2 M2 ON2 X2 K5 Hfl hfl hnf hHeld
 cases sB
 ·have hz0 : sI = 0 := by
   rw [<- HsI.out]
   unfold qa9
   rw [HsB.out]
   rfl
  subst hz0
  go_wp2
  go_ret
  exact ⟨rfl, kW.trans K7.out⟩
 obtain ⟨i, t, e1, ht, hc, e2, ⟨⟨l0, l1⟩, d0, d1⟩, n0, n1⟩ := qkB HsB.out
 have hsi : Hid (sI = t.left - (t.due - s.now)) := by show _ = _; rw [<- HsI.out]; exact e2
 have Hn5 : Hid (s.tasks.length = tn5) := ON.out.lay.tl
 have hi : i < tn5 := by have := qat ht; have := Hn5.out; omega
 have hib : (i : Int) < (tn5 : Int) := by omega
 obtain ⟨b, off, e3, r0, r1⟩ := (ON.out.lay.t.keeps K7.out).at ht (by omega)
 simp only at e3
 subst e3
 have TA : Hid (∀ w', Keeps w7 w' -> Calls Tryz.prog 17 #[.slice (some ⟨b, off, none⟩) tn5 tc5, .int .i64 z] w' fun e w'' => e = .returned (.int .i64 i) /\ Keeps w' w'') := fun w' kk => by
  have := HA.out (some ⟨b, off, none⟩) tc5 s.tasks z w' (by have := ON.out.size; unfold qah at this; unfold maxLen; omega) ((ON.out.lay.t.keeps K7.out).keeps kk)
  rw [Hn5.out, e1] at this
  exact this
 have hb7 : ∀ w', Keeps w7 w' -> ∀ q, w'.cell? ⟨xb, q, none⟩ = _ := fun w' k => hb0 w' (K7.out.trans k)
 clear hb0 HsI HsB ht e1 e2 ON X0 HB HG HS HP HA
 go_upto_region 13 with fail
 go_cut [11] (fun c wx => ∃ nb, c = .pointer (some ⟨nb, 0, none⟩) /\ w7.heap.size <= nb /\ Hid (Blk wx nb (tc t)) /\ Keeps w7 wx)
 case first =>
  refine wp_region_held_drew (S := fun w' => Keeps w7 w') (by kernel_rfl) ?_ (fun hHeld => ?_)
  ·exact (Keeps.refl w7).drew
  refine Plan.go [0, 1, 2, 3, 4] ?_
  iterate 5 (refine qac (by simp only [qab]; rfl) (by kernel_rfl) (by exact fun _ _ _ h => h) (by rfl) (by assumption) (fun w _ => by go_simp; try (with_reducible rfl)) ?_; try simp only [qaa])
  refine Plan.nil ?_
  refine wpAnyH_ready (rs := [5, 8]) (by kernel_rfl) (by simp) ?_
  refine AllReadyH.cons (by simp only [List.getElem?_toArray, List.getElem?_cons_succ, List.getElem?_cons_zero]; rfl) (fun K hK => ?_) (AllReadyH.cons (by simp only [List.getElem?_toArray, List.getElem?_cons_succ, List.getElem?_cons_zero]; rfl) (fun K hK => ?_) AllReadyH.nil)
  ·go_simp
   (go_at_call 17; refine (TA.out _ (by assumption)).mono ?_; rintro e w9 ⟨rfl, k9⟩)
   try go_wp2_with fail
   refine hK.out _ _ ?_ (fun hHeld => ?_)
   ·exact Keeps.trans (by assumption) (by assumption)
   clear hK K
   try simp only [qaa]
   refine Plan.go [6, 7] ?_
   iterate 2 (refine qac (by simp only [qab]; rfl) (by kernel_rfl) (by exact fun _ _ _ h => h) (by rfl) (by assumption) (fun w _ => by go_simp; try (with_reducible rfl)) ?_; try simp only [qaa])
   refine Plan.nil ?_
   refine qad 8 (by kernel_rfl) (by simp only [qab]; rfl) (fun K hK => ?_)
   go_simp
   try go_wp2_with fail
   refine hK.out _ _ ?_ (fun hHeld => ?_)
   ·exact Keeps.alloc (by assumption) _
   clear hK K
   try simp only [qaa]
   refine qad 9 (by kernel_rfl) (by simp only [qab]; rfl) (fun K hK => ?_)
   have hnb : w7.heap.size <= w9.heap.size := Keeps.size (by assumption : Keeps w7 w9)
   go_simp
   try go_wp2_with fail
   refine hK.out _ (w9.alloc (.cells (tc t) 47)) ?_ (fun hHeld => ?_)
   ·exact Keeps.alloc (by assumption) _
   clear hK K
   try simp only [qaa]
   have hBN : Hid (Blk (w9.alloc (.cells (tc t) 47)) (w9.heap.size) (tc t)) := Blk.new _ _ _
   generalize w9.alloc (.cells (tc t) 47) = XW at *
   refine wpAnyH_done (by kernel_rfl) ?_ _
   go_wp2_with fail
   go_meet
   exact ⟨(w9.heap.size), rfl, hnb, hBN, by assumption⟩
  ·go_simp
   try go_wp2_with fail
   refine hK.out _ _ ?_ (fun hHeld => ?_)
   ·exact Keeps.alloc (by assumption) _
   clear hK K
   try simp only [qaa]
   refine qad 5 (by kernel_rfl) (by simp only [qab]; rfl) (fun K hK => ?_)
   go_simp
   (go_at_call 17; refine (TA.out _ (by assumption)).mono ?_; rintro e w9 ⟨rfl, k9⟩)
   try go_wp2_with fail
   refine hK.out _ _ ?_ (fun hHeld => ?_)
   ·exact Keeps.trans (by assumption) (by assumption)
   clear hK K
   try simp only [qaa]
   refine Plan.go [6, 7] ?_
   iterate 2 (refine qac (by simp only [qab]; rfl) (by kernel_rfl) (by exact fun _ _ _ h => h) (by rfl) (by assumption) (fun w _ => by go_simp; try (with_reducible rfl)) ?_; try simp only [qaa])
   refine Plan.nil ?_
   refine qad 9 (by kernel_rfl) (by simp only [qab]; rfl) (fun K hK => ?_)
   have BN0 : Blk w9 (w7.heap.size) (tc Tsk.zero) := (Blk.new (w7.drew) (tc Tsk.zero) 47).keeps (k9)
   have HBN : Hid (Blk w9 (w7.heap.size) (tc Tsk.zero)) := BN0
   obtain ⟨_, ee1, ee2⟩ := BN0
   have hnb : w7.heap.size <= w7.heap.size := Nat.le_refl _
   go_simp
   try go_wp2_with fail
   refine hK.out _ (putC w9 (w7.heap.size) 0 (tc t).toList) ?_ (fun hHeld => ?_)
   ·exact Keeps.putC (b := w7.heap.size) hnb (tc t).toList 0 (by assumption)
   clear hK K
   try simp only [qaa]
   have hBN : Hid (Blk (putC w9 (w7.heap.size) 0 (tc t).toList) (w7.heap.size) (tc t)) := HBN.out.putC (tc t).toList rfl
   clear ee1 ee2 HBN
   generalize putC w9 (w7.heap.size) 0 (tc t).toList = XW at *
   refine wpAnyH_done (by kernel_rfl) ?_ _
   go_wp2_with fail
   go_meet
   exact ⟨(w7.heap.size), rfl, hnb, hBN, by assumption⟩
 case rest =>
 obtain ⟨nb, rfl, hnb, BN, KX⟩ := hcut
 have K10 : Hid (Keeps W wc) := K7.out.trans KX
 have hb8 : ∀ q, wc.cell? ⟨xb, q, none⟩ = _ := hb7 wc KX
 obtain ⟨_, b1, b2⟩ := BN.out
 have hsj := hsi.out
 subst hsj
 have hw1 : IntKind.i64.wrap (t.left - (t.due - s.now) + t.due) = t.left + s.now := by rw [Go.IntWalk.i64_in _ (by omega)]; omega
 have hw2 : IntKind.i64.wrap (t.left + s.now) = t.left + s.now := Go.IntWalk.i64_in _ (by omega)
 have hee : ((t.left + s.now) == (t.left + s.now)) = true := by simp
 clear r0 r1 hb7 TA KX K7
 go_wp2
 go_ret
 exact ⟨rfl, kW.trans K10.out⟩
end Go.Proofs.YthpdlbcdbncnhaaGreatDoor
