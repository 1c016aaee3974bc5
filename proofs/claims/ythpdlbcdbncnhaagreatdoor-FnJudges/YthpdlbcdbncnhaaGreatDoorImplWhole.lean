/-
  The program's task of each class, made whole again.
-/
import Derived.Test.YthpdlbcdbncnhaaGreatDoorGItask1
namespace Go.Proofs.YthpdlbcdbncnhaaGreatDoor
set_option maxRecDepth 100000
open Go.RowKit
set_option maxHeartbeats 2000000 in
theorem qdh (t:Tsk) (w:World) :
  Calls Tryz.prog 133 #[.agg (dtc t)] w fun e w'=>e = .returned (tk t.asDue) /\ Keeps w w':=by
 go_enter Tryz.func133,Tryz.ntmps133
 go_wp2_with fail
 refine (qfT t _).mono ?_
 rintro e w1 ⟨rfl,k1⟩
 have B1:=((Blk.new w (dtc t) 69).alloc (.cells (tc Tsk.zero) 47)).keeps k1
 have B2:=(Blk.new (w.alloc (.cells (dtc t) 69)) (tc Tsk.zero) 47).keeps k1
 have K1:Keeps w w1:=(((Keeps.refl w).alloc _).alloc _).trans k1
 simp only [World.size_alloc] at B2
 have l1:=B1.lt
 have l2:=B2.lt
 clear k1
 go_wp2_with fail
 have H0:∀ X:Array Value,Has w w.heap.size (dtc t) (w1.alloc (.cells X 47)).drew:=fun X=>⟨(K1.alloc _).drew,(B1.alloc _).keeps (Keeps.refl _).drew⟩
 have r1:∀ w',Has w w.heap.size (dtc t) w'->∀ k,w'.cell? ⟨w.heap.size,k,none⟩=(dtc t)[k]?:=fun w' h=>h.box.cells
 have hsr:w.heap.size+1≠w1.heap.size:=by omega
 have hsr':w1.heap.size≠w.heap.size+1:=by omega
 have HR:Hid (Blk w1 (w.heap.size+1) (tc Tsk.zero)):=B2
 have HK:Hid (Keeps w w1):=K1
 clear B1 B2 K1
 refine wp_region_held_drew (S:=(fun w'=>Has w w.heap.size (dtc t) w')) (by kernel_rfl) ?_ (fun hHeld => ?_)
 ·exact H0 _
 refine Plan.go [0,1,2,3,4,5,6,7,8,9,10,11,12,13,14] ?_
 iterate 15 (refine qac (by simp only [qab];rfl) (by kernel_rfl) (by exact fun _ _ _ h=>h) (by rfl) (by assumption) (fun w _=>by go_simp;try (with_reducible rfl)) ?_;try simp only [qaa])
 refine Plan.nil ?_
 refine qad 15 (by kernel_rfl) (by simp only [qab];rfl) (fun K hK => ?_)
 skip
 go_simp
 try go_wp2_with fail
 refine hK.out _ _ ?_ (fun hHeld => ?_)
 ·exact H0 _
 clear hK K
 try simp only [qaa]
 refine qan 16 (v := ?_) (by simp only [qab];rfl) (by kernel_rfl) (by exact fun _ _ _ h=>h) (by rfl) (by assumption) ?_ ?_
 rotate_left
 ·(intro w _;go_simp;try (with_reducible rfl))
 try simp only [qaa]
 refine qad 17 (by kernel_rfl) (by simp only [qab];rfl) (fun K hK => ?_)
 skip
 go_simp
 try go_wp2_with fail
 refine hK.out _ _ ?_ (fun hHeld => ?_)
 ·exact H0 _
 clear hK K
 try simp only [qaa]
 refine qan 18 (v := ?_) (by simp only [qab];rfl) (by kernel_rfl) (by exact fun _ _ _ h=>h) (by rfl) (by assumption) ?_ ?_
 rotate_left
 ·(intro w _;go_simp;try (with_reducible rfl))
 try simp only [qaa]
 refine qad 19 (by kernel_rfl) (by simp only [qab];rfl) (fun K hK => ?_)
 skip
 go_simp
 try go_wp2_with fail
 refine hK.out _ _ ?_ (fun hHeld => ?_)
 ·exact H0 _
 clear hK K
 try simp only [qaa]
 refine qan 20 (v := ?_) (by simp only [qab];rfl) (by kernel_rfl) (by exact fun _ _ _ h=>h) (by rfl) (by assumption) ?_ ?_
 rotate_left
 ·(intro w _;go_simp;try (with_reducible rfl))
 try simp only [qaa]
 refine qad 21 (by kernel_rfl) (by simp only [qab];rfl) (fun K hK => ?_)
 skip
 go_simp
 try go_wp2_with fail
 refine hK.out _ _ ?_ (fun hHeld => ?_)
 ·exact H0 _
 clear hK K
 try simp only [qaa]
 refine wpAnyH_done (by kernel_rfl) ?_ _
 clear H0 r1 hHeld
 obtain ⟨_,q1,q2⟩:=HR.out
 go_wp2
 have D:=((HR.out.putC (tc t.asDue).toList rfl).alloc (.cells (tc t.asDue) 47)).keeps (Keeps.refl _).drew
 have K:=((Keeps.putC (b:=w.heap.size+1) (by omega) (tc t.asDue).toList 0 HK.out).alloc (.cells (tc t.asDue) 47)).drew
 change bodyPost _ _ _ _ _ ((putC w1 (w.heap.size+1) 0 (tc t.asDue).toList).alloc (.cells (tc t.asDue) 47)).drew
 generalize ((putC w1 (w.heap.size+1) 0 (tc t.asDue).toList).alloc (.cells (tc t.asDue) 47)).drew=Y at D K ⊢
 exact bodyPost_ret (v:=tk t.asDue) (by simp [results,Tryz.results133,go_sem,D.cells]) rfl ⟨rfl,K⟩
set_option maxHeartbeats 2000000 in
theorem qdi (t:Tsk) (w:World) :
  Calls Tryz.prog 136 #[.agg (ftc t)] w fun e w'=>e = .returned (tk t.asFix) /\ Keeps w w':=by
 go_enter Tryz.func136,Tryz.ntmps136
 go_wp2_with fail
 refine (qfT t _).mono ?_
 rintro e w1 ⟨rfl,k1⟩
 have B1:=((Blk.new w (ftc t) 177).alloc (.cells (tc Tsk.zero) 47)).keeps k1
 have B2:=(Blk.new (w.alloc (.cells (ftc t) 177)) (tc Tsk.zero) 47).keeps k1
 have K1:Keeps w w1:=(((Keeps.refl w).alloc _).alloc _).trans k1
 simp only [World.size_alloc] at B2
 have l1:=B1.lt
 have l2:=B2.lt
 clear k1
 go_wp2_with fail
 have H0:∀ X:Array Value,Has w w.heap.size (ftc t) (w1.alloc (.cells X 47)).drew:=fun X=>⟨(K1.alloc _).drew,(B1.alloc _).keeps (Keeps.refl _).drew⟩
 have r1:∀ w',Has w w.heap.size (ftc t) w'->∀ k,w'.cell? ⟨w.heap.size,k,none⟩=(ftc t)[k]?:=fun w' h=>h.box.cells
 have hsr:w.heap.size+1≠w1.heap.size:=by omega
 have hsr':w1.heap.size≠w.heap.size+1:=by omega
 have HR:Hid (Blk w1 (w.heap.size+1) (tc Tsk.zero)):=B2
 have HK:Hid (Keeps w w1):=K1
 clear B1 B2 K1
 refine wp_region_held_drew (S:=(fun w'=>Has w w.heap.size (ftc t) w')) (by kernel_rfl) ?_ (fun hHeld => ?_)
 ·exact H0 _
 refine Plan.go [0,1,2,3,4,5,6,7,8,9,10,11,12] ?_
 iterate 13 (refine qac (by simp only [qab];rfl) (by kernel_rfl) (by exact fun _ _ _ h=>h) (by rfl) (by assumption) (fun w _=>by go_simp;try (with_reducible rfl)) ?_;try simp only [qaa])
 refine Plan.nil ?_
 refine qad 13 (by kernel_rfl) (by simp only [qab];rfl) (fun K hK => ?_)
 skip
 go_simp
 try go_wp2_with fail
 refine hK.out _ _ ?_ (fun hHeld => ?_)
 ·exact H0 _
 clear hK K
 try simp only [qaa]
 refine qan 14 (v := ?_) (by simp only [qab];rfl) (by kernel_rfl) (by exact fun _ _ _ h=>h) (by rfl) (by assumption) ?_ ?_
 rotate_left
 ·(intro w _;go_simp;try (with_reducible rfl))
 try simp only [qaa]
 refine qad 15 (by kernel_rfl) (by simp only [qab];rfl) (fun K hK => ?_)
 skip
 go_simp
 try go_wp2_with fail
 refine hK.out _ _ ?_ (fun hHeld => ?_)
 ·exact H0 _
 clear hK K
 try simp only [qaa]
 refine qan 16 (v := ?_) (by simp only [qab];rfl) (by kernel_rfl) (by exact fun _ _ _ h=>h) (by rfl) (by assumption) ?_ ?_
 rotate_left
 ·(intro w _;go_simp;try (with_reducible rfl))
 try simp only [qaa]
 refine qad 17 (by kernel_rfl) (by simp only [qab];rfl) (fun K hK => ?_)
 skip
 go_simp
 try go_wp2_with fail
 refine hK.out _ _ ?_ (fun hHeld => ?_)
 ·exact H0 _
 clear hK K
 try simp only [qaa]
 refine qan 18 (v := ?_) (by simp only [qab];rfl) (by kernel_rfl) (by exact fun _ _ _ h=>h) (by rfl) (by assumption) ?_ ?_
 rotate_left
 ·(intro w _;go_simp;try (with_reducible rfl))
 try simp only [qaa]
 refine qad 19 (by kernel_rfl) (by simp only [qab];rfl) (fun K hK => ?_)
 skip
 go_simp
 try go_wp2_with fail
 refine hK.out _ _ ?_ (fun hHeld => ?_)
 ·exact H0 _
 clear hK K
 try simp only [qaa]
 refine wpAnyH_done (by kernel_rfl) ?_ _
 clear H0 r1 hHeld
 obtain ⟨_,q1,q2⟩:=HR.out
 go_wp2
 have D:=((HR.out.putC (tc t.asFix).toList rfl).alloc (.cells (tc t.asFix) 47)).keeps (Keeps.refl _).drew
 have K:=((Keeps.putC (b:=w.heap.size+1) (by omega) (tc t.asFix).toList 0 HK.out).alloc (.cells (tc t.asFix) 47)).drew
 change bodyPost _ _ _ _ _ ((putC w1 (w.heap.size+1) 0 (tc t.asFix).toList).alloc (.cells (tc t.asFix) 47)).drew
 generalize ((putC w1 (w.heap.size+1) 0 (tc t.asFix).toList).alloc (.cells (tc t.asFix) 47)).drew=Y at D K ⊢
 exact bodyPost_ret (v:=tk t.asFix) (by simp [results,Tryz.results136,go_sem,D.cells]) rfl ⟨rfl,K⟩
set_option maxHeartbeats 2000000 in
theorem qdj (t:Tsk) (w:World) :
  Calls Tryz.prog 139 #[.agg (rtc t)] w fun e w'=>e = .returned (tk t.asFair) /\ Keeps w w':=by
 go_enter Tryz.func139,Tryz.ntmps139
 go_wp2_with fail
 refine (qfT t _).mono ?_
 rintro e w1 ⟨rfl,k1⟩
 have B1:=((Blk.new w (rtc t) 129).alloc (.cells (tc Tsk.zero) 47)).keeps k1
 have B2:=(Blk.new (w.alloc (.cells (rtc t) 129)) (tc Tsk.zero) 47).keeps k1
 have K1:Keeps w w1:=(((Keeps.refl w).alloc _).alloc _).trans k1
 simp only [World.size_alloc] at B2
 have l1:=B1.lt
 have l2:=B2.lt
 clear k1
 go_wp2_with fail
 have H0:∀ X:Array Value,Has w w.heap.size (rtc t) (w1.alloc (.cells X 47)).drew:=fun X=>⟨(K1.alloc _).drew,(B1.alloc _).keeps (Keeps.refl _).drew⟩
 have r1:∀ w',Has w w.heap.size (rtc t) w'->∀ k,w'.cell? ⟨w.heap.size,k,none⟩=(rtc t)[k]?:=fun w' h=>h.box.cells
 have hsr:w.heap.size+1≠w1.heap.size:=by omega
 have hsr':w1.heap.size≠w.heap.size+1:=by omega
 have HR:Hid (Blk w1 (w.heap.size+1) (tc Tsk.zero)):=B2
 have HK:Hid (Keeps w w1):=K1
 clear B1 B2 K1
 refine wp_region_held_drew (S:=(fun w'=>Has w w.heap.size (rtc t) w')) (by kernel_rfl) ?_ (fun hHeld => ?_)
 ·exact H0 _
 refine Plan.go [0,1,2,3,4,5,6] ?_
 iterate 7 (refine qac (by simp only [qab];rfl) (by kernel_rfl) (by exact fun _ _ _ h=>h) (by rfl) (by assumption) (fun w _=>by go_simp;try (with_reducible rfl)) ?_;try simp only [qaa])
 refine Plan.nil ?_
 refine qad 7 (by kernel_rfl) (by simp only [qab];rfl) (fun K hK => ?_)
 skip
 go_simp
 try go_wp2_with fail
 refine hK.out _ _ ?_ (fun hHeld => ?_)
 ·exact H0 _
 clear hK K
 try simp only [qaa]
 refine qan 8 (v := ?_) (by simp only [qab];rfl) (by kernel_rfl) (by exact fun _ _ _ h=>h) (by rfl) (by assumption) ?_ ?_
 rotate_left
 ·(intro w _;go_simp;try (with_reducible rfl))
 try simp only [qaa]
 refine qad 9 (by kernel_rfl) (by simp only [qab];rfl) (fun K hK => ?_)
 skip
 go_simp
 try go_wp2_with fail
 refine hK.out _ _ ?_ (fun hHeld => ?_)
 ·exact H0 _
 clear hK K
 try simp only [qaa]
 refine wpAnyH_done (by kernel_rfl) ?_ _
 clear H0 r1 hHeld
 obtain ⟨_,q1,q2⟩:=HR.out
 go_wp2
 have D:=((HR.out.putC (tc t.asFair).toList rfl).alloc (.cells (tc t.asFair) 47)).keeps (Keeps.refl _).drew
 have K:=((Keeps.putC (b:=w.heap.size+1) (by omega) (tc t.asFair).toList 0 HK.out).alloc (.cells (tc t.asFair) 47)).drew
 change bodyPost _ _ _ _ _ ((putC w1 (w.heap.size+1) 0 (tc t.asFair).toList).alloc (.cells (tc t.asFair) 47)).drew
 generalize ((putC w1 (w.heap.size+1) 0 (tc t.asFair).toList).alloc (.cells (tc t.asFair) 47)).drew=Y at D K ⊢
 exact bodyPost_ret (v:=tk t.asFair) (by simp [results,Tryz.results139,go_sem,D.cells]) rfl ⟨rfl,K⟩
end Go.Proofs.YthpdlbcdbncnhaaGreatDoor
