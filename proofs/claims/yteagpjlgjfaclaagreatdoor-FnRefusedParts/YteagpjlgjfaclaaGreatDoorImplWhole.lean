/-
  The program's task of each class, made whole again.
  What a task is: the program's TaskOk.
-/
import Derived.Test.YteagpjlgjfaclaaGreatDoorImplTask
import Derived.Test.YteagpjlgjfaclaaGreatDoorFairList
namespace Go.Proofs.YteagpjlgjfaclaaGreatDoor
set_option maxRecDepth 100000
open Go.RowKit
set_option maxHeartbeats 2000000 in
theorem qcG (t:Tsk) (w:World) :
  Calls Tryz.prog 115 #[.agg (dtc t)] w fun e w'=>e = .returned (tk t.asDue) /\ Keeps w w':=by
 go_enter Tryz.func115,Tryz.ntmps115
 go_wp2_with fail
 refine (qe6 t _).mono ?_
 rintro e w1 ⟨rfl,k1⟩
 have B1:=((Blk.new w (dtc t) 84).alloc (.cells (tc Tsk.zero) 43)).keeps k1
 have B2:=(Blk.new (w.alloc (.cells (dtc t) 84)) (tc Tsk.zero) 43).keeps k1
 have K1:Keeps w w1:=(((Keeps.refl w).alloc _).alloc _).trans k1
 simp only [World.size_alloc] at B2
 have l1:=B1.lt
 have l2:=B2.lt
 clear k1
 go_wp2_with fail
 have H0:∀ X:Array Value,Has w w.heap.size (dtc t) (w1.alloc (.cells X 43)).drew:=fun X=>⟨(K1.alloc _).drew,(B1.alloc _).keeps (Keeps.refl _).drew⟩
 have r1:∀ w',Has w w.heap.size (dtc t) w'->∀ k,w'.cell? ⟨w.heap.size,k,none⟩=(dtc t)[k]?:=fun w' h=>h.box.cells
 have hsr:w.heap.size+1≠w1.heap.size:=by omega
 have hsr':w1.heap.size≠w.heap.size+1:=by omega
 have HR:Hid (Blk w1 (w.heap.size+1) (tc Tsk.zero)):=B2
 have HK:Hid (Keeps w w1):=K1
 clear B1 B2 K1
 refine wp_region_held_drew (S:=(fun w'=>Has w w.heap.size (dtc t) w')) (by kernel_rfl) ?_ (fun hHeld => ?_)
 ·exact H0 _
 refine Plan.go [0,1,2,3,4,5,6,7,8,9,10,11,12,13,14] ?_
 iterate 15 (refine qac (by simp only [qab];rfl) (by kernel_rfl) (by exact fun _ _ _ h=>h) (by rfl) (by assumption) (fun w _=>by go_simp;try (with_reducible rfl)) ?_;try simp only [qaa])
 refine Plan.nil ?_
 refine qad 15 (by kernel_rfl) (by simp only [qab];rfl) (fun K hK => ?_)
 skip
 go_simp
 try go_wp2_with fail
 refine hK.out _ _ ?_ (fun hHeld => ?_)
 ·exact H0 _
 clear hK K
 try simp only [qaa]
 refine qar 16 (v := ?_) (by simp only [qab];rfl) (by kernel_rfl) (by exact fun _ _ _ h=>h) (by rfl) (by assumption) ?_ ?_
 rotate_left
 ·(intro w _;go_simp;try (with_reducible rfl))
 try simp only [qaa]
 refine qad 17 (by kernel_rfl) (by simp only [qab];rfl) (fun K hK => ?_)
 skip
 go_simp
 try go_wp2_with fail
 refine hK.out _ _ ?_ (fun hHeld => ?_)
 ·exact H0 _
 clear hK K
 try simp only [qaa]
 refine qar 18 (v := ?_) (by simp only [qab];rfl) (by kernel_rfl) (by exact fun _ _ _ h=>h) (by rfl) (by assumption) ?_ ?_
 rotate_left
 ·(intro w _;go_simp;try (with_reducible rfl))
 try simp only [qaa]
 refine qad 19 (by kernel_rfl) (by simp only [qab];rfl) (fun K hK => ?_)
 skip
 go_simp
 try go_wp2_with fail
 refine hK.out _ _ ?_ (fun hHeld => ?_)
 ·exact H0 _
 clear hK K
 try simp only [qaa]
 refine qar 20 (v := ?_) (by simp only [qab];rfl) (by kernel_rfl) (by exact fun _ _ _ h=>h) (by rfl) (by assumption) ?_ ?_
 rotate_left
 ·(intro w _;go_simp;try (with_reducible rfl))
 try simp only [qaa]
 refine qad 21 (by kernel_rfl) (by simp only [qab];rfl) (fun K hK => ?_)
 skip
 go_simp
 try go_wp2_with fail
 refine hK.out _ _ ?_ (fun hHeld => ?_)
 ·exact H0 _
 clear hK K
 try simp only [qaa]
 refine wpAnyH_done (by kernel_rfl) ?_ _
 clear H0 r1 hHeld
 obtain ⟨_,q1,q2⟩:=HR.out
 go_wp2
 have D:=((HR.out.putC (tc t.asDue).toList rfl).alloc (.cells (tc t.asDue) 43)).keeps (Keeps.refl _).drew
 have K:=((Keeps.putC (b:=w.heap.size+1) (by omega) (tc t.asDue).toList 0 HK.out).alloc (.cells (tc t.asDue) 43)).drew
 change bodyPost _ _ _ _ _ ((putC w1 (w.heap.size+1) 0 (tc t.asDue).toList).alloc (.cells (tc t.asDue) 43)).drew
 generalize ((putC w1 (w.heap.size+1) 0 (tc t.asDue).toList).alloc (.cells (tc t.asDue) 43)).drew=Y at D K ⊢
 exact bodyPost_ret (v:=tk t.asDue) (by simp [results,Tryz.results115,go_sem,D.cells]) rfl ⟨rfl,K⟩
set_option maxHeartbeats 2000000 in
theorem qdE (t:Tsk) (w:World) :
  Calls Tryz.prog 118 #[.agg (ftc t)] w fun e w'=>e = .returned (tk t.asFix) /\ Keeps w w':=by
 go_enter Tryz.func118,Tryz.ntmps118
 go_wp2_with fail
 refine (qe6 t _).mono ?_
 rintro e w1 ⟨rfl,k1⟩
 have B1:=((Blk.new w (ftc t) 171).alloc (.cells (tc Tsk.zero) 43)).keeps k1
 have B2:=(Blk.new (w.alloc (.cells (ftc t) 171)) (tc Tsk.zero) 43).keeps k1
 have K1:Keeps w w1:=(((Keeps.refl w).alloc _).alloc _).trans k1
 simp only [World.size_alloc] at B2
 have l1:=B1.lt
 have l2:=B2.lt
 clear k1
 go_wp2_with fail
 have H0:∀ X:Array Value,Has w w.heap.size (ftc t) (w1.alloc (.cells X 43)).drew:=fun X=>⟨(K1.alloc _).drew,(B1.alloc _).keeps (Keeps.refl _).drew⟩
 have r1:∀ w',Has w w.heap.size (ftc t) w'->∀ k,w'.cell? ⟨w.heap.size,k,none⟩=(ftc t)[k]?:=fun w' h=>h.box.cells
 have hsr:w.heap.size+1≠w1.heap.size:=by omega
 have hsr':w1.heap.size≠w.heap.size+1:=by omega
 have HR:Hid (Blk w1 (w.heap.size+1) (tc Tsk.zero)):=B2
 have HK:Hid (Keeps w w1):=K1
 clear B1 B2 K1
 refine wp_region_held_drew (S:=(fun w'=>Has w w.heap.size (ftc t) w')) (by kernel_rfl) ?_ (fun hHeld => ?_)
 ·exact H0 _
 refine Plan.go [0,1,2,3,4,5,6,7,8,9,10,11,12] ?_
 iterate 13 (refine qac (by simp only [qab];rfl) (by kernel_rfl) (by exact fun _ _ _ h=>h) (by rfl) (by assumption) (fun w _=>by go_simp;try (with_reducible rfl)) ?_;try simp only [qaa])
 refine Plan.nil ?_
 refine qad 13 (by kernel_rfl) (by simp only [qab];rfl) (fun K hK => ?_)
 skip
 go_simp
 try go_wp2_with fail
 refine hK.out _ _ ?_ (fun hHeld => ?_)
 ·exact H0 _
 clear hK K
 try simp only [qaa]
 refine qar 14 (v := ?_) (by simp only [qab];rfl) (by kernel_rfl) (by exact fun _ _ _ h=>h) (by rfl) (by assumption) ?_ ?_
 rotate_left
 ·(intro w _;go_simp;try (with_reducible rfl))
 try simp only [qaa]
 refine qad 15 (by kernel_rfl) (by simp only [qab];rfl) (fun K hK => ?_)
 skip
 go_simp
 try go_wp2_with fail
 refine hK.out _ _ ?_ (fun hHeld => ?_)
 ·exact H0 _
 clear hK K
 try simp only [qaa]
 refine qar 16 (v := ?_) (by simp only [qab];rfl) (by kernel_rfl) (by exact fun _ _ _ h=>h) (by rfl) (by assumption) ?_ ?_
 rotate_left
 ·(intro w _;go_simp;try (with_reducible rfl))
 try simp only [qaa]
 refine qad 17 (by kernel_rfl) (by simp only [qab];rfl) (fun K hK => ?_)
 skip
 go_simp
 try go_wp2_with fail
 refine hK.out _ _ ?_ (fun hHeld => ?_)
 ·exact H0 _
 clear hK K
 try simp only [qaa]
 refine qar 18 (v := ?_) (by simp only [qab];rfl) (by kernel_rfl) (by exact fun _ _ _ h=>h) (by rfl) (by assumption) ?_ ?_
 rotate_left
 ·(intro w _;go_simp;try (with_reducible rfl))
 try simp only [qaa]
 refine qad 19 (by kernel_rfl) (by simp only [qab];rfl) (fun K hK => ?_)
 skip
 go_simp
 try go_wp2_with fail
 refine hK.out _ _ ?_ (fun hHeld => ?_)
 ·exact H0 _
 clear hK K
 try simp only [qaa]
 refine wpAnyH_done (by kernel_rfl) ?_ _
 clear H0 r1 hHeld
 obtain ⟨_,q1,q2⟩:=HR.out
 go_wp2
 have D:=((HR.out.putC (tc t.asFix).toList rfl).alloc (.cells (tc t.asFix) 43)).keeps (Keeps.refl _).drew
 have K:=((Keeps.putC (b:=w.heap.size+1) (by omega) (tc t.asFix).toList 0 HK.out).alloc (.cells (tc t.asFix) 43)).drew
 change bodyPost _ _ _ _ _ ((putC w1 (w.heap.size+1) 0 (tc t.asFix).toList).alloc (.cells (tc t.asFix) 43)).drew
 generalize ((putC w1 (w.heap.size+1) 0 (tc t.asFix).toList).alloc (.cells (tc t.asFix) 43)).drew=Y at D K ⊢
 exact bodyPost_ret (v:=tk t.asFix) (by simp [results,Tryz.results118,go_sem,D.cells]) rfl ⟨rfl,K⟩
set_option maxHeartbeats 2000000 in
theorem qdF (t:Tsk) (w:World) :
  Calls Tryz.prog 121 #[.agg (rtc t)] w fun e w'=>e = .returned (tk t.asFair) /\ Keeps w w':=by
 go_enter Tryz.func121,Tryz.ntmps121
 go_wp2_with fail
 refine (qe6 t _).mono ?_
 rintro e w1 ⟨rfl,k1⟩
 have B1:=((Blk.new w (rtc t) 176).alloc (.cells (tc Tsk.zero) 43)).keeps k1
 have B2:=(Blk.new (w.alloc (.cells (rtc t) 176)) (tc Tsk.zero) 43).keeps k1
 have K1:Keeps w w1:=(((Keeps.refl w).alloc _).alloc _).trans k1
 simp only [World.size_alloc] at B2
 have l1:=B1.lt
 have l2:=B2.lt
 clear k1
 go_wp2_with fail
 have H0:∀ X:Array Value,Has w w.heap.size (rtc t) (w1.alloc (.cells X 43)).drew:=fun X=>⟨(K1.alloc _).drew,(B1.alloc _).keeps (Keeps.refl _).drew⟩
 have r1:∀ w',Has w w.heap.size (rtc t) w'->∀ k,w'.cell? ⟨w.heap.size,k,none⟩=(rtc t)[k]?:=fun w' h=>h.box.cells
 have hsr:w.heap.size+1≠w1.heap.size:=by omega
 have hsr':w1.heap.size≠w.heap.size+1:=by omega
 have HR:Hid (Blk w1 (w.heap.size+1) (tc Tsk.zero)):=B2
 have HK:Hid (Keeps w w1):=K1
 clear B1 B2 K1
 refine wp_region_held_drew (S:=(fun w'=>Has w w.heap.size (rtc t) w')) (by kernel_rfl) ?_ (fun hHeld => ?_)
 ·exact H0 _
 refine Plan.go [0,1,2,3,4,5,6] ?_
 iterate 7 (refine qac (by simp only [qab];rfl) (by kernel_rfl) (by exact fun _ _ _ h=>h) (by rfl) (by assumption) (fun w _=>by go_simp;try (with_reducible rfl)) ?_;try simp only [qaa])
 refine Plan.nil ?_
 refine qad 7 (by kernel_rfl) (by simp only [qab];rfl) (fun K hK => ?_)
 skip
 go_simp
 try go_wp2_with fail
 refine hK.out _ _ ?_ (fun hHeld => ?_)
 ·exact H0 _
 clear hK K
 try simp only [qaa]
 refine qar 8 (v := ?_) (by simp only [qab];rfl) (by kernel_rfl) (by exact fun _ _ _ h=>h) (by rfl) (by assumption) ?_ ?_
 rotate_left
 ·(intro w _;go_simp;try (with_reducible rfl))
 try simp only [qaa]
 refine qad 9 (by kernel_rfl) (by simp only [qab];rfl) (fun K hK => ?_)
 skip
 go_simp
 try go_wp2_with fail
 refine hK.out _ _ ?_ (fun hHeld => ?_)
 ·exact H0 _
 clear hK K
 try simp only [qaa]
 refine wpAnyH_done (by kernel_rfl) ?_ _
 clear H0 r1 hHeld
 obtain ⟨_,q1,q2⟩:=HR.out
 go_wp2
 have D:=((HR.out.putC (tc t.asFair).toList rfl).alloc (.cells (tc t.asFair) 43)).keeps (Keeps.refl _).drew
 have K:=((Keeps.putC (b:=w.heap.size+1) (by omega) (tc t.asFair).toList 0 HK.out).alloc (.cells (tc t.asFair) 43)).drew
 change bodyPost _ _ _ _ _ ((putC w1 (w.heap.size+1) 0 (tc t.asFair).toList).alloc (.cells (tc t.asFair) 43)).drew
 generalize ((putC w1 (w.heap.size+1) 0 (tc t.asFair).toList).alloc (.cells (tc t.asFair) 43)).drew=Y at D K ⊢
 exact bodyPost_ret (v:=tk t.asFair) (by simp [results,Tryz.results121,go_sem,D.cells]) rfl ⟨rfl,K⟩
end Go.Proofs.YteagpjlgjfaclaaGreatDoor
namespace Go.Proofs.YteagpjlgjfaclaaGreatDoor
set_option maxRecDepth 100000
open Go.RowKit
attribute [local go_sem high] qms
theorem qfb (t:Tsk):qaM t=true↔(1 <= t.no /\ t.no <= 1000) /\ (0 <= t.cpu /\ t.cpu <= 3) /\ (1 <= t.st /\ t.st <= 2):=by
 simp only [qaM,Bool.and_eq_true,Bool.or_eq_true,beq_iff_eq,qas];omega
theorem qks (t:Tsk) (c1:(t.cls==1)=true):qah t=(qaM t&&qbR t&&eqT t.asDue t):=by
 obtain ⟨no,cls,cpu,st,idle,q,p,left,due,prio,round,seq,nice,v⟩:=t
 simp only [beq_iff_eq] at c1
 subst c1
 rw [Bool.eq_iff_iff]
 simp only [Bool.and_eq_true,qfb,qfH]
 simp [qah,qbf,qa1,qbR,fixZ,qby,Tsk.asDue,qas,qbL]
 omega
theorem qkt (t:Tsk) (c2:(t.cls==2)=true):qah t=(qaM t&&qbt t&&eqT t.asFix t):=by
 obtain ⟨no,cls,cpu,st,idle,q,p,left,due,prio,round,seq,nice,v⟩:=t
 simp only [beq_iff_eq] at c2
 subst c2
 rw [Bool.eq_iff_iff]
 simp only [Bool.and_eq_true,qfb,qfH]
 by_cases hr:round=0
 ·subst hr
  simp [qah,qbf,qa1,qbt,qcF,dueZ,qby,Tsk.asFix,qas]
  omega
 ·simp [qah,qbf,qa1,qbt,qcF,dueZ,qby,Tsk.asFix,qas,hr]
  omega
theorem qku (t:Tsk) (c3:(t.cls==3)=true):qah t=(qaM t&&qb9 t&&eqT t.asFair t):=by
 obtain ⟨no,cls,cpu,st,idle,q,p,left,due,prio,round,seq,nice,v⟩:=t
 simp only [beq_iff_eq] at c3
 subst c3
 rw [Bool.eq_iff_iff]
 simp only [Bool.and_eq_true,qfb,qfH]
 simp [qah,qbf,qa1,qb9,dueZ,fixZ,Tsk.asFair,qas]
 omega
theorem qkv (t:Tsk) (c1:(t.cls==1)=false) (c2:(t.cls==2)=false) (c3:(t.cls==3)=false):qah t=false:=by
 have:inB t.cls 1 3=false:=qdj (by simp at c1 c2 c3;omega)
 simp [qah,this]
set_option maxHeartbeats 2000000 in
theorem qkw (t:Tsk) (w:World) (c1:(t.cls==1)=true) :
  Calls Tryz.prog 74 #[tk t] w fun e w'=>e = .returned (.bool (qaM t&&qbR t&&eqT t.asDue t)) /\ Keeps w w':=by
 obtain ⟨N,HN⟩:∃ N,Hid (t.asDue=N):=⟨_,rfl⟩
 go_enter Tryz.func74,Tryz.ntmps74
 go_wp2_with fail
 refine (qgD t _).mono ?_
 rintro e w1 ⟨rfl,k1⟩
 have B1:=(Blk.new w (tc t) 43).keeps k1
 have K1:Keeps w w1:=((Keeps.refl w).alloc _).trans k1
 clear k1
 go_wp2_with fail
 have kW:Keeps w (w1.alloc (.cells (dtc t) 84)):=K1.alloc _
 have r1:∀ w',Keeps (w1.alloc (.cells (dtc t) 84)) w'->∀ k,w'.cell? ⟨w.heap.size,k,none⟩=(tc t)[k]?:=fun w' h=>((B1.alloc _).keeps h).cells
 have r2:=blkR w1 (dtc t) 84
 have K0:=Keeps.refl (w1.alloc (.cells (dtc t) 84))
 clear B1 K1
 generalize w1.alloc (.cells (dtc t) 84)=W at *
 generalize w1.heap.size=s at *
 cases d0:qaM t
 ·skip
  have Hr:Hid ((qaM t&&qbR t&&eqT t.asDue t)=false):=by show _=_;simp [d0]
  refine wp_region_held_drew (S:=(fun w'=>Keeps W w')) (by kernel_rfl) ?_ (fun hHeld => ?_)
  ·exact K0.drew
  refine Plan.go [0,1] ?_
  iterate 2 (refine qac (by simp only [qab];rfl) (by kernel_rfl) (by exact fun _ _ _ h=>h) (by rfl) (by assumption) (fun w _=>by go_simp;try (with_reducible rfl)) ?_;try simp only [qaa])
  refine Plan.nil ?_
  refine qad 2 (by kernel_rfl) (by simp only [qab];rfl) (fun K hK => ?_)
  go_simp
  first
     | (go_at_call 113;refine (qbo t _).mono ?_;rintro e w2 ⟨rfl,k2⟩;rw [d0])
     | (go_at_call 114;refine (qdB t _).mono ?_;rintro e w3 ⟨rfl,k3⟩;rw [d1])
     | (go_at_call 115;refine (qcG t _).mono ?_;rintro e w4 ⟨rfl,k4⟩;rw [HN.out])
  try go_wp2_with fail
  refine hK.out _ _ ?_ (fun hHeld => ?_)
  ·exact Keeps.trans (by assumption) (by assumption)
  clear hK K
  try simp only [qaa]
  refine qar 3 (v := ?_) (by simp only [qab];rfl) (by kernel_rfl) (by exact fun _ _ _ h=>h) (by rfl) (by assumption) ?_ ?_
  rotate_left
  ·(intro w _;go_simp;try (with_reducible rfl))
  try simp only [qaa]
  refine Plan.go [4,5,6] ?_
  iterate 3 (refine qaA (by simp only [qab];rfl) (by kernel_rfl) (by exact fun _ _ _ h=>h) (by rfl) (by assumption) ?_;try simp only [qaa])
  refine Plan.nil ?_
  refine Plan.go [7,8] ?_
  iterate 2 (refine qac (by simp only [qab];rfl) (by kernel_rfl) (by exact fun _ _ _ h=>h) (by rfl) (by assumption) (fun w _=>by go_simp;try (with_reducible rfl)) ?_;try simp only [qaa])
  refine Plan.nil ?_
  refine Plan.go [9,10,11,12] ?_
  iterate 4 (refine qaA (by simp only [qab];rfl) (by kernel_rfl) (by exact fun _ _ _ h=>h) (by rfl) (by assumption) ?_;try simp only [qaa])
  refine Plan.nil ?_
  refine Plan.go [13,14] ?_
  iterate 2 (refine qac (by simp only [qab];rfl) (by kernel_rfl) (by exact fun _ _ _ h=>h) (by rfl) (by assumption) (fun w _=>by go_simp;try (with_reducible rfl)) ?_;try simp only [qaa])
  refine Plan.nil ?_
  refine wpAnyH_done (by kernel_rfl) ?_ _
  go_wp2
  go_ret
  exact ⟨by rw [Hr.out];rfl,kW.trans (by assumption)⟩
 ·cases d1:qbR t
  ·skip
   have Hr:Hid ((qaM t&&qbR t&&eqT t.asDue t)=false):=by show _=_;simp [d1]
   refine wp_region_held_drew (S:=(fun w'=>Keeps W w')) (by kernel_rfl) ?_ (fun hHeld => ?_)
   ·exact K0.drew
   refine Plan.go [0,1] ?_
   iterate 2 (refine qac (by simp only [qab];rfl) (by kernel_rfl) (by exact fun _ _ _ h=>h) (by rfl) (by assumption) (fun w _=>by go_simp;try (with_reducible rfl)) ?_;try simp only [qaa])
   refine Plan.nil ?_
   refine qad 2 (by kernel_rfl) (by simp only [qab];rfl) (fun K hK => ?_)
   go_simp
   first
      | (go_at_call 113;refine (qbo t _).mono ?_;rintro e w2 ⟨rfl,k2⟩;rw [d0])
      | (go_at_call 114;refine (qdB t _).mono ?_;rintro e w3 ⟨rfl,k3⟩;rw [d1])
      | (go_at_call 115;refine (qcG t _).mono ?_;rintro e w4 ⟨rfl,k4⟩;rw [HN.out])
   try go_wp2_with fail
   refine hK.out _ _ ?_ (fun hHeld => ?_)
   ·exact Keeps.trans (by assumption) (by assumption)
   clear hK K
   try simp only [qaa]
   refine Plan.go [3,4,5] ?_
   iterate 3 (refine qac (by simp only [qab];rfl) (by kernel_rfl) (by exact fun _ _ _ h=>h) (by rfl) (by assumption) (fun w _=>by go_simp;try (with_reducible rfl)) ?_;try simp only [qaa])
   refine Plan.nil ?_
   refine qad 6 (by kernel_rfl) (by simp only [qab];rfl) (fun K hK => ?_)
   go_simp
   first
      | (go_at_call 113;refine (qbo t _).mono ?_;rintro e w2 ⟨rfl,k2⟩;rw [d0])
      | (go_at_call 114;refine (qdB t _).mono ?_;rintro e w3 ⟨rfl,k3⟩;rw [d1])
      | (go_at_call 115;refine (qcG t _).mono ?_;rintro e w4 ⟨rfl,k4⟩;rw [HN.out])
   try go_wp2_with fail
   refine hK.out _ _ ?_ (fun hHeld => ?_)
   ·exact Keeps.trans (by assumption) (by assumption)
   clear hK K
   try simp only [qaa]
   refine Plan.go [7,8] ?_
   iterate 2 (refine qac (by simp only [qab];rfl) (by kernel_rfl) (by exact fun _ _ _ h=>h) (by rfl) (by assumption) (fun w _=>by go_simp;try (with_reducible rfl)) ?_;try simp only [qaa])
   refine Plan.nil ?_
   refine Plan.go [9,10,11,12] ?_
   iterate 4 (refine qaA (by simp only [qab];rfl) (by kernel_rfl) (by exact fun _ _ _ h=>h) (by rfl) (by assumption) ?_;try simp only [qaa])
   refine Plan.nil ?_
   refine Plan.go [13,14] ?_
   iterate 2 (refine qac (by simp only [qab];rfl) (by kernel_rfl) (by exact fun _ _ _ h=>h) (by rfl) (by assumption) (fun w _=>by go_simp;try (with_reducible rfl)) ?_;try simp only [qaa])
   refine Plan.nil ?_
   refine wpAnyH_done (by kernel_rfl) ?_ _
   go_wp2
   go_ret
   exact ⟨by rw [Hr.out];rfl,kW.trans (by assumption)⟩
  ·skip
   have Hr:Hid ((qaM t&&qbR t&&eqT t.asDue t)=eqT t.asDue t):=by show _=_;simp [d0,d1]
   refine wp_region_held_drew (S:=(fun w'=>Keeps W w')) (by kernel_rfl) ?_ (fun hHeld => ?_)
   ·exact K0.drew
   refine Plan.go [0,1] ?_
   iterate 2 (refine qac (by simp only [qab];rfl) (by kernel_rfl) (by exact fun _ _ _ h=>h) (by rfl) (by assumption) (fun w _=>by go_simp;try (with_reducible rfl)) ?_;try simp only [qaa])
   refine Plan.nil ?_
   refine qad 2 (by kernel_rfl) (by simp only [qab];rfl) (fun K hK => ?_)
   go_simp
   first
      | (go_at_call 113;refine (qbo t _).mono ?_;rintro e w2 ⟨rfl,k2⟩;rw [d0])
      | (go_at_call 114;refine (qdB t _).mono ?_;rintro e w3 ⟨rfl,k3⟩;rw [d1])
      | (go_at_call 115;refine (qcG t _).mono ?_;rintro e w4 ⟨rfl,k4⟩;rw [HN.out])
   try go_wp2_with fail
   refine hK.out _ _ ?_ (fun hHeld => ?_)
   ·exact Keeps.trans (by assumption) (by assumption)
   clear hK K
   try simp only [qaa]
   refine Plan.go [3,4,5] ?_
   iterate 3 (refine qac (by simp only [qab];rfl) (by kernel_rfl) (by exact fun _ _ _ h=>h) (by rfl) (by assumption) (fun w _=>by go_simp;try (with_reducible rfl)) ?_;try simp only [qaa])
   refine Plan.nil ?_
   refine qad 6 (by kernel_rfl) (by simp only [qab];rfl) (fun K hK => ?_)
   go_simp
   first
      | (go_at_call 113;refine (qbo t _).mono ?_;rintro e w2 ⟨rfl,k2⟩;rw [d0])
      | (go_at_call 114;refine (qdB t _).mono ?_;rintro e w3 ⟨rfl,k3⟩;rw [d1])
      | (go_at_call 115;refine (qcG t _).mono ?_;rintro e w4 ⟨rfl,k4⟩;rw [HN.out])
   try go_wp2_with fail
   refine hK.out _ _ ?_ (fun hHeld => ?_)
   ·exact Keeps.trans (by assumption) (by assumption)
   clear hK K
   try simp only [qaa]
   refine Plan.go [7,8,9,11] ?_
   iterate 4 (refine qac (by simp only [qab];rfl) (by kernel_rfl) (by exact fun _ _ _ h=>h) (by rfl) (by assumption) (fun w _=>by go_simp;try (with_reducible rfl)) ?_;try simp only [qaa])
   refine Plan.nil ?_
   refine qad 10 (by kernel_rfl) (by simp only [qab];rfl) (fun K hK => ?_)
   go_simp
   first
      | (go_at_call 113;refine (qbo t _).mono ?_;rintro e w2 ⟨rfl,k2⟩;rw [d0])
      | (go_at_call 114;refine (qdB t _).mono ?_;rintro e w3 ⟨rfl,k3⟩;rw [d1])
      | (go_at_call 115;refine (qcG t _).mono ?_;rintro e w4 ⟨rfl,k4⟩;rw [HN.out])
   try go_wp2_with fail
   refine hK.out _ _ ?_ (fun hHeld => ?_)
   ·exact Keeps.trans (by assumption) (by assumption)
   clear hK K
   try simp only [qaa]
   refine Plan.go [12,13,14] ?_
   iterate 3 (refine qac (by simp only [qab];rfl) (by kernel_rfl) (by exact fun _ _ _ h=>h) (by rfl) (by assumption) (fun w _=>by go_simp;try (with_reducible rfl)) ?_;try simp only [qaa])
   refine Plan.nil ?_
   refine wpAnyH_done (by kernel_rfl) ?_ _
   go_wp2
   go_ret
   exact ⟨by rw [Hr.out];rw [HN.out];rfl,kW.trans (by assumption)⟩
set_option maxHeartbeats 2000000 in
theorem qkx (t:Tsk) (w:World) (c1:(t.cls==1)=false) (c2:(t.cls==2)=true) :
  Calls Tryz.prog 74 #[tk t] w fun e w'=>e = .returned (.bool (qaM t&&qbt t&&eqT t.asFix t)) /\ Keeps w w':=by
 obtain ⟨N,HN⟩:∃ N,Hid (t.asFix=N):=⟨_,rfl⟩
 go_enter Tryz.func74,Tryz.ntmps74
 go_wp2_with fail
 refine (qkq t _).mono ?_
 rintro e w1 ⟨rfl,k1⟩
 have B1:=(Blk.new w (tc t) 43).keeps k1
 have K1:Keeps w w1:=((Keeps.refl w).alloc _).trans k1
 clear k1
 go_wp2_with fail
 have kW:Keeps w (w1.alloc (.cells (ftc t) 171)):=K1.alloc _
 have r1:∀ w',Keeps (w1.alloc (.cells (ftc t) 171)) w'->∀ k,w'.cell? ⟨w.heap.size,k,none⟩=(tc t)[k]?:=fun w' h=>((B1.alloc _).keeps h).cells
 have r2:=blkR w1 (ftc t) 171
 have K0:=Keeps.refl (w1.alloc (.cells (ftc t) 171))
 clear B1 K1
 generalize w1.alloc (.cells (ftc t) 171)=W at *
 generalize w1.heap.size=s at *
 cases d0:qaM t
 ·skip
  have Hr:Hid ((qaM t&&qbt t&&eqT t.asFix t)=false):=by show _=_;simp [d0]
  refine wp_region_held_drew (S:=(fun w'=>Keeps W w')) (by kernel_rfl) ?_ (fun hHeld => ?_)
  ·exact K0.drew
  refine Plan.go [0,1] ?_
  iterate 2 (refine qac (by simp only [qab];rfl) (by kernel_rfl) (by exact fun _ _ _ h=>h) (by rfl) (by assumption) (fun w _=>by go_simp;try (with_reducible rfl)) ?_;try simp only [qaa])
  refine Plan.nil ?_
  refine qad 2 (by kernel_rfl) (by simp only [qab];rfl) (fun K hK => ?_)
  go_simp
  first
     | (go_at_call 113;refine (qbo t _).mono ?_;rintro e w2 ⟨rfl,k2⟩;rw [d0])
     | (go_at_call 117;refine (qdC t _).mono ?_;rintro e w3 ⟨rfl,k3⟩;rw [d1])
     | (go_at_call 118;refine (qdE t _).mono ?_;rintro e w4 ⟨rfl,k4⟩;rw [HN.out])
  try go_wp2_with fail
  refine hK.out _ _ ?_ (fun hHeld => ?_)
  ·exact Keeps.trans (by assumption) (by assumption)
  clear hK K
  try simp only [qaa]
  refine qar 3 (v := ?_) (by simp only [qab];rfl) (by kernel_rfl) (by exact fun _ _ _ h=>h) (by rfl) (by assumption) ?_ ?_
  rotate_left
  ·(intro w _;go_simp;try (with_reducible rfl))
  try simp only [qaa]
  refine Plan.go [4,5,6] ?_
  iterate 3 (refine qaA (by simp only [qab];rfl) (by kernel_rfl) (by exact fun _ _ _ h=>h) (by rfl) (by assumption) ?_;try simp only [qaa])
  refine Plan.nil ?_
  refine Plan.go [7,8] ?_
  iterate 2 (refine qac (by simp only [qab];rfl) (by kernel_rfl) (by exact fun _ _ _ h=>h) (by rfl) (by assumption) (fun w _=>by go_simp;try (with_reducible rfl)) ?_;try simp only [qaa])
  refine Plan.nil ?_
  refine Plan.go [9,10,11,12] ?_
  iterate 4 (refine qaA (by simp only [qab];rfl) (by kernel_rfl) (by exact fun _ _ _ h=>h) (by rfl) (by assumption) ?_;try simp only [qaa])
  refine Plan.nil ?_
  refine Plan.go [13,14] ?_
  iterate 2 (refine qac (by simp only [qab];rfl) (by kernel_rfl) (by exact fun _ _ _ h=>h) (by rfl) (by assumption) (fun w _=>by go_simp;try (with_reducible rfl)) ?_;try simp only [qaa])
  refine Plan.nil ?_
  refine wpAnyH_done (by kernel_rfl) ?_ _
  go_wp2
  go_ret
  exact ⟨by rw [Hr.out];rfl,kW.trans (by assumption)⟩
 ·cases d1:qbt t
  ·skip
   have Hr:Hid ((qaM t&&qbt t&&eqT t.asFix t)=false):=by show _=_;simp [d1]
   refine wp_region_held_drew (S:=(fun w'=>Keeps W w')) (by kernel_rfl) ?_ (fun hHeld => ?_)
   ·exact K0.drew
   refine Plan.go [0,1] ?_
   iterate 2 (refine qac (by simp only [qab];rfl) (by kernel_rfl) (by exact fun _ _ _ h=>h) (by rfl) (by assumption) (fun w _=>by go_simp;try (with_reducible rfl)) ?_;try simp only [qaa])
   refine Plan.nil ?_
   refine qad 2 (by kernel_rfl) (by simp only [qab];rfl) (fun K hK => ?_)
   go_simp
   first
      | (go_at_call 113;refine (qbo t _).mono ?_;rintro e w2 ⟨rfl,k2⟩;rw [d0])
      | (go_at_call 117;refine (qdC t _).mono ?_;rintro e w3 ⟨rfl,k3⟩;rw [d1])
      | (go_at_call 118;refine (qdE t _).mono ?_;rintro e w4 ⟨rfl,k4⟩;rw [HN.out])
   try go_wp2_with fail
   refine hK.out _ _ ?_ (fun hHeld => ?_)
   ·exact Keeps.trans (by assumption) (by assumption)
   clear hK K
   try simp only [qaa]
   refine Plan.go [3,4,5] ?_
   iterate 3 (refine qac (by simp only [qab];rfl) (by kernel_rfl) (by exact fun _ _ _ h=>h) (by rfl) (by assumption) (fun w _=>by go_simp;try (with_reducible rfl)) ?_;try simp only [qaa])
   refine Plan.nil ?_
   refine qad 6 (by kernel_rfl) (by simp only [qab];rfl) (fun K hK => ?_)
   go_simp
   first
      | (go_at_call 113;refine (qbo t _).mono ?_;rintro e w2 ⟨rfl,k2⟩;rw [d0])
      | (go_at_call 117;refine (qdC t _).mono ?_;rintro e w3 ⟨rfl,k3⟩;rw [d1])
      | (go_at_call 118;refine (qdE t _).mono ?_;rintro e w4 ⟨rfl,k4⟩;rw [HN.out])
   try go_wp2_with fail
   refine hK.out _ _ ?_ (fun hHeld => ?_)
   ·exact Keeps.trans (by assumption) (by assumption)
   clear hK K
   try simp only [qaa]
   refine Plan.go [7,8] ?_
   iterate 2 (refine qac (by simp only [qab];rfl) (by kernel_rfl) (by exact fun _ _ _ h=>h) (by rfl) (by assumption) (fun w _=>by go_simp;try (with_reducible rfl)) ?_;try simp only [qaa])
   refine Plan.nil ?_
   refine Plan.go [9,10,11,12] ?_
   iterate 4 (refine qaA (by simp only [qab];rfl) (by kernel_rfl) (by exact fun _ _ _ h=>h) (by rfl) (by assumption) ?_;try simp only [qaa])
   refine Plan.nil ?_
   refine Plan.go [13,14] ?_
   iterate 2 (refine qac (by simp only [qab];rfl) (by kernel_rfl) (by exact fun _ _ _ h=>h) (by rfl) (by assumption) (fun w _=>by go_simp;try (with_reducible rfl)) ?_;try simp only [qaa])
   refine Plan.nil ?_
   refine wpAnyH_done (by kernel_rfl) ?_ _
   go_wp2
   go_ret
   exact ⟨by rw [Hr.out];rfl,kW.trans (by assumption)⟩
  ·skip
   have Hr:Hid ((qaM t&&qbt t&&eqT t.asFix t)=eqT t.asFix t):=by show _=_;simp [d0,d1]
   refine wp_region_held_drew (S:=(fun w'=>Keeps W w')) (by kernel_rfl) ?_ (fun hHeld => ?_)
   ·exact K0.drew
   refine Plan.go [0,1] ?_
   iterate 2 (refine qac (by simp only [qab];rfl) (by kernel_rfl) (by exact fun _ _ _ h=>h) (by rfl) (by assumption) (fun w _=>by go_simp;try (with_reducible rfl)) ?_;try simp only [qaa])
   refine Plan.nil ?_
   refine qad 2 (by kernel_rfl) (by simp only [qab];rfl) (fun K hK => ?_)
   go_simp
   first
      | (go_at_call 113;refine (qbo t _).mono ?_;rintro e w2 ⟨rfl,k2⟩;rw [d0])
      | (go_at_call 117;refine (qdC t _).mono ?_;rintro e w3 ⟨rfl,k3⟩;rw [d1])
      | (go_at_call 118;refine (qdE t _).mono ?_;rintro e w4 ⟨rfl,k4⟩;rw [HN.out])
   try go_wp2_with fail
   refine hK.out _ _ ?_ (fun hHeld => ?_)
   ·exact Keeps.trans (by assumption) (by assumption)
   clear hK K
   try simp only [qaa]
   refine Plan.go [3,4,5] ?_
   iterate 3 (refine qac (by simp only [qab];rfl) (by kernel_rfl) (by exact fun _ _ _ h=>h) (by rfl) (by assumption) (fun w _=>by go_simp;try (with_reducible rfl)) ?_;try simp only [qaa])
   refine Plan.nil ?_
   refine qad 6 (by kernel_rfl) (by simp only [qab];rfl) (fun K hK => ?_)
   go_simp
   first
      | (go_at_call 113;refine (qbo t _).mono ?_;rintro e w2 ⟨rfl,k2⟩;rw [d0])
      | (go_at_call 117;refine (qdC t _).mono ?_;rintro e w3 ⟨rfl,k3⟩;rw [d1])
      | (go_at_call 118;refine (qdE t _).mono ?_;rintro e w4 ⟨rfl,k4⟩;rw [HN.out])
   try go_wp2_with fail
   refine hK.out _ _ ?_ (fun hHeld => ?_)
   ·exact Keeps.trans (by assumption) (by assumption)
   clear hK K
   try simp only [qaa]
   refine Plan.go [7,8,9,11] ?_
   iterate 4 (refine qac (by simp only [qab];rfl) (by kernel_rfl) (by exact fun _ _ _ h=>h) (by rfl) (by assumption) (fun w _=>by go_simp;try (with_reducible rfl)) ?_;try simp only [qaa])
   refine Plan.nil ?_
   refine qad 10 (by kernel_rfl) (by simp only [qab];rfl) (fun K hK => ?_)
   go_simp
   first
      | (go_at_call 113;refine (qbo t _).mono ?_;rintro e w2 ⟨rfl,k2⟩;rw [d0])
      | (go_at_call 117;refine (qdC t _).mono ?_;rintro e w3 ⟨rfl,k3⟩;rw [d1])
      | (go_at_call 118;refine (qdE t _).mono ?_;rintro e w4 ⟨rfl,k4⟩;rw [HN.out])
   try go_wp2_with fail
   refine hK.out _ _ ?_ (fun hHeld => ?_)
   ·exact Keeps.trans (by assumption) (by assumption)
   clear hK K
   try simp only [qaa]
   refine Plan.go [12,13,14] ?_
   iterate 3 (refine qac (by simp only [qab];rfl) (by kernel_rfl) (by exact fun _ _ _ h=>h) (by rfl) (by assumption) (fun w _=>by go_simp;try (with_reducible rfl)) ?_;try simp only [qaa])
   refine Plan.nil ?_
   refine wpAnyH_done (by kernel_rfl) ?_ _
   go_wp2
   go_ret
   exact ⟨by rw [Hr.out];rw [HN.out];rfl,kW.trans (by assumption)⟩
set_option maxHeartbeats 2000000 in
theorem qky (t:Tsk) (w:World) (c1:(t.cls==1)=false) (c2:(t.cls==2)=false) (c3:(t.cls==3)=true) :
  Calls Tryz.prog 74 #[tk t] w fun e w'=>e = .returned (.bool (qaM t&&qb9 t&&eqT t.asFair t)) /\ Keeps w w':=by
 obtain ⟨N,HN⟩:∃ N,Hid (t.asFair=N):=⟨_,rfl⟩
 go_enter Tryz.func74,Tryz.ntmps74
 go_wp2_with fail
 refine (qkr t _).mono ?_
 rintro e w1 ⟨rfl,k1⟩
 have B1:=(Blk.new w (tc t) 43).keeps k1
 have K1:Keeps w w1:=((Keeps.refl w).alloc _).trans k1
 clear k1
 go_wp2_with fail
 have kW:Keeps w (w1.alloc (.cells (rtc t) 176)):=K1.alloc _
 have r1:∀ w',Keeps (w1.alloc (.cells (rtc t) 176)) w'->∀ k,w'.cell? ⟨w.heap.size,k,none⟩=(tc t)[k]?:=fun w' h=>((B1.alloc _).keeps h).cells
 have r2:=blkR w1 (rtc t) 176
 have K0:=Keeps.refl (w1.alloc (.cells (rtc t) 176))
 clear B1 K1
 generalize w1.alloc (.cells (rtc t) 176)=W at *
 generalize w1.heap.size=s at *
 cases d0:qaM t
 ·skip
  have Hr:Hid ((qaM t&&qb9 t&&eqT t.asFair t)=false):=by show _=_;simp [d0]
  refine wp_region_held_drew (S:=(fun w'=>Keeps W w')) (by kernel_rfl) ?_ (fun hHeld => ?_)
  ·exact K0.drew
  refine Plan.go [0,1] ?_
  iterate 2 (refine qac (by simp only [qab];rfl) (by kernel_rfl) (by exact fun _ _ _ h=>h) (by rfl) (by assumption) (fun w _=>by go_simp;try (with_reducible rfl)) ?_;try simp only [qaa])
  refine Plan.nil ?_
  refine qad 2 (by kernel_rfl) (by simp only [qab];rfl) (fun K hK => ?_)
  go_simp
  first
     | (go_at_call 113;refine (qbo t _).mono ?_;rintro e w2 ⟨rfl,k2⟩;rw [d0])
     | (go_at_call 120;refine (qdD t _).mono ?_;rintro e w3 ⟨rfl,k3⟩;rw [d1])
     | (go_at_call 121;refine (qdF t _).mono ?_;rintro e w4 ⟨rfl,k4⟩;rw [HN.out])
  try go_wp2_with fail
  refine hK.out _ _ ?_ (fun hHeld => ?_)
  ·exact Keeps.trans (by assumption) (by assumption)
  clear hK K
  try simp only [qaa]
  refine qar 3 (v := ?_) (by simp only [qab];rfl) (by kernel_rfl) (by exact fun _ _ _ h=>h) (by rfl) (by assumption) ?_ ?_
  rotate_left
  ·(intro w _;go_simp;try (with_reducible rfl))
  try simp only [qaa]
  refine Plan.go [4,5,6] ?_
  iterate 3 (refine qaA (by simp only [qab];rfl) (by kernel_rfl) (by exact fun _ _ _ h=>h) (by rfl) (by assumption) ?_;try simp only [qaa])
  refine Plan.nil ?_
  refine Plan.go [7,8] ?_
  iterate 2 (refine qac (by simp only [qab];rfl) (by kernel_rfl) (by exact fun _ _ _ h=>h) (by rfl) (by assumption) (fun w _=>by go_simp;try (with_reducible rfl)) ?_;try simp only [qaa])
  refine Plan.nil ?_
  refine Plan.go [9,10,11,12] ?_
  iterate 4 (refine qaA (by simp only [qab];rfl) (by kernel_rfl) (by exact fun _ _ _ h=>h) (by rfl) (by assumption) ?_;try simp only [qaa])
  refine Plan.nil ?_
  refine Plan.go [13,14] ?_
  iterate 2 (refine qac (by simp only [qab];rfl) (by kernel_rfl) (by exact fun _ _ _ h=>h) (by rfl) (by assumption) (fun w _=>by go_simp;try (with_reducible rfl)) ?_;try simp only [qaa])
  refine Plan.nil ?_
  refine wpAnyH_done (by kernel_rfl) ?_ _
  go_wp2
  go_ret
  exact ⟨by rw [Hr.out];rfl,kW.trans (by assumption)⟩
 ·cases d1:qb9 t
  ·skip
   have Hr:Hid ((qaM t&&qb9 t&&eqT t.asFair t)=false):=by show _=_;simp [d1]
   refine wp_region_held_drew (S:=(fun w'=>Keeps W w')) (by kernel_rfl) ?_ (fun hHeld => ?_)
   ·exact K0.drew
   refine Plan.go [0,1] ?_
   iterate 2 (refine qac (by simp only [qab];rfl) (by kernel_rfl) (by exact fun _ _ _ h=>h) (by rfl) (by assumption) (fun w _=>by go_simp;try (with_reducible rfl)) ?_;try simp only [qaa])
   refine Plan.nil ?_
   refine qad 2 (by kernel_rfl) (by simp only [qab];rfl) (fun K hK => ?_)
   go_simp
   first
      | (go_at_call 113;refine (qbo t _).mono ?_;rintro e w2 ⟨rfl,k2⟩;rw [d0])
      | (go_at_call 120;refine (qdD t _).mono ?_;rintro e w3 ⟨rfl,k3⟩;rw [d1])
      | (go_at_call 121;refine (qdF t _).mono ?_;rintro e w4 ⟨rfl,k4⟩;rw [HN.out])
   try go_wp2_with fail
   refine hK.out _ _ ?_ (fun hHeld => ?_)
   ·exact Keeps.trans (by assumption) (by assumption)
   clear hK K
   try simp only [qaa]
   refine Plan.go [3,4,5] ?_
   iterate 3 (refine qac (by simp only [qab];rfl) (by kernel_rfl) (by exact fun _ _ _ h=>h) (by rfl) (by assumption) (fun w _=>by go_simp;try (with_reducible rfl)) ?_;try simp only [qaa])
   refine Plan.nil ?_
   refine qad 6 (by kernel_rfl) (by simp only [qab];rfl) (fun K hK => ?_)
   go_simp
   first
      | (go_at_call 113;refine (qbo t _).mono ?_;rintro e w2 ⟨rfl,k2⟩;rw [d0])
      | (go_at_call 120;refine (qdD t _).mono ?_;rintro e w3 ⟨rfl,k3⟩;rw [d1])
      | (go_at_call 121;refine (qdF t _).mono ?_;rintro e w4 ⟨rfl,k4⟩;rw [HN.out])
   try go_wp2_with fail
   refine hK.out _ _ ?_ (fun hHeld => ?_)
   ·exact Keeps.trans (by assumption) (by assumption)
   clear hK K
   try simp only [qaa]
   refine Plan.go [7,8] ?_
   iterate 2 (refine qac (by simp only [qab];rfl) (by kernel_rfl) (by exact fun _ _ _ h=>h) (by rfl) (by assumption) (fun w _=>by go_simp;try (with_reducible rfl)) ?_;try simp only [qaa])
   refine Plan.nil ?_
   refine Plan.go [9,10,11,12] ?_
   iterate 4 (refine qaA (by simp only [qab];rfl) (by kernel_rfl) (by exact fun _ _ _ h=>h) (by rfl) (by assumption) ?_;try simp only [qaa])
   refine Plan.nil ?_
   refine Plan.go [13,14] ?_
   iterate 2 (refine qac (by simp only [qab];rfl) (by kernel_rfl) (by exact fun _ _ _ h=>h) (by rfl) (by assumption) (fun w _=>by go_simp;try (with_reducible rfl)) ?_;try simp only [qaa])
   refine Plan.nil ?_
   refine wpAnyH_done (by kernel_rfl) ?_ _
   go_wp2
   go_ret
   exact ⟨by rw [Hr.out];rfl,kW.trans (by assumption)⟩
  ·skip
   have Hr:Hid ((qaM t&&qb9 t&&eqT t.asFair t)=eqT t.asFair t):=by show _=_;simp [d0,d1]
   refine wp_region_held_drew (S:=(fun w'=>Keeps W w')) (by kernel_rfl) ?_ (fun hHeld => ?_)
   ·exact K0.drew
   refine Plan.go [0,1] ?_
   iterate 2 (refine qac (by simp only [qab];rfl) (by kernel_rfl) (by exact fun _ _ _ h=>h) (by rfl) (by assumption) (fun w _=>by go_simp;try (with_reducible rfl)) ?_;try simp only [qaa])
   refine Plan.nil ?_
   refine qad 2 (by kernel_rfl) (by simp only [qab];rfl) (fun K hK => ?_)
   go_simp
   first
      | (go_at_call 113;refine (qbo t _).mono ?_;rintro e w2 ⟨rfl,k2⟩;rw [d0])
      | (go_at_call 120;refine (qdD t _).mono ?_;rintro e w3 ⟨rfl,k3⟩;rw [d1])
      | (go_at_call 121;refine (qdF t _).mono ?_;rintro e w4 ⟨rfl,k4⟩;rw [HN.out])
   try go_wp2_with fail
   refine hK.out _ _ ?_ (fun hHeld => ?_)
   ·exact Keeps.trans (by assumption) (by assumption)
   clear hK K
   try simp only [qaa]
   refine Plan.go [3,4,5] ?_
   iterate 3 (refine qac (by simp only [qab];rfl) (by kernel_rfl) (by exact fun _ _ _ h=>h) (by rfl) (by assumption) (fun w _=>by go_simp;try (with_reducible rfl)) ?_;try simp only [qaa])
   refine Plan.nil ?_
   refine qad 6 (by kernel_rfl) (by simp only [qab];rfl) (fun K hK => ?_)
   go_simp
   first
      | (go_at_call 113;refine (qbo t _).mono ?_;rintro e w2 ⟨rfl,k2⟩;rw [d0])
      | (go_at_call 120;refine (qdD t _).mono ?_;rintro e w3 ⟨rfl,k3⟩;rw [d1])
      | (go_at_call 121;refine (qdF t _).mono ?_;rintro e w4 ⟨rfl,k4⟩;rw [HN.out])
   try go_wp2_with fail
   refine hK.out _ _ ?_ (fun hHeld => ?_)
   ·exact Keeps.trans (by assumption) (by assumption)
   clear hK K
   try simp only [qaa]
   refine Plan.go [7,8,9,11] ?_
   iterate 4 (refine qac (by simp only [qab];rfl) (by kernel_rfl) (by exact fun _ _ _ h=>h) (by rfl) (by assumption) (fun w _=>by go_simp;try (with_reducible rfl)) ?_;try simp only [qaa])
   refine Plan.nil ?_
   refine qad 10 (by kernel_rfl) (by simp only [qab];rfl) (fun K hK => ?_)
   go_simp
   first
      | (go_at_call 113;refine (qbo t _).mono ?_;rintro e w2 ⟨rfl,k2⟩;rw [d0])
      | (go_at_call 120;refine (qdD t _).mono ?_;rintro e w3 ⟨rfl,k3⟩;rw [d1])
      | (go_at_call 121;refine (qdF t _).mono ?_;rintro e w4 ⟨rfl,k4⟩;rw [HN.out])
   try go_wp2_with fail
   refine hK.out _ _ ?_ (fun hHeld => ?_)
   ·exact Keeps.trans (by assumption) (by assumption)
   clear hK K
   try simp only [qaa]
   refine Plan.go [12,13,14] ?_
   iterate 3 (refine qac (by simp only [qab];rfl) (by kernel_rfl) (by exact fun _ _ _ h=>h) (by rfl) (by assumption) (fun w _=>by go_simp;try (with_reducible rfl)) ?_;try simp only [qaa])
   refine Plan.nil ?_
   refine wpAnyH_done (by kernel_rfl) ?_ _
   go_wp2
   go_ret
   exact ⟨by rw [Hr.out];rw [HN.out];rfl,kW.trans (by assumption)⟩
theorem qd4:qmu:=by
 intro t w
 cases c1:(t.cls==1)
 ·cases c2:(t.cls==2)
  ·cases c3:(t.cls==3)
   ·have Hr:Hid (qah t=false):=qkv t c1 c2 c3
    go_enter Tryz.func74,Tryz.ntmps74
    go_wp2
    go_ret
    exact ⟨by rw [Hr.out];rfl,(Keeps.refl _).alloc _⟩
   ·rw [qku t c3];exact qky t w c1 c2 c3
  ·rw [qkt t c2];exact qkx t w c1 c2
 ·rw [qks t c1];exact qkw t w c1
end Go.Proofs.YteagpjlgjfaclaaGreatDoor
