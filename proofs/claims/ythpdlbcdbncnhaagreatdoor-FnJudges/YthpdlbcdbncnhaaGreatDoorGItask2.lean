/-
  What a task is: the program's TaskOk. Weights and steps: th
-/
import Derived.Test.YthpdlbcdbncnhaaGreatDoorImplWhole
import Derived.Test.YthpdlbcdbncnhaaGreatDoorGTask3
import Derived.Test.YthpdlbcdbncnhaaGreatDoorGTask4
import Derived.Test.YthpdlbcdbncnhaaGreatDoorGTask2
import Derived.Test.YthpdlbcdbncnhaaGreatDoorGBase1
namespace Go.Proofs.YthpdlbcdbncnhaaGreatDoor
set_option maxRecDepth 100000
open Go.RowKit
attribute [local go_sem high] qof
theorem qfU (t:Tsk):qaO t=true↔(1 <= t.no /\ t.no <= 1000) /\ (0 <= t.cpu /\ t.cpu <= 3) /\ (1 <= t.st /\ t.st <= 2):=by
 simp only [qaO,Bool.and_eq_true,Bool.or_eq_true,beq_iff_eq,qap];omega
theorem qhD (t:Tsk) (c1:(t.cls==1)=true):qae t=(qaO t&&qbZ t&&eqT t.asDue t):=by
 obtain ⟨no,cls,cpu,st,idle,q,p,left,due,prio,round,seq,nice,v⟩:=t
 simp only [beq_iff_eq] at c1
 subst c1
 rw [Bool.eq_iff_iff]
 simp only [Bool.and_eq_true,qfU,qel]
 simp [qae,qbp,qba,qbZ,fixZ,qbP,Tsk.asDue,qap,qcG]
 omega
theorem qhE (t:Tsk) (c2:(t.cls==2)=true):qae t=(qaO t&&qbC t&&eqT t.asFix t):=by
 obtain ⟨no,cls,cpu,st,idle,q,p,left,due,prio,round,seq,nice,v⟩:=t
 simp only [beq_iff_eq] at c2
 subst c2
 rw [Bool.eq_iff_iff]
 simp only [Bool.and_eq_true,qfU,qel]
 by_cases hr:round=0
 ·subst hr
  simp [qae,qbp,qba,qbC,qc6,dueZ,qbP,Tsk.asFix,qap]
  omega
 ·simp [qae,qbp,qba,qbC,qc6,dueZ,qbP,Tsk.asFix,qap,hr]
  omega
theorem qhF (t:Tsk) (c3:(t.cls==3)=true):qae t=(qaO t&&qck t&&eqT t.asFair t):=by
 obtain ⟨no,cls,cpu,st,idle,q,p,left,due,prio,round,seq,nice,v⟩:=t
 simp only [beq_iff_eq] at c3
 subst c3
 rw [Bool.eq_iff_iff]
 simp only [Bool.and_eq_true,qfU,qel]
 simp [qae,qbp,qba,qck,dueZ,fixZ,Tsk.asFair,qap]
 omega
theorem qmb (t:Tsk) (c1:(t.cls==1)=false) (c2:(t.cls==2)=false) (c3:(t.cls==3)=false):qae t=false:=by
 have:inB t.cls 1 3=false:=qdG (by simp at c1 c2 c3;omega)
 simp [qae,this]
set_option maxHeartbeats 2000000 in
theorem qmc (t:Tsk) (w:World) (c1:(t.cls==1)=true) :
  Calls Tryz.prog 83 #[tk t] w fun e w'=>e = .returned (.bool (qaO t&&qbZ t&&eqT t.asDue t)) /\ Keeps w w':=by
 obtain ⟨N,HN⟩:∃ N,Hid (t.asDue=N):=⟨_,rfl⟩
 go_enter Tryz.func83,Tryz.ntmps83
 go_wp2_with fail
 refine (qd0 t _).mono ?_
 rintro e w1 ⟨rfl,k1⟩
 have B1:=(Blk.new w (tc t) 47).keeps k1
 have K1:Keeps w w1:=((Keeps.refl w).alloc _).trans k1
 clear k1
 go_wp2_with fail
 have kW:Keeps w (w1.alloc (.cells (dtc t) 69)):=K1.alloc _
 have r1:∀ w',Keeps (w1.alloc (.cells (dtc t) 69)) w'->∀ k,w'.cell? ⟨w.heap.size,k,none⟩=(tc t)[k]?:=fun w' h=>((B1.alloc _).keeps h).cells
 have r2:=blkR w1 (dtc t) 69
 have K0:=Keeps.refl (w1.alloc (.cells (dtc t) 69))
 clear B1 K1
 generalize w1.alloc (.cells (dtc t) 69)=W at *
 generalize w1.heap.size=s at *
 cases d0:qaO t
 ·skip
  have Hr:Hid ((qaO t&&qbZ t&&eqT t.asDue t)=false):=by show _=_;simp [d0]
  refine wp_region_held_drew (S:=(fun w'=>Keeps W w')) (by kernel_rfl) ?_ (fun hHeld => ?_)
  ·exact K0.drew
  refine Plan.go [0,1] ?_
  iterate 2 (refine qac (by simp only [qab];rfl) (by kernel_rfl) (by exact fun _ _ _ h=>h) (by rfl) (by assumption) (fun w _=>by go_simp;try (with_reducible rfl)) ?_;try simp only [qaa])
  refine Plan.nil ?_
  refine qad 2 (by kernel_rfl) (by simp only [qab];rfl) (fun K hK => ?_)
  go_simp
  first
     | (go_at_call 131;refine (qbx t _).mono ?_;rintro e w2 ⟨rfl,k2⟩;rw [d0])
     | (go_at_call 132;refine (qdX t _).mono ?_;rintro e w3 ⟨rfl,k3⟩;rw [d1])
     | (go_at_call 133;refine (qdh t _).mono ?_;rintro e w4 ⟨rfl,k4⟩;rw [HN.out])
  try go_wp2_with fail
  refine hK.out _ _ ?_ (fun hHeld => ?_)
  ·exact Keeps.trans (by assumption) (by assumption)
  clear hK K
  try simp only [qaa]
  refine qan 3 (v := ?_) (by simp only [qab];rfl) (by kernel_rfl) (by exact fun _ _ _ h=>h) (by rfl) (by assumption) ?_ ?_
  rotate_left
  ·(intro w _;go_simp;try (with_reducible rfl))
  try simp only [qaa]
  refine Plan.go [4,5,6] ?_
  iterate 3 (refine qaq (by simp only [qab];rfl) (by kernel_rfl) (by exact fun _ _ _ h=>h) (by rfl) (by assumption) ?_;try simp only [qaa])
  refine Plan.nil ?_
  refine Plan.go [7,8] ?_
  iterate 2 (refine qac (by simp only [qab];rfl) (by kernel_rfl) (by exact fun _ _ _ h=>h) (by rfl) (by assumption) (fun w _=>by go_simp;try (with_reducible rfl)) ?_;try simp only [qaa])
  refine Plan.nil ?_
  refine Plan.go [9,10,11,12] ?_
  iterate 4 (refine qaq (by simp only [qab];rfl) (by kernel_rfl) (by exact fun _ _ _ h=>h) (by rfl) (by assumption) ?_;try simp only [qaa])
  refine Plan.nil ?_
  refine Plan.go [13,14] ?_
  iterate 2 (refine qac (by simp only [qab];rfl) (by kernel_rfl) (by exact fun _ _ _ h=>h) (by rfl) (by assumption) (fun w _=>by go_simp;try (with_reducible rfl)) ?_;try simp only [qaa])
  refine Plan.nil ?_
  refine wpAnyH_done (by kernel_rfl) ?_ _
  go_wp2
  go_ret
  exact ⟨by rw [Hr.out];rfl,kW.trans (by assumption)⟩
 ·cases d1:qbZ t
  ·skip
   have Hr:Hid ((qaO t&&qbZ t&&eqT t.asDue t)=false):=by show _=_;simp [d1]
   refine wp_region_held_drew (S:=(fun w'=>Keeps W w')) (by kernel_rfl) ?_ (fun hHeld => ?_)
   ·exact K0.drew
   refine Plan.go [0,1] ?_
   iterate 2 (refine qac (by simp only [qab];rfl) (by kernel_rfl) (by exact fun _ _ _ h=>h) (by rfl) (by assumption) (fun w _=>by go_simp;try (with_reducible rfl)) ?_;try simp only [qaa])
   refine Plan.nil ?_
   refine qad 2 (by kernel_rfl) (by simp only [qab];rfl) (fun K hK => ?_)
   go_simp
   first
      | (go_at_call 131;refine (qbx t _).mono ?_;rintro e w2 ⟨rfl,k2⟩;rw [d0])
      | (go_at_call 132;refine (qdX t _).mono ?_;rintro e w3 ⟨rfl,k3⟩;rw [d1])
      | (go_at_call 133;refine (qdh t _).mono ?_;rintro e w4 ⟨rfl,k4⟩;rw [HN.out])
   try go_wp2_with fail
   refine hK.out _ _ ?_ (fun hHeld => ?_)
   ·exact Keeps.trans (by assumption) (by assumption)
   clear hK K
   try simp only [qaa]
   refine Plan.go [3,4,5] ?_
   iterate 3 (refine qac (by simp only [qab];rfl) (by kernel_rfl) (by exact fun _ _ _ h=>h) (by rfl) (by assumption) (fun w _=>by go_simp;try (with_reducible rfl)) ?_;try simp only [qaa])
   refine Plan.nil ?_
   refine qad 6 (by kernel_rfl) (by simp only [qab];rfl) (fun K hK => ?_)
   go_simp
   first
      | (go_at_call 131;refine (qbx t _).mono ?_;rintro e w2 ⟨rfl,k2⟩;rw [d0])
      | (go_at_call 132;refine (qdX t _).mono ?_;rintro e w3 ⟨rfl,k3⟩;rw [d1])
      | (go_at_call 133;refine (qdh t _).mono ?_;rintro e w4 ⟨rfl,k4⟩;rw [HN.out])
   try go_wp2_with fail
   refine hK.out _ _ ?_ (fun hHeld => ?_)
   ·exact Keeps.trans (by assumption) (by assumption)
   clear hK K
   try simp only [qaa]
   refine Plan.go [7,8] ?_
   iterate 2 (refine qac (by simp only [qab];rfl) (by kernel_rfl) (by exact fun _ _ _ h=>h) (by rfl) (by assumption) (fun w _=>by go_simp;try (with_reducible rfl)) ?_;try simp only [qaa])
   refine Plan.nil ?_
   refine Plan.go [9,10,11,12] ?_
   iterate 4 (refine qaq (by simp only [qab];rfl) (by kernel_rfl) (by exact fun _ _ _ h=>h) (by rfl) (by assumption) ?_;try simp only [qaa])
   refine Plan.nil ?_
   refine Plan.go [13,14] ?_
   iterate 2 (refine qac (by simp only [qab];rfl) (by kernel_rfl) (by exact fun _ _ _ h=>h) (by rfl) (by assumption) (fun w _=>by go_simp;try (with_reducible rfl)) ?_;try simp only [qaa])
   refine Plan.nil ?_
   refine wpAnyH_done (by kernel_rfl) ?_ _
   go_wp2
   go_ret
   exact ⟨by rw [Hr.out];rfl,kW.trans (by assumption)⟩
  ·skip
   have Hr:Hid ((qaO t&&qbZ t&&eqT t.asDue t)=eqT t.asDue t):=by show _=_;simp [d0,d1]
   refine wp_region_held_drew (S:=(fun w'=>Keeps W w')) (by kernel_rfl) ?_ (fun hHeld => ?_)
   ·exact K0.drew
   refine Plan.go [0,1] ?_
   iterate 2 (refine qac (by simp only [qab];rfl) (by kernel_rfl) (by exact fun _ _ _ h=>h) (by rfl) (by assumption) (fun w _=>by go_simp;try (with_reducible rfl)) ?_;try simp only [qaa])
   refine Plan.nil ?_
   refine qad 2 (by kernel_rfl) (by simp only [qab];rfl) (fun K hK => ?_)
   go_simp
   first
      | (go_at_call 131;refine (qbx t _).mono ?_;rintro e w2 ⟨rfl,k2⟩;rw [d0])
      | (go_at_call 132;refine (qdX t _).mono ?_;rintro e w3 ⟨rfl,k3⟩;rw [d1])
      | (go_at_call 133;refine (qdh t _).mono ?_;rintro e w4 ⟨rfl,k4⟩;rw [HN.out])
   try go_wp2_with fail
   refine hK.out _ _ ?_ (fun hHeld => ?_)
   ·exact Keeps.trans (by assumption) (by assumption)
   clear hK K
   try simp only [qaa]
   refine Plan.go [3,4,5] ?_
   iterate 3 (refine qac (by simp only [qab];rfl) (by kernel_rfl) (by exact fun _ _ _ h=>h) (by rfl) (by assumption) (fun w _=>by go_simp;try (with_reducible rfl)) ?_;try simp only [qaa])
   refine Plan.nil ?_
   refine qad 6 (by kernel_rfl) (by simp only [qab];rfl) (fun K hK => ?_)
   go_simp
   first
      | (go_at_call 131;refine (qbx t _).mono ?_;rintro e w2 ⟨rfl,k2⟩;rw [d0])
      | (go_at_call 132;refine (qdX t _).mono ?_;rintro e w3 ⟨rfl,k3⟩;rw [d1])
      | (go_at_call 133;refine (qdh t _).mono ?_;rintro e w4 ⟨rfl,k4⟩;rw [HN.out])
   try go_wp2_with fail
   refine hK.out _ _ ?_ (fun hHeld => ?_)
   ·exact Keeps.trans (by assumption) (by assumption)
   clear hK K
   try simp only [qaa]
   refine Plan.go [7,8,9,11] ?_
   iterate 4 (refine qac (by simp only [qab];rfl) (by kernel_rfl) (by exact fun _ _ _ h=>h) (by rfl) (by assumption) (fun w _=>by go_simp;try (with_reducible rfl)) ?_;try simp only [qaa])
   refine Plan.nil ?_
   refine qad 10 (by kernel_rfl) (by simp only [qab];rfl) (fun K hK => ?_)
   go_simp
   first
      | (go_at_call 131;refine (qbx t _).mono ?_;rintro e w2 ⟨rfl,k2⟩;rw [d0])
      | (go_at_call 132;refine (qdX t _).mono ?_;rintro e w3 ⟨rfl,k3⟩;rw [d1])
      | (go_at_call 133;refine (qdh t _).mono ?_;rintro e w4 ⟨rfl,k4⟩;rw [HN.out])
   try go_wp2_with fail
   refine hK.out _ _ ?_ (fun hHeld => ?_)
   ·exact Keeps.trans (by assumption) (by assumption)
   clear hK K
   try simp only [qaa]
   refine Plan.go [12,13,14] ?_
   iterate 3 (refine qac (by simp only [qab];rfl) (by kernel_rfl) (by exact fun _ _ _ h=>h) (by rfl) (by assumption) (fun w _=>by go_simp;try (with_reducible rfl)) ?_;try simp only [qaa])
   refine Plan.nil ?_
   refine wpAnyH_done (by kernel_rfl) ?_ _
   go_wp2
   go_ret
   exact ⟨by rw [Hr.out];rw [HN.out];rfl,kW.trans (by assumption)⟩
set_option maxHeartbeats 2000000 in
theorem qmd (t:Tsk) (w:World) (c1:(t.cls==1)=false) (c2:(t.cls==2)=true) :
  Calls Tryz.prog 83 #[tk t] w fun e w'=>e = .returned (.bool (qaO t&&qbC t&&eqT t.asFix t)) /\ Keeps w w':=by
 obtain ⟨N,HN⟩:∃ N,Hid (t.asFix=N):=⟨_,rfl⟩
 go_enter Tryz.func83,Tryz.ntmps83
 go_wp2_with fail
 refine (qey t _).mono ?_
 rintro e w1 ⟨rfl,k1⟩
 have B1:=(Blk.new w (tc t) 47).keeps k1
 have K1:Keeps w w1:=((Keeps.refl w).alloc _).trans k1
 clear k1
 go_wp2_with fail
 have kW:Keeps w (w1.alloc (.cells (ftc t) 177)):=K1.alloc _
 have r1:∀ w',Keeps (w1.alloc (.cells (ftc t) 177)) w'->∀ k,w'.cell? ⟨w.heap.size,k,none⟩=(tc t)[k]?:=fun w' h=>((B1.alloc _).keeps h).cells
 have r2:=blkR w1 (ftc t) 177
 have K0:=Keeps.refl (w1.alloc (.cells (ftc t) 177))
 clear B1 K1
 generalize w1.alloc (.cells (ftc t) 177)=W at *
 generalize w1.heap.size=s at *
 cases d0:qaO t
 ·skip
  have Hr:Hid ((qaO t&&qbC t&&eqT t.asFix t)=false):=by show _=_;simp [d0]
  refine wp_region_held_drew (S:=(fun w'=>Keeps W w')) (by kernel_rfl) ?_ (fun hHeld => ?_)
  ·exact K0.drew
  refine Plan.go [0,1] ?_
  iterate 2 (refine qac (by simp only [qab];rfl) (by kernel_rfl) (by exact fun _ _ _ h=>h) (by rfl) (by assumption) (fun w _=>by go_simp;try (with_reducible rfl)) ?_;try simp only [qaa])
  refine Plan.nil ?_
  refine qad 2 (by kernel_rfl) (by simp only [qab];rfl) (fun K hK => ?_)
  go_simp
  first
     | (go_at_call 131;refine (qbx t _).mono ?_;rintro e w2 ⟨rfl,k2⟩;rw [d0])
     | (go_at_call 135;refine (qdY t _).mono ?_;rintro e w3 ⟨rfl,k3⟩;rw [d1])
     | (go_at_call 136;refine (qdi t _).mono ?_;rintro e w4 ⟨rfl,k4⟩;rw [HN.out])
  try go_wp2_with fail
  refine hK.out _ _ ?_ (fun hHeld => ?_)
  ·exact Keeps.trans (by assumption) (by assumption)
  clear hK K
  try simp only [qaa]
  refine qan 3 (v := ?_) (by simp only [qab];rfl) (by kernel_rfl) (by exact fun _ _ _ h=>h) (by rfl) (by assumption) ?_ ?_
  rotate_left
  ·(intro w _;go_simp;try (with_reducible rfl))
  try simp only [qaa]
  refine Plan.go [4,5,6] ?_
  iterate 3 (refine qaq (by simp only [qab];rfl) (by kernel_rfl) (by exact fun _ _ _ h=>h) (by rfl) (by assumption) ?_;try simp only [qaa])
  refine Plan.nil ?_
  refine Plan.go [7,8] ?_
  iterate 2 (refine qac (by simp only [qab];rfl) (by kernel_rfl) (by exact fun _ _ _ h=>h) (by rfl) (by assumption) (fun w _=>by go_simp;try (with_reducible rfl)) ?_;try simp only [qaa])
  refine Plan.nil ?_
  refine Plan.go [9,10,11,12] ?_
  iterate 4 (refine qaq (by simp only [qab];rfl) (by kernel_rfl) (by exact fun _ _ _ h=>h) (by rfl) (by assumption) ?_;try simp only [qaa])
  refine Plan.nil ?_
  refine Plan.go [13,14] ?_
  iterate 2 (refine qac (by simp only [qab];rfl) (by kernel_rfl) (by exact fun _ _ _ h=>h) (by rfl) (by assumption) (fun w _=>by go_simp;try (with_reducible rfl)) ?_;try simp only [qaa])
  refine Plan.nil ?_
  refine wpAnyH_done (by kernel_rfl) ?_ _
  go_wp2
  go_ret
  exact ⟨by rw [Hr.out];rfl,kW.trans (by assumption)⟩
 ·cases d1:qbC t
  ·skip
   have Hr:Hid ((qaO t&&qbC t&&eqT t.asFix t)=false):=by show _=_;simp [d1]
   refine wp_region_held_drew (S:=(fun w'=>Keeps W w')) (by kernel_rfl) ?_ (fun hHeld => ?_)
   ·exact K0.drew
   refine Plan.go [0,1] ?_
   iterate 2 (refine qac (by simp only [qab];rfl) (by kernel_rfl) (by exact fun _ _ _ h=>h) (by rfl) (by assumption) (fun w _=>by go_simp;try (with_reducible rfl)) ?_;try simp only [qaa])
   refine Plan.nil ?_
   refine qad 2 (by kernel_rfl) (by simp only [qab];rfl) (fun K hK => ?_)
   go_simp
   first
      | (go_at_call 131;refine (qbx t _).mono ?_;rintro e w2 ⟨rfl,k2⟩;rw [d0])
      | (go_at_call 135;refine (qdY t _).mono ?_;rintro e w3 ⟨rfl,k3⟩;rw [d1])
      | (go_at_call 136;refine (qdi t _).mono ?_;rintro e w4 ⟨rfl,k4⟩;rw [HN.out])
   try go_wp2_with fail
   refine hK.out _ _ ?_ (fun hHeld => ?_)
   ·exact Keeps.trans (by assumption) (by assumption)
   clear hK K
   try simp only [qaa]
   refine Plan.go [3,4,5] ?_
   iterate 3 (refine qac (by simp only [qab];rfl) (by kernel_rfl) (by exact fun _ _ _ h=>h) (by rfl) (by assumption) (fun w _=>by go_simp;try (with_reducible rfl)) ?_;try simp only [qaa])
   refine Plan.nil ?_
   refine qad 6 (by kernel_rfl) (by simp only [qab];rfl) (fun K hK => ?_)
   go_simp
   first
      | (go_at_call 131;refine (qbx t _).mono ?_;rintro e w2 ⟨rfl,k2⟩;rw [d0])
      | (go_at_call 135;refine (qdY t _).mono ?_;rintro e w3 ⟨rfl,k3⟩;rw [d1])
      | (go_at_call 136;refine (qdi t _).mono ?_;rintro e w4 ⟨rfl,k4⟩;rw [HN.out])
   try go_wp2_with fail
   refine hK.out _ _ ?_ (fun hHeld => ?_)
   ·exact Keeps.trans (by assumption) (by assumption)
   clear hK K
   try simp only [qaa]
   refine Plan.go [7,8] ?_
   iterate 2 (refine qac (by simp only [qab];rfl) (by kernel_rfl) (by exact fun _ _ _ h=>h) (by rfl) (by assumption) (fun w _=>by go_simp;try (with_reducible rfl)) ?_;try simp only [qaa])
   refine Plan.nil ?_
   refine Plan.go [9,10,11,12] ?_
   iterate 4 (refine qaq (by simp only [qab];rfl) (by kernel_rfl) (by exact fun _ _ _ h=>h) (by rfl) (by assumption) ?_;try simp only [qaa])
   refine Plan.nil ?_
   refine Plan.go [13,14] ?_
   iterate 2 (refine qac (by simp only [qab];rfl) (by kernel_rfl) (by exact fun _ _ _ h=>h) (by rfl) (by assumption) (fun w _=>by go_simp;try (with_reducible rfl)) ?_;try simp only [qaa])
   refine Plan.nil ?_
   refine wpAnyH_done (by kernel_rfl) ?_ _
   go_wp2
   go_ret
   exact ⟨by rw [Hr.out];rfl,kW.trans (by assumption)⟩
  ·skip
   have Hr:Hid ((qaO t&&qbC t&&eqT t.asFix t)=eqT t.asFix t):=by show _=_;simp [d0,d1]
   refine wp_region_held_drew (S:=(fun w'=>Keeps W w')) (by kernel_rfl) ?_ (fun hHeld => ?_)
   ·exact K0.drew
   refine Plan.go [0,1] ?_
   iterate 2 (refine qac (by simp only [qab];rfl) (by kernel_rfl) (by exact fun _ _ _ h=>h) (by rfl) (by assumption) (fun w _=>by go_simp;try (with_reducible rfl)) ?_;try simp only [qaa])
   refine Plan.nil ?_
   refine qad 2 (by kernel_rfl) (by simp only [qab];rfl) (fun K hK => ?_)
   go_simp
   first
      | (go_at_call 131;refine (qbx t _).mono ?_;rintro e w2 ⟨rfl,k2⟩;rw [d0])
      | (go_at_call 135;refine (qdY t _).mono ?_;rintro e w3 ⟨rfl,k3⟩;rw [d1])
      | (go_at_call 136;refine (qdi t _).mono ?_;rintro e w4 ⟨rfl,k4⟩;rw [HN.out])
   try go_wp2_with fail
   refine hK.out _ _ ?_ (fun hHeld => ?_)
   ·exact Keeps.trans (by assumption) (by assumption)
   clear hK K
   try simp only [qaa]
   refine Plan.go [3,4,5] ?_
   iterate 3 (refine qac (by simp only [qab];rfl) (by kernel_rfl) (by exact fun _ _ _ h=>h) (by rfl) (by assumption) (fun w _=>by go_simp;try (with_reducible rfl)) ?_;try simp only [qaa])
   refine Plan.nil ?_
   refine qad 6 (by kernel_rfl) (by simp only [qab];rfl) (fun K hK => ?_)
   go_simp
   first
      | (go_at_call 131;refine (qbx t _).mono ?_;rintro e w2 ⟨rfl,k2⟩;rw [d0])
      | (go_at_call 135;refine (qdY t _).mono ?_;rintro e w3 ⟨rfl,k3⟩;rw [d1])
      | (go_at_call 136;refine (qdi t _).mono ?_;rintro e w4 ⟨rfl,k4⟩;rw [HN.out])
   try go_wp2_with fail
   refine hK.out _ _ ?_ (fun hHeld => ?_)
   ·exact Keeps.trans (by assumption) (by assumption)
   clear hK K
   try simp only [qaa]
   refine Plan.go [7,8,9,11] ?_
   iterate 4 (refine qac (by simp only [qab];rfl) (by kernel_rfl) (by exact fun _ _ _ h=>h) (by rfl) (by assumption) (fun w _=>by go_simp;try (with_reducible rfl)) ?_;try simp only [qaa])
   refine Plan.nil ?_
   refine qad 10 (by kernel_rfl) (by simp only [qab];rfl) (fun K hK => ?_)
   go_simp
   first
      | (go_at_call 131;refine (qbx t _).mono ?_;rintro e w2 ⟨rfl,k2⟩;rw [d0])
      | (go_at_call 135;refine (qdY t _).mono ?_;rintro e w3 ⟨rfl,k3⟩;rw [d1])
      | (go_at_call 136;refine (qdi t _).mono ?_;rintro e w4 ⟨rfl,k4⟩;rw [HN.out])
   try go_wp2_with fail
   refine hK.out _ _ ?_ (fun hHeld => ?_)
   ·exact Keeps.trans (by assumption) (by assumption)
   clear hK K
   try simp only [qaa]
   refine Plan.go [12,13,14] ?_
   iterate 3 (refine qac (by simp only [qab];rfl) (by kernel_rfl) (by exact fun _ _ _ h=>h) (by rfl) (by assumption) (fun w _=>by go_simp;try (with_reducible rfl)) ?_;try simp only [qaa])
   refine Plan.nil ?_
   refine wpAnyH_done (by kernel_rfl) ?_ _
   go_wp2
   go_ret
   exact ⟨by rw [Hr.out];rw [HN.out];rfl,kW.trans (by assumption)⟩
set_option maxHeartbeats 2000000 in
theorem qme (t:Tsk) (w:World) (c1:(t.cls==1)=false) (c2:(t.cls==2)=false) (c3:(t.cls==3)=true) :
  Calls Tryz.prog 83 #[tk t] w fun e w'=>e = .returned (.bool (qaO t&&qck t&&eqT t.asFair t)) /\ Keeps w w':=by
 obtain ⟨N,HN⟩:∃ N,Hid (t.asFair=N):=⟨_,rfl⟩
 go_enter Tryz.func83,Tryz.ntmps83
 go_wp2_with fail
 refine (qe2 t _).mono ?_
 rintro e w1 ⟨rfl,k1⟩
 have B1:=(Blk.new w (tc t) 47).keeps k1
 have K1:Keeps w w1:=((Keeps.refl w).alloc _).trans k1
 clear k1
 go_wp2_with fail
 have kW:Keeps w (w1.alloc (.cells (rtc t) 129)):=K1.alloc _
 have r1:∀ w',Keeps (w1.alloc (.cells (rtc t) 129)) w'->∀ k,w'.cell? ⟨w.heap.size,k,none⟩=(tc t)[k]?:=fun w' h=>((B1.alloc _).keeps h).cells
 have r2:=blkR w1 (rtc t) 129
 have K0:=Keeps.refl (w1.alloc (.cells (rtc t) 129))
 clear B1 K1
 generalize w1.alloc (.cells (rtc t) 129)=W at *
 generalize w1.heap.size=s at *
 cases d0:qaO t
 ·skip
  have Hr:Hid ((qaO t&&qck t&&eqT t.asFair t)=false):=by show _=_;simp [d0]
  refine wp_region_held_drew (S:=(fun w'=>Keeps W w')) (by kernel_rfl) ?_ (fun hHeld => ?_)
  ·exact K0.drew
  refine Plan.go [0,1] ?_
  iterate 2 (refine qac (by simp only [qab];rfl) (by kernel_rfl) (by exact fun _ _ _ h=>h) (by rfl) (by assumption) (fun w _=>by go_simp;try (with_reducible rfl)) ?_;try simp only [qaa])
  refine Plan.nil ?_
  refine qad 2 (by kernel_rfl) (by simp only [qab];rfl) (fun K hK => ?_)
  go_simp
  first
     | (go_at_call 131;refine (qbx t _).mono ?_;rintro e w2 ⟨rfl,k2⟩;rw [d0])
     | (go_at_call 138;refine (qdZ t _).mono ?_;rintro e w3 ⟨rfl,k3⟩;rw [d1])
     | (go_at_call 139;refine (qdj t _).mono ?_;rintro e w4 ⟨rfl,k4⟩;rw [HN.out])
  try go_wp2_with fail
  refine hK.out _ _ ?_ (fun hHeld => ?_)
  ·exact Keeps.trans (by assumption) (by assumption)
  clear hK K
  try simp only [qaa]
  refine qan 3 (v := ?_) (by simp only [qab];rfl) (by kernel_rfl) (by exact fun _ _ _ h=>h) (by rfl) (by assumption) ?_ ?_
  rotate_left
  ·(intro w _;go_simp;try (with_reducible rfl))
  try simp only [qaa]
  refine Plan.go [4,5,6] ?_
  iterate 3 (refine qaq (by simp only [qab];rfl) (by kernel_rfl) (by exact fun _ _ _ h=>h) (by rfl) (by assumption) ?_;try simp only [qaa])
  refine Plan.nil ?_
  refine Plan.go [7,8] ?_
  iterate 2 (refine qac (by simp only [qab];rfl) (by kernel_rfl) (by exact fun _ _ _ h=>h) (by rfl) (by assumption) (fun w _=>by go_simp;try (with_reducible rfl)) ?_;try simp only [qaa])
  refine Plan.nil ?_
  refine Plan.go [9,10,11,12] ?_
  iterate 4 (refine qaq (by simp only [qab];rfl) (by kernel_rfl) (by exact fun _ _ _ h=>h) (by rfl) (by assumption) ?_;try simp only [qaa])
  refine Plan.nil ?_
  refine Plan.go [13,14] ?_
  iterate 2 (refine qac (by simp only [qab];rfl) (by kernel_rfl) (by exact fun _ _ _ h=>h) (by rfl) (by assumption) (fun w _=>by go_simp;try (with_reducible rfl)) ?_;try simp only [qaa])
  refine Plan.nil ?_
  refine wpAnyH_done (by kernel_rfl) ?_ _
  go_wp2
  go_ret
  exact ⟨by rw [Hr.out];rfl,kW.trans (by assumption)⟩
 ·cases d1:qck t
  ·skip
   have Hr:Hid ((qaO t&&qck t&&eqT t.asFair t)=false):=by show _=_;simp [d1]
   refine wp_region_held_drew (S:=(fun w'=>Keeps W w')) (by kernel_rfl) ?_ (fun hHeld => ?_)
   ·exact K0.drew
   refine Plan.go [0,1] ?_
   iterate 2 (refine qac (by simp only [qab];rfl) (by kernel_rfl) (by exact fun _ _ _ h=>h) (by rfl) (by assumption) (fun w _=>by go_simp;try (with_reducible rfl)) ?_;try simp only [qaa])
   refine Plan.nil ?_
   refine qad 2 (by kernel_rfl) (by simp only [qab];rfl) (fun K hK => ?_)
   go_simp
   first
      | (go_at_call 131;refine (qbx t _).mono ?_;rintro e w2 ⟨rfl,k2⟩;rw [d0])
      | (go_at_call 138;refine (qdZ t _).mono ?_;rintro e w3 ⟨rfl,k3⟩;rw [d1])
      | (go_at_call 139;refine (qdj t _).mono ?_;rintro e w4 ⟨rfl,k4⟩;rw [HN.out])
   try go_wp2_with fail
   refine hK.out _ _ ?_ (fun hHeld => ?_)
   ·exact Keeps.trans (by assumption) (by assumption)
   clear hK K
   try simp only [qaa]
   refine Plan.go [3,4,5] ?_
   iterate 3 (refine qac (by simp only [qab];rfl) (by kernel_rfl) (by exact fun _ _ _ h=>h) (by rfl) (by assumption) (fun w _=>by go_simp;try (with_reducible rfl)) ?_;try simp only [qaa])
   refine Plan.nil ?_
   refine qad 6 (by kernel_rfl) (by simp only [qab];rfl) (fun K hK => ?_)
   go_simp
   first
      | (go_at_call 131;refine (qbx t _).mono ?_;rintro e w2 ⟨rfl,k2⟩;rw [d0])
      | (go_at_call 138;refine (qdZ t _).mono ?_;rintro e w3 ⟨rfl,k3⟩;rw [d1])
      | (go_at_call 139;refine (qdj t _).mono ?_;rintro e w4 ⟨rfl,k4⟩;rw [HN.out])
   try go_wp2_with fail
   refine hK.out _ _ ?_ (fun hHeld => ?_)
   ·exact Keeps.trans (by assumption) (by assumption)
   clear hK K
   try simp only [qaa]
   refine Plan.go [7,8] ?_
   iterate 2 (refine qac (by simp only [qab];rfl) (by kernel_rfl) (by exact fun _ _ _ h=>h) (by rfl) (by assumption) (fun w _=>by go_simp;try (with_reducible rfl)) ?_;try simp only [qaa])
   refine Plan.nil ?_
   refine Plan.go [9,10,11,12] ?_
   iterate 4 (refine qaq (by simp only [qab];rfl) (by kernel_rfl) (by exact fun _ _ _ h=>h) (by rfl) (by assumption) ?_;try simp only [qaa])
   refine Plan.nil ?_
   refine Plan.go [13,14] ?_
   iterate 2 (refine qac (by simp only [qab];rfl) (by kernel_rfl) (by exact fun _ _ _ h=>h) (by rfl) (by assumption) (fun w _=>by go_simp;try (with_reducible rfl)) ?_;try simp only [qaa])
   refine Plan.nil ?_
   refine wpAnyH_done (by kernel_rfl) ?_ _
   go_wp2
   go_ret
   exact ⟨by rw [Hr.out];rfl,kW.trans (by assumption)⟩
  ·skip
   have Hr:Hid ((qaO t&&qck t&&eqT t.asFair t)=eqT t.asFair t):=by show _=_;simp [d0,d1]
   refine wp_region_held_drew (S:=(fun w'=>Keeps W w')) (by kernel_rfl) ?_ (fun hHeld => ?_)
   ·exact K0.drew
   refine Plan.go [0,1] ?_
   iterate 2 (refine qac (by simp only [qab];rfl) (by kernel_rfl) (by exact fun _ _ _ h=>h) (by rfl) (by assumption) (fun w _=>by go_simp;try (with_reducible rfl)) ?_;try simp only [qaa])
   refine Plan.nil ?_
   refine qad 2 (by kernel_rfl) (by simp only [qab];rfl) (fun K hK => ?_)
   go_simp
   first
      | (go_at_call 131;refine (qbx t _).mono ?_;rintro e w2 ⟨rfl,k2⟩;rw [d0])
      | (go_at_call 138;refine (qdZ t _).mono ?_;rintro e w3 ⟨rfl,k3⟩;rw [d1])
      | (go_at_call 139;refine (qdj t _).mono ?_;rintro e w4 ⟨rfl,k4⟩;rw [HN.out])
   try go_wp2_with fail
   refine hK.out _ _ ?_ (fun hHeld => ?_)
   ·exact Keeps.trans (by assumption) (by assumption)
   clear hK K
   try simp only [qaa]
   refine Plan.go [3,4,5] ?_
   iterate 3 (refine qac (by simp only [qab];rfl) (by kernel_rfl) (by exact fun _ _ _ h=>h) (by rfl) (by assumption) (fun w _=>by go_simp;try (with_reducible rfl)) ?_;try simp only [qaa])
   refine Plan.nil ?_
   refine qad 6 (by kernel_rfl) (by simp only [qab];rfl) (fun K hK => ?_)
   go_simp
   first
      | (go_at_call 131;refine (qbx t _).mono ?_;rintro e w2 ⟨rfl,k2⟩;rw [d0])
      | (go_at_call 138;refine (qdZ t _).mono ?_;rintro e w3 ⟨rfl,k3⟩;rw [d1])
      | (go_at_call 139;refine (qdj t _).mono ?_;rintro e w4 ⟨rfl,k4⟩;rw [HN.out])
   try go_wp2_with fail
   refine hK.out _ _ ?_ (fun hHeld => ?_)
   ·exact Keeps.trans (by assumption) (by assumption)
   clear hK K
   try simp only [qaa]
   refine Plan.go [7,8,9,11] ?_
   iterate 4 (refine qac (by simp only [qab];rfl) (by kernel_rfl) (by exact fun _ _ _ h=>h) (by rfl) (by assumption) (fun w _=>by go_simp;try (with_reducible rfl)) ?_;try simp only [qaa])
   refine Plan.nil ?_
   refine qad 10 (by kernel_rfl) (by simp only [qab];rfl) (fun K hK => ?_)
   go_simp
   first
      | (go_at_call 131;refine (qbx t _).mono ?_;rintro e w2 ⟨rfl,k2⟩;rw [d0])
      | (go_at_call 138;refine (qdZ t _).mono ?_;rintro e w3 ⟨rfl,k3⟩;rw [d1])
      | (go_at_call 139;refine (qdj t _).mono ?_;rintro e w4 ⟨rfl,k4⟩;rw [HN.out])
   try go_wp2_with fail
   refine hK.out _ _ ?_ (fun hHeld => ?_)
   ·exact Keeps.trans (by assumption) (by assumption)
   clear hK K
   try simp only [qaa]
   refine Plan.go [12,13,14] ?_
   iterate 3 (refine qac (by simp only [qab];rfl) (by kernel_rfl) (by exact fun _ _ _ h=>h) (by rfl) (by assumption) (fun w _=>by go_simp;try (with_reducible rfl)) ?_;try simp only [qaa])
   refine Plan.nil ?_
   refine wpAnyH_done (by kernel_rfl) ?_ _
   go_wp2
   go_ret
   exact ⟨by rw [Hr.out];rw [HN.out];rfl,kW.trans (by assumption)⟩
theorem qc7:qoi:=by
 intro t w
 cases c1:(t.cls==1)
 ·cases c2:(t.cls==2)
  ·cases c3:(t.cls==3)
   ·have Hr:Hid (qae t=false):=qmb t c1 c2 c3
    go_enter Tryz.func83,Tryz.ntmps83
    go_wp2
    go_ret
    exact ⟨by rw [Hr.out];rfl,(Keeps.refl _).alloc _⟩
   ·rw [qhF t c3];exact qme t w c1 c2 c3
  ·rw [qhE t c2];exact qmd t w c1 c2
 ·rw [qhD t c1];exact qmc t w c1
end Go.Proofs.YthpdlbcdbncnhaaGreatDoor
namespace Go.Proofs.YthpdlbcdbncnhaaGreatDoor
set_option maxRecDepth 100000
open Go.RowKit
attribute [local go_sem] Keeps.refl Keeps.alloc Keeps.drew Keeps.drewN
theorem qmf {ts:List Tsk} {no:Int} {k:Nat} {t:Tsk} (ht:ts[k]?=some t) (hq:(t.no==no)=true) (H:∀ (j:Nat) (s:Tsk),j < k->ts[j]?=some s->(s.no==no)=false):qar ts no=k:=by
 have hk':k < ts.length:=by
  rcases Nat.lt_or_ge k ts.length with h | h
  ·exact h
  ·simp [List.getElem?_eq_none h] at ht
 have:ts.findIdx? (fun t=>t.no==no)=some k:=by
  rw [List.findIdx?_eq_some_iff_getElem]
  have e1:ts[k]=t:=by rw [List.getElem?_eq_getElem hk'] at ht;simpa using ht
  refine ⟨hk',by rw [e1];exact hq,fun j hj => ?_⟩
  have:=H j ts[j] hj (List.getElem?_eq_getElem _)
  simp [this]
 simp [qar,this]
theorem qmg {ts:List Tsk} {no:Int} (H:∀ (j:Nat) (s:Tsk),ts[j]?=some s->(s.no==no)=false):qar ts no = -1:=by
 have:ts.findIdx? (fun t=>t.no==no)=none:=by
  rw [List.findIdx?_eq_none_iff]
  intro t ht
  obtain ⟨j,hj,rfl⟩:=List.mem_iff_getElem.1 ht
  exact H j _ (List.getElem?_eq_getElem hj)
 simp [qar,this]
set_option maxHeartbeats 1000000 in
theorem qhG:qog:=by
 intro a cap ts no w hl hs
 unfold maxLen at hl
 generalize hn:ts.length=n at hl
 have Hn:Hid (ts.length=n):=hn
 clear hn
 go_enter Tryz.func17,Tryz.ntmps17
 go_wp2
 go_loopw [9] (fun i wr=>∃ k:Nat,k <= n /\ i = .int .i64 k /\ Keeps w wr /\ Hid (∀ j t,j < k->ts[j]?=some t->(t.no==no)=false)) (fun i _=>n - (intOf i).toNat)
 case atStart=>exact ⟨0,Nat.zero_le _,rfl,Keeps.refl _,fun j t hj=>by omega⟩
 case round =>
  obtain ⟨k,hk,rfl,hK,H⟩:=hrel
  by_cases hlt:k < n
  ·obtain ⟨t,ht⟩:=qbB (xs:=ts) (k:=k) (by rw [Hn.out];exact hlt)
   obtain ⟨b,off,rfl,r0,r1⟩:=hs.at ht (by omega)
   have hlt':(k:Int) < (n:Int):=by omega
   have Ht:Hid (ts[k]?=some t):=ht
   clear hs ht
   cases hq:(t.no==no)
   ·go_wp2
    exact ⟨⟨k+1,by omega,by go_num,hK.alloc _,fun j s hj hs=>by
     by_cases e:j=k
     ·subst e;rw [Ht.out] at hs;cases hs;exact hq
     ·exact H.out j s (by omega) hs⟩,by simp only [intOf];omega⟩
   ·have Hr:Hid (qar ts no=k):=qmf Ht.out hq H.out
    go_wp2
    go_ret
    exact ⟨by rw [Hr.out];rfl,hK.alloc _⟩
  ·have Hr:Hid (qar ts no = -1):=qmg fun j s hs=>by
    refine H.out j s ?_ hs
    rcases Nat.lt_or_ge j ts.length with h' | h'
    ·have:=Hn.out;omega
    ·simp [List.getElem?_eq_none h'] at hs
   go_wp2
   go_ret
   exact ⟨by rw [Hr.out];rfl,hK⟩
end Go.Proofs.YthpdlbcdbncnhaaGreatDoor
