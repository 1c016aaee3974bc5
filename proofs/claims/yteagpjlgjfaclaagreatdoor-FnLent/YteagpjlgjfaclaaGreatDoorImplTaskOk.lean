/-
  What a task is: the program's TaskOk.
  Lists of tasks: the program's TaskAt, TasksOk and what puts
  Ticks and calls, as plain functions.
  Calls: what a kind names, and which calls are right.
-/
import Derived.Test.YteagpjlgjfaclaaGreatDoorImplWhole
import Derived.Test.YteagpjlgjfaclaaGreatDoorLockSpec2
import Derived.Test.YteagpjlgjfaclaaGreatDoorLoneLeaves
import Derived.Test.YteagpjlgjfaclaaGreatDoorTaskPut
import Derived.Test.YteagpjlgjfaclaaGreatDoorTaskNew
import Derived.Test.YteagpjlgjfaclaaGreatDoorTaskSpec
import Derived.Test.YteagpjlgjfaclaaGreatDoorLate
import Derived.Laws.StructEq
namespace Go.Proofs.YteagpjlgjfaclaaGreatDoor
set_option maxRecDepth 100000
open Go.RowKit
section
attribute [local go_sem high] Lp
theorem vY (t:ag):fy t=true↔(1 <= t.no /\ t.no <= 1000) /\ (0 <= t.cpu /\ t.cpu <= 3) /\ (1 <= t.st /\ t.st <= 2):=by
 simp only [fy,Bool.and_eq_true,Bool.or_eq_true,beq_iff_eq,dq];omega
theorem Ba (t:ag) (c1:(t.cls==1)=true):aY t=(fy t&&jy t&&gA t.cm t):=by
 obtain ⟨no,cls,cpu,st,idle,q,p,left,due,prio,round,seq,nice,v⟩:=t
 simp only [beq_iff_eq] at c1
 subst c1
 rw [Bool.eq_iff_iff]
 simp only [Bool.and_eq_true,vY,pX]
 simp [aY,ie,gN,jy,eB,iX,ag.cm,dq,lA]
 omega
theorem Bc (t:ag) (c2:(t.cls==2)=true):aY t=(fy t&&iN t&&gA t.cj t):=by
 obtain ⟨no,cls,cpu,st,idle,q,p,left,due,prio,round,seq,nice,v⟩:=t
 simp only [beq_iff_eq] at c2
 subst c2
 rw [Bool.eq_iff_iff]
 simp only [Bool.and_eq_true,vY,pX]
 by_cases hr:round=0
 ·subst hr
  simp [aY,ie,gN,iN,mH,eg,iX,ag.cj,dq]
  omega
 ·simp [aY,ie,gN,iN,mH,eg,iX,ag.cj,dq,hr]
  omega
theorem Be (t:ag) (c3:(t.cls==3)=true):aY t=(fy t&&kq t&&gA t.bk t):=by
 obtain ⟨no,cls,cpu,st,idle,q,p,left,due,prio,round,seq,nice,v⟩:=t
 simp only [beq_iff_eq] at c3
 subst c3
 rw [Bool.eq_iff_iff]
 simp only [Bool.and_eq_true,vY,pX]
 simp [aY,ie,gN,kq,eg,eB,ag.bk,dq]
 omega
theorem Lq (t:ag) (c1:(t.cls==1)=false) (c2:(t.cls==2)=false) (c3:(t.cls==3)=false):aY t=false:=by
 have:aF t.cls 1 3=false:=oO (by simp at c1 c2 c3;omega)
 simp [aY,this]
set_option maxHeartbeats 2000000 in
theorem Lr (t:ag) (w:World) (c1:(t.cls==1)=true) :
  Calls Tryz.prog 74 #[tk t] w fun e w'=>e = .returned (.bool (fy t&&jy t&&gA t.cm t)) /\ aa w w':=by
 obtain ⟨N,HN⟩:∃ N,Hid (t.cm=N):=⟨_,rfl⟩
 go_enter Tryz.func74,Tryz.ntmps74
 go_wp2_with fail
 refine (pO t _).mono ?_
 rintro e w1 ⟨rfl,k1⟩
 have B1:=(ai.new w (tc t) 43).keeps k1
 have K1:aa w w1:=((aa.refl w).alloc _).trans k1
 clear k1
 go_wp2_with fail
 have kW:aa w (w1.alloc (.cells (bg t) 84)):=K1.alloc _
 have r1:∀ w',aa (w1.alloc (.cells (bg t) 84)) w'->∀ k,w'.cell? ⟨w.heap.size,k,none⟩=(tc t)[k]?:=fun w' h=>((B1.alloc _).keeps h).cells
 have r2:=dE w1 (bg t) 84
 have K0:=aa.refl (w1.alloc (.cells (bg t) 84))
 clear B1 K1
 generalize w1.alloc (.cells (bg t) 84)=W at *
 generalize w1.heap.size=s at *
 cases d0:fy t
 ·skip
  have Hr:Hid ((fy t&&jy t&&gA t.cm t)=false):=by show _=_;simp [d0]
  refine wp_region_held_drew (S:=(fun w'=>aa W w')) (by kernel_rfl) ?_ (fun hHeld => ?_)
  ·exact K0.drew
  refine ad.go [0,1] ?_
  iterate 2 (refine aJ (h := ?_);try simp only [ar])
  refine ad.nil ?_
  refine aO 2 (h:=fun K hK => ?_)
  go_simp
  first
     | (go_at_call 113;refine (iD t _).mono ?_;rintro e w2 ⟨rfl,k2⟩;rw [d0])
     | (go_at_call 114;refine (pS t _).mono ?_;rintro e w3 ⟨rfl,k3⟩;rw [d1])
     | (go_at_call 115;refine (mJ t _).mono ?_;rintro e w4 ⟨rfl,k4⟩;rw [HN.out])
  try go_wp2_with fail
  refine hK.out _ _ ?_ fun hHeld => ?_
  ·exact aa.trans (by assumption) (by assumption)
  clear hK K
  try simp only [ar]
  refine cU 3 (h := ?_)
  try simp only [ar]
  refine ad.go [4,5,6] ?_
  iterate 3 (refine dB (h := ?_);try simp only [ar])
  refine ad.nil ?_
  refine ad.go [7,8] ?_
  iterate 2 (refine aJ (h := ?_);try simp only [ar])
  refine ad.nil ?_
  refine ad.go [9,10,11,12] ?_
  iterate 4 (refine dB (h := ?_);try simp only [ar])
  refine ad.nil ?_
  refine ad.go [13,14] ?_
  iterate 2 (refine aJ (h := ?_);try simp only [ar])
  refine ad.nil ?_
  refine wpAnyH_done (by kernel_rfl) ?_ _
  go_wp2
  go_ret
  exact ⟨by rw [Hr.out];rfl,kW.trans (by assumption)⟩
 ·cases d1:jy t
  ·skip
   have Hr:Hid ((fy t&&jy t&&gA t.cm t)=false):=by show _=_;simp [d1]
   refine wp_region_held_drew (S:=(fun w'=>aa W w')) (by kernel_rfl) ?_ (fun hHeld => ?_)
   ·exact K0.drew
   refine ad.go [0,1] ?_
   iterate 2 (refine aJ (h := ?_);try simp only [ar])
   refine ad.nil ?_
   refine aO 2 (h:=fun K hK => ?_)
   go_simp
   first
      | (go_at_call 113;refine (iD t _).mono ?_;rintro e w2 ⟨rfl,k2⟩;rw [d0])
      | (go_at_call 114;refine (pS t _).mono ?_;rintro e w3 ⟨rfl,k3⟩;rw [d1])
      | (go_at_call 115;refine (mJ t _).mono ?_;rintro e w4 ⟨rfl,k4⟩;rw [HN.out])
   try go_wp2_with fail
   refine hK.out _ _ ?_ fun hHeld => ?_
   ·exact aa.trans (by assumption) (by assumption)
   clear hK K
   try simp only [ar]
   refine ad.go [3,4,5] ?_
   iterate 3 (refine aJ (h := ?_);try simp only [ar])
   refine ad.nil ?_
   refine aO 6 (h:=fun K hK => ?_)
   go_simp
   first
      | (go_at_call 113;refine (iD t _).mono ?_;rintro e w2 ⟨rfl,k2⟩;rw [d0])
      | (go_at_call 114;refine (pS t _).mono ?_;rintro e w3 ⟨rfl,k3⟩;rw [d1])
      | (go_at_call 115;refine (mJ t _).mono ?_;rintro e w4 ⟨rfl,k4⟩;rw [HN.out])
   try go_wp2_with fail
   refine hK.out _ _ ?_ fun hHeld => ?_
   ·exact aa.trans (by assumption) (by assumption)
   clear hK K
   try simp only [ar]
   refine ad.go [7,8] ?_
   iterate 2 (refine aJ (h := ?_);try simp only [ar])
   refine ad.nil ?_
   refine ad.go [9,10,11,12] ?_
   iterate 4 (refine dB (h := ?_);try simp only [ar])
   refine ad.nil ?_
   refine ad.go [13,14] ?_
   iterate 2 (refine aJ (h := ?_);try simp only [ar])
   refine ad.nil ?_
   refine wpAnyH_done (by kernel_rfl) ?_ _
   go_wp2
   go_ret
   exact ⟨by rw [Hr.out];rfl,kW.trans (by assumption)⟩
  ·skip
   have Hr:Hid ((fy t&&jy t&&gA t.cm t)=gA t.cm t):=by show _=_;simp [d0,d1]
   refine wp_region_held_drew (S:=(fun w'=>aa W w')) (by kernel_rfl) ?_ (fun hHeld => ?_)
   ·exact K0.drew
   refine ad.go [0,1] ?_
   iterate 2 (refine aJ (h := ?_);try simp only [ar])
   refine ad.nil ?_
   refine aO 2 (h:=fun K hK => ?_)
   go_simp
   first
      | (go_at_call 113;refine (iD t _).mono ?_;rintro e w2 ⟨rfl,k2⟩;rw [d0])
      | (go_at_call 114;refine (pS t _).mono ?_;rintro e w3 ⟨rfl,k3⟩;rw [d1])
      | (go_at_call 115;refine (mJ t _).mono ?_;rintro e w4 ⟨rfl,k4⟩;rw [HN.out])
   try go_wp2_with fail
   refine hK.out _ _ ?_ fun hHeld => ?_
   ·exact aa.trans (by assumption) (by assumption)
   clear hK K
   try simp only [ar]
   refine ad.go [3,4,5] ?_
   iterate 3 (refine aJ (h := ?_);try simp only [ar])
   refine ad.nil ?_
   refine aO 6 (h:=fun K hK => ?_)
   go_simp
   first
      | (go_at_call 113;refine (iD t _).mono ?_;rintro e w2 ⟨rfl,k2⟩;rw [d0])
      | (go_at_call 114;refine (pS t _).mono ?_;rintro e w3 ⟨rfl,k3⟩;rw [d1])
      | (go_at_call 115;refine (mJ t _).mono ?_;rintro e w4 ⟨rfl,k4⟩;rw [HN.out])
   try go_wp2_with fail
   refine hK.out _ _ ?_ fun hHeld => ?_
   ·exact aa.trans (by assumption) (by assumption)
   clear hK K
   try simp only [ar]
   refine ad.go [7,8,9,11] ?_
   iterate 4 (refine aJ (h := ?_);try simp only [ar])
   refine ad.nil ?_
   refine aO 10 (h:=fun K hK => ?_)
   go_simp
   first
      | (go_at_call 113;refine (iD t _).mono ?_;rintro e w2 ⟨rfl,k2⟩;rw [d0])
      | (go_at_call 114;refine (pS t _).mono ?_;rintro e w3 ⟨rfl,k3⟩;rw [d1])
      | (go_at_call 115;refine (mJ t _).mono ?_;rintro e w4 ⟨rfl,k4⟩;rw [HN.out])
   try go_wp2_with fail
   refine hK.out _ _ ?_ fun hHeld => ?_
   ·exact aa.trans (by assumption) (by assumption)
   clear hK K
   try simp only [ar]
   refine ad.go [12,13,14] ?_
   iterate 3 (refine aJ (h := ?_);try simp only [ar])
   refine ad.nil ?_
   refine wpAnyH_done (by kernel_rfl) ?_ _
   go_wp2
   go_ret
   exact ⟨by rw [Hr.out];rw [HN.out];rfl,kW.trans (by assumption)⟩
set_option maxHeartbeats 2000000 in
theorem Lt (t:ag) (w:World) (c1:(t.cls==1)=false) (c2:(t.cls==2)=true) :
  Calls Tryz.prog 74 #[tk t] w fun e w'=>e = .returned (.bool (fy t&&iN t&&gA t.cj t)) /\ aa w w':=by
 obtain ⟨N,HN⟩:∃ N,Hid (t.cj=N):=⟨_,rfl⟩
 go_enter Tryz.func74,Tryz.ntmps74
 go_wp2_with fail
 refine (qS t _).mono ?_
 rintro e w1 ⟨rfl,k1⟩
 have B1:=(ai.new w (tc t) 43).keeps k1
 have K1:aa w w1:=((aa.refl w).alloc _).trans k1
 clear k1
 go_wp2_with fail
 have kW:aa w (w1.alloc (.cells (aT t) 171)):=K1.alloc _
 have r1:∀ w',aa (w1.alloc (.cells (aT t) 171)) w'->∀ k,w'.cell? ⟨w.heap.size,k,none⟩=(tc t)[k]?:=fun w' h=>((B1.alloc _).keeps h).cells
 have r2:=dE w1 (aT t) 171
 have K0:=aa.refl (w1.alloc (.cells (aT t) 171))
 clear B1 K1
 generalize w1.alloc (.cells (aT t) 171)=W at *
 generalize w1.heap.size=s at *
 cases d0:fy t
 ·skip
  have Hr:Hid ((fy t&&iN t&&gA t.cj t)=false):=by show _=_;simp [d0]
  refine wp_region_held_drew (S:=(fun w'=>aa W w')) (by kernel_rfl) ?_ (fun hHeld => ?_)
  ·exact K0.drew
  refine ad.go [0,1] ?_
  iterate 2 (refine aJ (h := ?_);try simp only [ar])
  refine ad.nil ?_
  refine aO 2 (h:=fun K hK => ?_)
  go_simp
  first
     | (go_at_call 113;refine (iD t _).mono ?_;rintro e w2 ⟨rfl,k2⟩;rw [d0])
     | (go_at_call 117;refine (pU t _).mono ?_;rintro e w3 ⟨rfl,k3⟩;rw [d1])
     | (go_at_call 118;refine (mL t _).mono ?_;rintro e w4 ⟨rfl,k4⟩;rw [HN.out])
  try go_wp2_with fail
  refine hK.out _ _ ?_ fun hHeld => ?_
  ·exact aa.trans (by assumption) (by assumption)
  clear hK K
  try simp only [ar]
  refine cU 3 (h := ?_)
  try simp only [ar]
  refine ad.go [4,5,6] ?_
  iterate 3 (refine dB (h := ?_);try simp only [ar])
  refine ad.nil ?_
  refine ad.go [7,8] ?_
  iterate 2 (refine aJ (h := ?_);try simp only [ar])
  refine ad.nil ?_
  refine ad.go [9,10,11,12] ?_
  iterate 4 (refine dB (h := ?_);try simp only [ar])
  refine ad.nil ?_
  refine ad.go [13,14] ?_
  iterate 2 (refine aJ (h := ?_);try simp only [ar])
  refine ad.nil ?_
  refine wpAnyH_done (by kernel_rfl) ?_ _
  go_wp2
  go_ret
  exact ⟨by rw [Hr.out];rfl,kW.trans (by assumption)⟩
 ·cases d1:iN t
  ·skip
   have Hr:Hid ((fy t&&iN t&&gA t.cj t)=false):=by show _=_;simp [d1]
   refine wp_region_held_drew (S:=(fun w'=>aa W w')) (by kernel_rfl) ?_ (fun hHeld => ?_)
   ·exact K0.drew
   refine ad.go [0,1] ?_
   iterate 2 (refine aJ (h := ?_);try simp only [ar])
   refine ad.nil ?_
   refine aO 2 (h:=fun K hK => ?_)
   go_simp
   first
      | (go_at_call 113;refine (iD t _).mono ?_;rintro e w2 ⟨rfl,k2⟩;rw [d0])
      | (go_at_call 117;refine (pU t _).mono ?_;rintro e w3 ⟨rfl,k3⟩;rw [d1])
      | (go_at_call 118;refine (mL t _).mono ?_;rintro e w4 ⟨rfl,k4⟩;rw [HN.out])
   try go_wp2_with fail
   refine hK.out _ _ ?_ fun hHeld => ?_
   ·exact aa.trans (by assumption) (by assumption)
   clear hK K
   try simp only [ar]
   refine ad.go [3,4,5] ?_
   iterate 3 (refine aJ (h := ?_);try simp only [ar])
   refine ad.nil ?_
   refine aO 6 (h:=fun K hK => ?_)
   go_simp
   first
      | (go_at_call 113;refine (iD t _).mono ?_;rintro e w2 ⟨rfl,k2⟩;rw [d0])
      | (go_at_call 117;refine (pU t _).mono ?_;rintro e w3 ⟨rfl,k3⟩;rw [d1])
      | (go_at_call 118;refine (mL t _).mono ?_;rintro e w4 ⟨rfl,k4⟩;rw [HN.out])
   try go_wp2_with fail
   refine hK.out _ _ ?_ fun hHeld => ?_
   ·exact aa.trans (by assumption) (by assumption)
   clear hK K
   try simp only [ar]
   refine ad.go [7,8] ?_
   iterate 2 (refine aJ (h := ?_);try simp only [ar])
   refine ad.nil ?_
   refine ad.go [9,10,11,12] ?_
   iterate 4 (refine dB (h := ?_);try simp only [ar])
   refine ad.nil ?_
   refine ad.go [13,14] ?_
   iterate 2 (refine aJ (h := ?_);try simp only [ar])
   refine ad.nil ?_
   refine wpAnyH_done (by kernel_rfl) ?_ _
   go_wp2
   go_ret
   exact ⟨by rw [Hr.out];rfl,kW.trans (by assumption)⟩
  ·skip
   have Hr:Hid ((fy t&&iN t&&gA t.cj t)=gA t.cj t):=by show _=_;simp [d0,d1]
   refine wp_region_held_drew (S:=(fun w'=>aa W w')) (by kernel_rfl) ?_ (fun hHeld => ?_)
   ·exact K0.drew
   refine ad.go [0,1] ?_
   iterate 2 (refine aJ (h := ?_);try simp only [ar])
   refine ad.nil ?_
   refine aO 2 (h:=fun K hK => ?_)
   go_simp
   first
      | (go_at_call 113;refine (iD t _).mono ?_;rintro e w2 ⟨rfl,k2⟩;rw [d0])
      | (go_at_call 117;refine (pU t _).mono ?_;rintro e w3 ⟨rfl,k3⟩;rw [d1])
      | (go_at_call 118;refine (mL t _).mono ?_;rintro e w4 ⟨rfl,k4⟩;rw [HN.out])
   try go_wp2_with fail
   refine hK.out _ _ ?_ fun hHeld => ?_
   ·exact aa.trans (by assumption) (by assumption)
   clear hK K
   try simp only [ar]
   refine ad.go [3,4,5] ?_
   iterate 3 (refine aJ (h := ?_);try simp only [ar])
   refine ad.nil ?_
   refine aO 6 (h:=fun K hK => ?_)
   go_simp
   first
      | (go_at_call 113;refine (iD t _).mono ?_;rintro e w2 ⟨rfl,k2⟩;rw [d0])
      | (go_at_call 117;refine (pU t _).mono ?_;rintro e w3 ⟨rfl,k3⟩;rw [d1])
      | (go_at_call 118;refine (mL t _).mono ?_;rintro e w4 ⟨rfl,k4⟩;rw [HN.out])
   try go_wp2_with fail
   refine hK.out _ _ ?_ fun hHeld => ?_
   ·exact aa.trans (by assumption) (by assumption)
   clear hK K
   try simp only [ar]
   refine ad.go [7,8,9,11] ?_
   iterate 4 (refine aJ (h := ?_);try simp only [ar])
   refine ad.nil ?_
   refine aO 10 (h:=fun K hK => ?_)
   go_simp
   first
      | (go_at_call 113;refine (iD t _).mono ?_;rintro e w2 ⟨rfl,k2⟩;rw [d0])
      | (go_at_call 117;refine (pU t _).mono ?_;rintro e w3 ⟨rfl,k3⟩;rw [d1])
      | (go_at_call 118;refine (mL t _).mono ?_;rintro e w4 ⟨rfl,k4⟩;rw [HN.out])
   try go_wp2_with fail
   refine hK.out _ _ ?_ fun hHeld => ?_
   ·exact aa.trans (by assumption) (by assumption)
   clear hK K
   try simp only [ar]
   refine ad.go [12,13,14] ?_
   iterate 3 (refine aJ (h := ?_);try simp only [ar])
   refine ad.nil ?_
   refine wpAnyH_done (by kernel_rfl) ?_ _
   go_wp2
   go_ret
   exact ⟨by rw [Hr.out];rw [HN.out];rfl,kW.trans (by assumption)⟩
set_option maxHeartbeats 2000000 in
theorem Lu (t:ag) (w:World) (c1:(t.cls==1)=false) (c2:(t.cls==2)=false) (c3:(t.cls==3)=true) :
  Calls Tryz.prog 74 #[tk t] w fun e w'=>e = .returned (.bool (fy t&&kq t&&gA t.bk t)) /\ aa w w':=by
 obtain ⟨N,HN⟩:∃ N,Hid (t.bk=N):=⟨_,rfl⟩
 go_enter Tryz.func74,Tryz.ntmps74
 go_wp2_with fail
 refine (tw t _).mono ?_
 rintro e w1 ⟨rfl,k1⟩
 have B1:=(ai.new w (tc t) 43).keeps k1
 have K1:aa w w1:=((aa.refl w).alloc _).trans k1
 clear k1
 go_wp2_with fail
 have kW:aa w (w1.alloc (.cells (aV t) 176)):=K1.alloc _
 have r1:∀ w',aa (w1.alloc (.cells (aV t) 176)) w'->∀ k,w'.cell? ⟨w.heap.size,k,none⟩=(tc t)[k]?:=fun w' h=>((B1.alloc _).keeps h).cells
 have r2:=dE w1 (aV t) 176
 have K0:=aa.refl (w1.alloc (.cells (aV t) 176))
 clear B1 K1
 generalize w1.alloc (.cells (aV t) 176)=W at *
 generalize w1.heap.size=s at *
 cases d0:fy t
 ·skip
  have Hr:Hid ((fy t&&kq t&&gA t.bk t)=false):=by show _=_;simp [d0]
  refine wp_region_held_drew (S:=(fun w'=>aa W w')) (by kernel_rfl) ?_ (fun hHeld => ?_)
  ·exact K0.drew
  refine ad.go [0,1] ?_
  iterate 2 (refine aJ (h := ?_);try simp only [ar])
  refine ad.nil ?_
  refine aO 2 (h:=fun K hK => ?_)
  go_simp
  first
     | (go_at_call 113;refine (iD t _).mono ?_;rintro e w2 ⟨rfl,k2⟩;rw [d0])
     | (go_at_call 120;refine (pV t _).mono ?_;rintro e w3 ⟨rfl,k3⟩;rw [d1])
     | (go_at_call 121;refine (mM t _).mono ?_;rintro e w4 ⟨rfl,k4⟩;rw [HN.out])
  try go_wp2_with fail
  refine hK.out _ _ ?_ fun hHeld => ?_
  ·exact aa.trans (by assumption) (by assumption)
  clear hK K
  try simp only [ar]
  refine cU 3 (h := ?_)
  try simp only [ar]
  refine ad.go [4,5,6] ?_
  iterate 3 (refine dB (h := ?_);try simp only [ar])
  refine ad.nil ?_
  refine ad.go [7,8] ?_
  iterate 2 (refine aJ (h := ?_);try simp only [ar])
  refine ad.nil ?_
  refine ad.go [9,10,11,12] ?_
  iterate 4 (refine dB (h := ?_);try simp only [ar])
  refine ad.nil ?_
  refine ad.go [13,14] ?_
  iterate 2 (refine aJ (h := ?_);try simp only [ar])
  refine ad.nil ?_
  refine wpAnyH_done (by kernel_rfl) ?_ _
  go_wp2
  go_ret
  exact ⟨by rw [Hr.out];rfl,kW.trans (by assumption)⟩
 ·cases d1:kq t
  ·skip
   have Hr:Hid ((fy t&&kq t&&gA t.bk t)=false):=by show _=_;simp [d1]
   refine wp_region_held_drew (S:=(fun w'=>aa W w')) (by kernel_rfl) ?_ (fun hHeld => ?_)
   ·exact K0.drew
   refine ad.go [0,1] ?_
   iterate 2 (refine aJ (h := ?_);try simp only [ar])
   refine ad.nil ?_
   refine aO 2 (h:=fun K hK => ?_)
   go_simp
   first
      | (go_at_call 113;refine (iD t _).mono ?_;rintro e w2 ⟨rfl,k2⟩;rw [d0])
      | (go_at_call 120;refine (pV t _).mono ?_;rintro e w3 ⟨rfl,k3⟩;rw [d1])
      | (go_at_call 121;refine (mM t _).mono ?_;rintro e w4 ⟨rfl,k4⟩;rw [HN.out])
   try go_wp2_with fail
   refine hK.out _ _ ?_ fun hHeld => ?_
   ·exact aa.trans (by assumption) (by assumption)
   clear hK K
   try simp only [ar]
   refine ad.go [3,4,5] ?_
   iterate 3 (refine aJ (h := ?_);try simp only [ar])
   refine ad.nil ?_
   refine aO 6 (h:=fun K hK => ?_)
   go_simp
   first
      | (go_at_call 113;refine (iD t _).mono ?_;rintro e w2 ⟨rfl,k2⟩;rw [d0])
      | (go_at_call 120;refine (pV t _).mono ?_;rintro e w3 ⟨rfl,k3⟩;rw [d1])
      | (go_at_call 121;refine (mM t _).mono ?_;rintro e w4 ⟨rfl,k4⟩;rw [HN.out])
   try go_wp2_with fail
   refine hK.out _ _ ?_ fun hHeld => ?_
   ·exact aa.trans (by assumption) (by assumption)
   clear hK K
   try simp only [ar]
   refine ad.go [7,8] ?_
   iterate 2 (refine aJ (h := ?_);try simp only [ar])
   refine ad.nil ?_
   refine ad.go [9,10,11,12] ?_
   iterate 4 (refine dB (h := ?_);try simp only [ar])
   refine ad.nil ?_
   refine ad.go [13,14] ?_
   iterate 2 (refine aJ (h := ?_);try simp only [ar])
   refine ad.nil ?_
   refine wpAnyH_done (by kernel_rfl) ?_ _
   go_wp2
   go_ret
   exact ⟨by rw [Hr.out];rfl,kW.trans (by assumption)⟩
  ·skip
   have Hr:Hid ((fy t&&kq t&&gA t.bk t)=gA t.bk t):=by show _=_;simp [d0,d1]
   refine wp_region_held_drew (S:=(fun w'=>aa W w')) (by kernel_rfl) ?_ (fun hHeld => ?_)
   ·exact K0.drew
   refine ad.go [0,1] ?_
   iterate 2 (refine aJ (h := ?_);try simp only [ar])
   refine ad.nil ?_
   refine aO 2 (h:=fun K hK => ?_)
   go_simp
   first
      | (go_at_call 113;refine (iD t _).mono ?_;rintro e w2 ⟨rfl,k2⟩;rw [d0])
      | (go_at_call 120;refine (pV t _).mono ?_;rintro e w3 ⟨rfl,k3⟩;rw [d1])
      | (go_at_call 121;refine (mM t _).mono ?_;rintro e w4 ⟨rfl,k4⟩;rw [HN.out])
   try go_wp2_with fail
   refine hK.out _ _ ?_ fun hHeld => ?_
   ·exact aa.trans (by assumption) (by assumption)
   clear hK K
   try simp only [ar]
   refine ad.go [3,4,5] ?_
   iterate 3 (refine aJ (h := ?_);try simp only [ar])
   refine ad.nil ?_
   refine aO 6 (h:=fun K hK => ?_)
   go_simp
   first
      | (go_at_call 113;refine (iD t _).mono ?_;rintro e w2 ⟨rfl,k2⟩;rw [d0])
      | (go_at_call 120;refine (pV t _).mono ?_;rintro e w3 ⟨rfl,k3⟩;rw [d1])
      | (go_at_call 121;refine (mM t _).mono ?_;rintro e w4 ⟨rfl,k4⟩;rw [HN.out])
   try go_wp2_with fail
   refine hK.out _ _ ?_ fun hHeld => ?_
   ·exact aa.trans (by assumption) (by assumption)
   clear hK K
   try simp only [ar]
   refine ad.go [7,8,9,11] ?_
   iterate 4 (refine aJ (h := ?_);try simp only [ar])
   refine ad.nil ?_
   refine aO 10 (h:=fun K hK => ?_)
   go_simp
   first
      | (go_at_call 113;refine (iD t _).mono ?_;rintro e w2 ⟨rfl,k2⟩;rw [d0])
      | (go_at_call 120;refine (pV t _).mono ?_;rintro e w3 ⟨rfl,k3⟩;rw [d1])
      | (go_at_call 121;refine (mM t _).mono ?_;rintro e w4 ⟨rfl,k4⟩;rw [HN.out])
   try go_wp2_with fail
   refine hK.out _ _ ?_ fun hHeld => ?_
   ·exact aa.trans (by assumption) (by assumption)
   clear hK K
   try simp only [ar]
   refine ad.go [12,13,14] ?_
   iterate 3 (refine aJ (h := ?_);try simp only [ar])
   refine ad.nil ?_
   refine wpAnyH_done (by kernel_rfl) ?_ _
   go_wp2
   go_ret
   exact ⟨by rw [Hr.out];rw [HN.out];rfl,kW.trans (by assumption)⟩
theorem ml:Lw:=by
 intro t w
 cases c1:(t.cls==1)
 ·cases c2:(t.cls==2)
  ·cases c3:(t.cls==3)
   ·have Hr:Hid (aY t=false):=Lq t c1 c2 c3
    go_enter Tryz.func74,Tryz.ntmps74
    go_wp2
    go_ret
    exact ⟨by rw [Hr.out];rfl,(aa.refl _).alloc _⟩
   ·rw [Be t c3];exact Lu t w c1 c2 c3
  ·rw [Bc t c2];exact Lt t w c1 c2
 ·rw [Ba t c1];exact Lr t w c1
end
section
attribute [local go_sem] aa.refl aa.alloc aa.drew aa.drewN
theorem Lx {ts:List ag} {no:Int} {k:Nat} {t:ag} (ht:ts[k]?=some t) (hq:(t.no==no)=true) (H:∀ (j:Nat) (s:ag),j < k->ts[j]?=some s->(s.no==no)=false):dA ts no=k:=by
 have hk':k < ts.length:=by
  rcases Nat.lt_or_ge k ts.length with h | h
  ·exact h
  ·simp [List.getElem?_eq_none h] at ht
 have:ts.findIdx? (fun t=>t.no==no)=some k:=by
  rw [List.findIdx?_eq_some_iff_getElem]
  have e1:ts[k]=t:=by rw [List.getElem?_eq_getElem hk'] at ht;simpa using ht
  refine ⟨hk',by rw [e1];exact hq,fun j hj => ?_⟩
  have:=H j ts[j] hj (List.getElem?_eq_getElem _)
  simp [this]
 simp [dA,this]
theorem Ly {ts:List ag} {no:Int} (H:∀ (j:Nat) (s:ag),ts[j]?=some s->(s.no==no)=false):dA ts no = -1:=by
 have:ts.findIdx? (fun t=>t.no==no)=none:=by
  rw [List.findIdx?_eq_none_iff]
  intro t ht
  obtain ⟨j,hj,rfl⟩:=List.mem_iff_getElem.1 ht
  exact H j _ (List.getElem?_eq_getElem hj)
 simp [dA,this]
set_option maxHeartbeats 1000000 in
theorem vM:Lz:=by
 intro a cap ts no w hl hs
 unfold maxLen at hl
 generalize hn:ts.length=n at hl
 have Hn:Hid (ts.length=n):=hn
 clear hn
 go_enter Tryz.func17,Tryz.ntmps17
 go_wp2
 go_loopw [9] (fun i wr=>∃ k:Nat,k <= n /\ i = .int .i64 k /\ aa w wr /\ Hid (∀ j t,j < k->ts[j]?=some t->(t.no==no)=false)) (fun i _=>n - (intOf i).toNat)
 case atStart=>exact ⟨0,Nat.zero_le _,rfl,aa.refl _,fun j t hj=>by omega⟩
 case round =>
  obtain ⟨k,hk,rfl,hK,H⟩:=hrel
  by_cases hlt:k < n
  ·obtain ⟨t,ht⟩:=iW (xs:=ts) (k:=k) (by rw [Hn.out];exact hlt)
   obtain ⟨b,off,rfl,r0,r1⟩:=hs.at ht (by omega)
   have hlt':(k:Int) < (n:Int):=by omega
   have Ht:Hid (ts[k]?=some t):=ht
   clear hs ht
   cases hq:(t.no==no)
   ·go_wp2
    exact ⟨⟨k+1,by omega,by go_num,hK.alloc _,fun j s hj hs=>by
     by_cases e:j=k
     ·subst e;rw [Ht.out] at hs;cases hs;exact hq
     ·exact H.out j s (by omega) hs⟩,by simp only [intOf];omega⟩
   ·have Hr:Hid (dA ts no=k):=Lx Ht.out hq H.out
    go_wp2
    go_ret
    exact ⟨by rw [Hr.out];rfl,hK.alloc _⟩
  ·have Hr:Hid (dA ts no = -1):=Ly fun j s hs=>by
    refine H.out j s ?_ hs
    rcases Nat.lt_or_ge j ts.length with h' | h'
    ·have:=Hn.out;omega
    ·simp [List.getElem?_eq_none h'] at hs
   go_wp2
   go_ret
   exact ⟨by rw [Hr.out];rfl,hK⟩
end
def l9 (s:Sy) (t:ag):ag:={ (if jx s.tasks s.af t.no&&t.idle then nk (jE { t with idle:=false } s.now) (s.ax.getD t.cpu.toNat 0) else t) with idle := !jx s.tasks s.af t.no }
def fP (s:Sy):Sy:={ s with tasks:=s.tasks.map (l9 s) }
def kr (cpu:Int) (t:ag):Bool:=t.cpu==cpu && !t.idle
def nD (s:Sy) (cpu:Int):List ag:=s.tasks.filter (kr cpu)
def Bu (s:Sy) (t:ag):ag:=j3 (nj (lX t)) (s.seq+1)
def Bv (s:Sy) (t:ag):Bool:=j4 (nj (lX t)) (s.seq+1)
def tu (s:Sy) (cpu:Int) (k:Nat) (t:ag):Sy:={ s with seq:=if Bv s t then s.seq+1 else s.seq,tasks:=s.tasks.set k (Bu s t),trace:=s.trace++[⟨cpu,t.no,gx s.tasks s.af t.no⟩] }
def gw (s:Sy) (cpu:Int):Sy :=
 if qc5 s.tasks s.af cpu < 0 then { s with trace:=s.trace++[⟨cpu,0,0⟩] }
 else tu s cpu (qc5 s.tasks s.af cpu).toNat (s.tasks.getD (qc5 s.tasks s.af cpu).toNat ag.zero)
def eL (s:Sy):Nat->Sy
 | 0=>s
 | n+1=>gw (eL s n) n
def ma (now:Int) (t:ag):Bool:=t.cls==1&&(!t.idle&&decide (t.due <= now))
def ks (now:Int) (m:Int) (t:ag):Int:=if ma now t&&decide (0 < t.left) then min (m+1) 100000 else m
def js (now:Int) (t:ag):ag:=if ma now t then j5 t now else t
def fZ (s:Sy):Sy:={ s with ah:=s.ah.filter (fun g=>decide (s.now < g.fU)),missed:=s.tasks.foldl (ks s.now) s.missed,tasks:=s.tasks.map (js s.now) }
def gS (s:Sy):Sy:={ s with ax:=s.ax.mapIdx fun c x=>lJ (nD s c) x }
def iI (s:Sy):Bool:=bf s&&(!(s.now==100000)&&(!decide (900000 < s.seq) && !decide (400 < (s.trace.length:Int)+s.az)))
def qW (s:Sy):Sy:={ s with now:=s.now+1 }
def dW (s:Sy):Sy:=if iI s then qW (eL (gS (fP (fZ s))) s.az.toNat) else if bf s then s else Sy.zero
def f8 (s:Sy):Nat->Sy × Nat
 | 0=>(s,0)
 | n+1=>if iI s then ((f8 (dW s) n).1,(f8 (dW s) n).2+1) else (s,0)
structure Cl where
 kind:Int
 no:Int
 cpu:Int
 a:Int
 b:Int
def eh (c:Cl):Cl :=
 if c.kind==1||c.kind==2 then c
 else if c.kind==3 then { c with b:=0 }
 else if c.kind==4||c.kind==5||c.kind==6 then { c with cpu:=0,a:=0,b:=0 }
 else if c.kind==7||c.kind==8||c.kind==9 then { c with cpu:=0,b:=0 }
 else if c.kind==10 then { c with a:=0,b:=0 }
 else if c.kind==11 then { c with no:=0,cpu:=0,b:=0 }
 else c
def fF (x y:Cl):Bool:=x.kind==y.kind&&(x.no==y.no&&(x.cpu==y.cpu&&(x.a==y.a&&x.b==y.b)))
def ey (c:Cl):Bool:=aF c.kind 1 11&&fF c (eh c)
def mw (s:Sy) (c:Cl):ag:=if c.kind==1 then lg c.no c.cpu c.a c.b s.now else if c.kind==2 then eA (gC c.no c.cpu c.a c.b (s.seq+1)) else eA (lS c.no c.cpu c.a (ni s c.cpu))
def qO (s:Sy) (c:Cl):Bool:=if c.kind==1 then lT c.no c.cpu c.a c.b s.now else if c.kind==2 then aY (gC c.no c.cpu c.a c.b (s.seq+1)) else aY (lS c.no c.cpu c.a (ni s c.cpu))
def zj (s:Sy) (c:Cl):Bool:=dP s.tasks (mw s c)&&(!(c.kind==1)||jY (fe s c.cpu++[(c.a,c.b)]))
def fw (s:Sy) (c:Cl):Int :=
 if decide (s.az <= c.cpu) || !qO s c then 1 else if bF s.tasks c.no then 3 else if !zj s c||(c.kind==2&&decide (900000 < s.seq)) then 4 else 0
def jg (s:Sy) (c:Cl):Sy:={ s with tasks:=cg s.tasks (mw s c),seq:=if c.kind==2 then s.seq+1 else s.seq }
def s8 (s:Sy) (no:Int):Bool:=kR s.af no || !decide (d8 s.af no < 0)
def ng (t:ag):Gh:=⟨t.cpu,t.q,t.p,t.due⟩
def qH (s:Sy) (t:ag):Bool:=t.cls==1&&decide (s.now < t.due)
def lQ (s:Sy) (t:ag):Int:=if s8 s t.no then 5 else if qH s t&&s.ah.length==12 then 4 else 0
def nf (s:Sy) (k:Nat) (t:ag):Sy:={ s with ah:=if qH s t then s.ah++[ng t] else s.ah,tasks:=s.tasks.eraseIdx k }
def kV (s:Sy) (c:Cl) (t:ag):Int :=
 if !aF c.a 0 4 then 2 else if t.st==2||(!decide (d8 s.af c.no < 0)||(d7 s.af c.a.toNat==c.no || !eS s c.a c.no)) then 5 else if cl s.af c.a c.no==4 then 6 else 0
def uT (s:Sy) (c:Cl):Sy:={ s with af:=bX s.af c.a c.no }
def je (s:Sy) (c:Cl) (t:ag):Int :=
 if !aF c.a 0 4 then 2 else if t.st==2||(!decide (d8 s.af c.no < 0)||d7 s.af c.a.toNat != c.no) then 5 else 0
def jX (s:Sy) (c:Cl):Sy:={ s with af:=dV s.af c.a c.no (eO s.tasks (jm s.af c.a.toNat)) }
def mr (s:Sy) (c:Cl) (t:ag):Int:=if t.cls != 3||s8 s t.no then 5 else if !aF c.cpu 0 (s.az - 1) then 1 else 0
def qK (s:Sy) (c:Cl) (k:Nat) (t:ag):Sy:={ s with tasks:=s.tasks.set k (jf t c.cpu (s.ax.getD t.cpu.toNat 0) (s.ax.getD c.cpu.toNat 0)) }
def mi (s:Sy) (c:Cl) (t:ag):Int :=
 if c.kind==4 then (if t.st==2 || !decide (d8 s.af c.no < 0) then 5 else 0)
 else if c.kind==5 then (if t.st != 2 then 5 else 0)
 else if c.kind==6 then lQ s t
 else if c.kind==7 then kV s c t
 else if c.kind==8 then je s c t
 else if c.kind==9 then (if t.cls != 3 then 5 else if !aF c.a (-4) 4 then 1 else 0)
 else if c.kind==10 then mr s c t
 else 0
def lI (s:Sy) (c:Cl) (k:Nat) (t:ag):Sy :=
 if c.kind==4 then { s with tasks:=s.tasks.set k { t with st:=2 } }
 else if c.kind==5 then { s with tasks:=s.tasks.set k { t with st:=1 } }
 else if c.kind==6 then nf s k t
 else if c.kind==7 then uT s c
 else if c.kind==8 then jX s c
 else if c.kind==9 then { s with tasks:=s.tasks.set k { t with nice:=c.a } }
 else if c.kind==10 then qK s c k t
 else s
def df (s:Sy) (c:Cl):Int :=
 if c.kind <= 3 then fw s c
 else if c.kind==11 then (if !aF c.a 1 50 then 1 else if ((f8 s c.a.toNat).2:Int) < c.a then 4 else 0)
 else if !bF s.tasks c.no then 2
 else mi s c (de s.tasks c.no)
def ei (s:Sy) (c:Cl):Sy :=
 if c.kind <= 3 then jg s c
 else if c.kind==11 then (f8 s c.a.toNat).1
 else lI s c (dA s.tasks c.no).toNat (de s.tasks c.no)
def fK (s:Sy) (c:Cl):Int:=if bf s&&ey c then df s c else 1
def eQ (s:Sy) (c:Cl):Sy:=if bf s&&ey c then (if df s c==0 then ei s c else s) else Sy.zero
def bU (s:Sy):List Cl->Sy
 | []=>s
 | c::r=>if fK s c==0 then bU (eQ s c) r else bU s r
def runN (s:Sy):List Cl->List Int
 | []=>[]
 | c::r=>fK s c::(if fK s c==0 then runN (eQ s c) r else runN s r)
section
attribute [local go_sem] aa.refl aa.alloc aa.drew aa.drewN
abbrev cc (c:Cl):Array Value:=#[.int .i64 c.kind,.int .i64 c.no,.int .i64 c.cpu,.int .i64 c.a,.int .i64 c.b]
abbrev ck (c:Cl):Value := .agg (cc c)
theorem yV (c:Cl):(cc c).size=5:=rfl
theorem LD (d:Nat) (w:World) (a b:Cl):(Op.equalIn (d+2) 32 (ck a) (ck b)).run Tryz.prog w = .ok (fF a b) w:=by
 obtain ⟨a0,a1,a2,a3,a4⟩:=a
 obtain ⟨b0,b1,b2,b3,b4⟩:=b
 simp only [fF]
 rw [run_equalIn_agg _ _ _ _ _ (by kernel_rfl) (by kernel_rfl)]
 go_simp
 by_cases h0:a0=b0
 case neg=>simp only [if_neg h0,beq_eq_false_iff_ne.2 h0,Bool.false_and]
 simp only [if_pos h0,beq_iff_eq.2 h0,Bool.true_and]
 by_cases h1:a1=b1
 case neg=>simp only [if_neg h1,beq_eq_false_iff_ne.2 h1,Bool.false_and]
 simp only [if_pos h1,beq_iff_eq.2 h1,Bool.true_and]
 by_cases h2:a2=b2
 case neg=>simp only [if_neg h2,beq_eq_false_iff_ne.2 h2,Bool.false_and]
 simp only [if_pos h2,beq_iff_eq.2 h2,Bool.true_and]
 by_cases h3:a3=b3
 case neg=>simp only [if_neg h3,beq_eq_false_iff_ne.2 h3,Bool.false_and]
 simp only [if_pos h3,beq_iff_eq.2 h3,Bool.true_and]
 by_cases h4:a4=b4
 case neg=>simp only [if_neg h4,beq_eq_false_iff_ne.2 h4]
 simp only [if_pos h4,beq_iff_eq.2 h4]
theorem Ad (w:World) (a b:Cl):(binOp .eql 32 (ck a) (ck b)).run Tryz.prog w = .ok (.bool (fF a b)) w:=by
 rw [run_eql_struct,LD 9998];rfl
set_option maxHeartbeats 4000000 in
theorem vB (c:Cl) (w:World) :
  Calls Tryz.prog 81 #[ck c] w fun e w'=>e = .returned (ck (eh c)) /\ aa w w':=by
 cases c1:(c.kind==1)
 rotate_left
 ·have Hr:Hid (eh c=c):=by show _=_;simp [eh,c1]
  go_enter Tryz.func81,Tryz.ntmps81
  go_wp2
  exact bodyPost_ret (v:=ck c) (by simp [results,Tryz.results81,go_sem]) rfl ⟨by rw [Hr.out],by repeat (first | exact aa.refl _ | refine aa.setCell ?_ (by simp) _ | refine aa.alloc ?_ _ | refine aa.drewN ?_ _)⟩
 cases c2:(c.kind==2)
 rotate_left
 ·have Hr:Hid (eh c=c):=by show _=_;simp [eh,c1,c2]
  go_enter Tryz.func81,Tryz.ntmps81
  go_wp2
  exact bodyPost_ret (v:=ck c) (by simp [results,Tryz.results81,go_sem]) rfl ⟨by rw [Hr.out],by repeat (first | exact aa.refl _ | refine aa.setCell ?_ (by simp) _ | refine aa.alloc ?_ _ | refine aa.drewN ?_ _)⟩
 cases c3:(c.kind==3)
 rotate_left
 ·have Hr:Hid (eh c={ c with b:=0 }):=by show _=_;simp [eh,c1,c2,c3]
  go_enter Tryz.func81,Tryz.ntmps81
  go_wp2
  exact bodyPost_ret (v:=ck { c with b:=0 }) (by simp [results,Tryz.results81,go_sem]) rfl ⟨by rw [Hr.out],by repeat (first | exact aa.refl _ | refine aa.setCell ?_ (by simp) _ | refine aa.alloc ?_ _ | refine aa.drewN ?_ _)⟩
 cases c4:(c.kind==4)
 rotate_left
 ·have Hr:Hid (eh c={ c with cpu:=0,a:=0,b:=0 }):=by show _=_;simp [eh,c1,c2,c3,c4]
  go_enter Tryz.func81,Tryz.ntmps81
  go_wp2
  exact bodyPost_ret (v:=ck { c with cpu:=0,a:=0,b:=0 }) (by simp [results,Tryz.results81,go_sem]) rfl ⟨by rw [Hr.out],by repeat (first | exact aa.refl _ | refine aa.setCell ?_ (by simp) _ | refine aa.alloc ?_ _ | refine aa.drewN ?_ _)⟩
 cases c5:(c.kind==5)
 rotate_left
 ·have Hr:Hid (eh c={ c with cpu:=0,a:=0,b:=0 }):=by show _=_;simp [eh,c1,c2,c3,c4,c5]
  go_enter Tryz.func81,Tryz.ntmps81
  go_wp2
  exact bodyPost_ret (v:=ck { c with cpu:=0,a:=0,b:=0 }) (by simp [results,Tryz.results81,go_sem]) rfl ⟨by rw [Hr.out],by repeat (first | exact aa.refl _ | refine aa.setCell ?_ (by simp) _ | refine aa.alloc ?_ _ | refine aa.drewN ?_ _)⟩
 cases c6:(c.kind==6)
 rotate_left
 ·have Hr:Hid (eh c={ c with cpu:=0,a:=0,b:=0 }):=by show _=_;simp [eh,c1,c2,c3,c4,c5,c6]
  go_enter Tryz.func81,Tryz.ntmps81
  go_wp2
  exact bodyPost_ret (v:=ck { c with cpu:=0,a:=0,b:=0 }) (by simp [results,Tryz.results81,go_sem]) rfl ⟨by rw [Hr.out],by repeat (first | exact aa.refl _ | refine aa.setCell ?_ (by simp) _ | refine aa.alloc ?_ _ | refine aa.drewN ?_ _)⟩
 cases c7:(c.kind==7)
 rotate_left
 ·have Hr:Hid (eh c={ c with cpu:=0,b:=0 }):=by show _=_;simp [eh,c1,c2,c3,c4,c5,c6,c7]
  go_enter Tryz.func81,Tryz.ntmps81
  go_wp2
  exact bodyPost_ret (v:=ck { c with cpu:=0,b:=0 }) (by simp [results,Tryz.results81,go_sem]) rfl ⟨by rw [Hr.out],by repeat (first | exact aa.refl _ | refine aa.setCell ?_ (by simp) _ | refine aa.alloc ?_ _ | refine aa.drewN ?_ _)⟩
 cases c8:(c.kind==8)
 rotate_left
 ·have Hr:Hid (eh c={ c with cpu:=0,b:=0 }):=by show _=_;simp [eh,c1,c2,c3,c4,c5,c6,c7,c8]
  go_enter Tryz.func81,Tryz.ntmps81
  go_wp2
  exact bodyPost_ret (v:=ck { c with cpu:=0,b:=0 }) (by simp [results,Tryz.results81,go_sem]) rfl ⟨by rw [Hr.out],by repeat (first | exact aa.refl _ | refine aa.setCell ?_ (by simp) _ | refine aa.alloc ?_ _ | refine aa.drewN ?_ _)⟩
 cases c9:(c.kind==9)
 rotate_left
 ·have Hr:Hid (eh c={ c with cpu:=0,b:=0 }):=by show _=_;simp [eh,c1,c2,c3,c4,c5,c6,c7,c8,c9]
  go_enter Tryz.func81,Tryz.ntmps81
  go_wp2
  exact bodyPost_ret (v:=ck { c with cpu:=0,b:=0 }) (by simp [results,Tryz.results81,go_sem]) rfl ⟨by rw [Hr.out],by repeat (first | exact aa.refl _ | refine aa.setCell ?_ (by simp) _ | refine aa.alloc ?_ _ | refine aa.drewN ?_ _)⟩
 cases c10:(c.kind==10)
 rotate_left
 ·have Hr:Hid (eh c={ c with a:=0,b:=0 }):=by show _=_;simp [eh,c1,c2,c3,c4,c5,c6,c7,c8,c9,c10]
  go_enter Tryz.func81,Tryz.ntmps81
  go_wp2
  exact bodyPost_ret (v:=ck { c with a:=0,b:=0 }) (by simp [results,Tryz.results81,go_sem]) rfl ⟨by rw [Hr.out],by repeat (first | exact aa.refl _ | refine aa.setCell ?_ (by simp) _ | refine aa.alloc ?_ _ | refine aa.drewN ?_ _)⟩
 cases c11:(c.kind==11)
 rotate_left
 ·have Hr:Hid (eh c={ c with no:=0,cpu:=0,b:=0 }):=by show _=_;simp [eh,c1,c2,c3,c4,c5,c6,c7,c8,c9,c10,c11]
  go_enter Tryz.func81,Tryz.ntmps81
  go_wp2
  exact bodyPost_ret (v:=ck { c with no:=0,cpu:=0,b:=0 }) (by simp [results,Tryz.results81,go_sem]) rfl ⟨by rw [Hr.out],by repeat (first | exact aa.refl _ | refine aa.setCell ?_ (by simp) _ | refine aa.alloc ?_ _ | refine aa.drewN ?_ _)⟩
 have Hr:Hid (eh c=c):=by show _=_;simp [eh,c1,c2,c3,c4,c5,c6,c7,c8,c9,c10,c11]
 go_enter Tryz.func81,Tryz.ntmps81
 go_wp2
 exact bodyPost_ret (v:=ck c) (by simp [results,Tryz.results81,go_sem]) rfl ⟨by rw [Hr.out],by repeat (first | exact aa.refl _ | refine aa.setCell ?_ (by simp) _ | refine aa.alloc ?_ _ | refine aa.drewN ?_ _)⟩
end
end Go.Proofs.YteagpjlgjfaclaaGreatDoor
