/-
  A drawn task that may be wrong in one field: the contract o
  Calls: what a kind names, and which calls are right.
-/
import Derived.Test.YteagpjlgjfaclaaGreatDoorErrAs
import Derived.Test.YteagpjlgjfaclaaGreatDoorSysAwake
import Derived.Test.YteagpjlgjfaclaaGreatDoorFrame
import Derived.Laws.StructEq
namespace Go.Proofs.YteagpjlgjfaclaaGreatDoor
set_option maxRecDepth 100000
open Go.RowKit
theorem DR.no {w W:World} {g r s:Nat} {t:Tsk} (h:DR w W g r s t) (x:Int):DR w (W.setCell ⟨s,0,none⟩ (.int .i64 x)) g r s { t with no:=x }:=h.cell 0 (by decide) _ (by simp)
theorem DR.cpu {w W:World} {g r s:Nat} {t:Tsk} (h:DR w W g r s t) (x:Int):DR w (W.setCell ⟨s,2,none⟩ (.int .i64 x)) g r s { t with cpu:=x }:=h.cell 2 (by decide) _ (by simp)
theorem DR.cls {w W:World} {g r s:Nat} {t:Tsk} (h:DR w W g r s t) (x:Int):DR w (W.setCell ⟨s,1,none⟩ (.int .i64 x)) g r s { t with cls:=x }:=h.cell 1 (by decide) _ (by simp)
theorem DR.due {w W:World} {g r s:Nat} {t:Tsk} (h:DR w W g r s t) (x:Int):DR w (W.setCell ⟨s,8,none⟩ (.int .i64 x)) g r s { t with due:=x }:=h.cell 8 (by decide) _ (by simp)
theorem DR.v {w W:World} {g r s:Nat} {t:Tsk} (h:DR w W g r s t) (x:Int):DR w (W.setCell ⟨s,13,none⟩ (.int .i64 x)) g r s { t with v:=x }:=h.cell 13 (by decide) _ (by simp)
theorem DR.prio {w W:World} {g r s:Nat} {t:Tsk} (h:DR w W g r s t) (x:Int):DR w (W.setCell ⟨s,9,none⟩ (.int .i64 x)) g r s { t with prio:=x }:=h.cell 9 (by decide) _ (by simp)
set_option maxHeartbeats 8000000 in
theorem qeY (g:Nat) (w:World) (hc:Cur w g) :
  Calls Tryz.prog 54 #[.pointer (some ⟨g,0,none⟩)] w fun e w'=>∃ t:Tsk,e = .returned (tk t) /\ Cur w' g /\ KeepsBut g w w':=by
 have hgl:=hc.lt
 go_enter Tryz.func54,Tryz.ntmps54
 go_wp2_with fail
 have hc0:=hc.keeps ((Keeps.refl w).alloc (.cells (tc Tsk.zero) 43))
 have B0:=Blk.new w (tc Tsk.zero) 43
 have kb0:=(KeepsBut.refl g w).alloc (.cells (tc Tsk.zero) 43)
 refine (qfW g _ hc0).mono ?_
 rintro e w1 ⟨t,rfl,hc1,k1⟩
 have B1:=B0.but k1 (by omega)
 have kb1:=kb0.trans k1
 have hr1:=B1.lt
 obtain ⟨r,Hr⟩:∃ r,Hid (w.heap.size=r):=⟨_,rfl⟩
 have hrr:=Hr.out
 rw [Hr.out] at B1 ⊢
 have S:DR w (w1.alloc (.cells (tc t) 43)) g r w1.heap.size t:=⟨hc1.keeps ((Keeps.refl _).alloc _),kb1.alloc _,B1.alloc _,Blk.new _ _ _,by omega,by omega,by omega⟩
 clear B0 B1 kb0 kb1 hc0 hc1 k1 hc hrr hr1
 go_wp2_with fail
 change Calls _ _ _ (w1.alloc (.cells (tc t) 43)) _
 generalize w1.alloc (.cells (tc t) 43)=W at *
 generalize w1.heap.size=s at *
 refine (qam g _ _ S.cur (by omega) (by omega)).mono ?_
 rintro e w3 ⟨c,rfl,hx0,hx1,hc3,k3⟩
 have S:=S.but k3 hc3
 clear hc3 k3
 go_upto_block 0 with fail
 go_cut [] (fun wx=>∃ t:Tsk,DR w wx g r s t)
 case first =>
  obtain rfl | rfl | rfl | rfl | rfl | rfl | rfl | rfl | hc8:c=0∨c=1∨c=2∨c=3∨c=4∨c=5∨c=6∨c=7∨8 <= c:=by omega
  ·go_wp2_with fail
   refine (qbC (fun _=>True) g [0,1000,1001] _ _ 3 3 _ _ rfl S.cur rfl (by decide) (by decide) rfl (by simp)).mono ?_
   rintro e w4 ⟨x,rfl,-,hc4,k4⟩
   have S:=S.but k4 hc4
   clear hc4 k4
   obtain ⟨q1,q2,f1,f2⟩:=S.rules
   have HS:Hid (DR w w4 g r s t):=S
   clear S
   go_wp2_with fail
   go_meet
   exact ⟨_,HS.out.no (x)⟩
  ·go_wp2_with fail
   refine (qbC (fun _=>True) g [-1,3,4] _ _ 3 3 _ _ rfl S.cur rfl (by decide) (by decide) rfl (by simp)).mono ?_
   rintro e w4 ⟨x,rfl,-,hc4,k4⟩
   have S:=S.but k4 hc4
   clear hc4 k4
   obtain ⟨q1,q2,f1,f2⟩:=S.rules
   have HS:Hid (DR w w4 g r s t):=S
   clear S
   go_wp2_with fail
   go_meet
   exact ⟨_,HS.out.cpu (x)⟩
  ·go_wp2_with fail
   refine (qam g _ _ S.cur (by omega) (by omega)).mono ?_
   rintro e w4 ⟨x,rfl,hy0,hy1,hc4,k4⟩
   have S:=S.but k4 hc4
   clear hc4 k4
   obtain ⟨q1,q2,f1,f2⟩:=S.rules
   have HS:Hid (DR w w4 g r s t):=S
   clear S
   go_wp2_with fail
   go_meet
   exact ⟨_,HS.out.st (x)⟩
  ·go_wp2_with fail
   refine (qam g _ _ S.cur (by omega) (by omega)).mono ?_
   rintro e w4 ⟨x,rfl,hy0,hy1,hc4,k4⟩
   have S:=S.but k4 hc4
   clear hc4 k4
   obtain ⟨q1,q2,f1,f2⟩:=S.rules
   have HS:Hid (DR w w4 g r s t):=S
   clear S
   go_wp2_with fail
   go_meet
   exact ⟨_,HS.out.cls (x)⟩
  ·go_wp2_with fail
   refine (qam g _ _ S.cur (by omega) (by omega)).mono ?_
   rintro e w4 ⟨x,rfl,hy0,hy1,hc4,k4⟩
   have S:=S.but k4 hc4
   clear hc4 k4
   obtain ⟨q1,q2,f1,f2⟩:=S.rules
   have HS:Hid (DR w w4 g r s t):=S
   clear S
   go_wp2_with fail
   go_meet
   exact ⟨_,HS.out.left (x - 2)⟩
  ·go_wp2_with fail
   refine (qbC (fun _=>True) g [-1,5,100040,100041] _ _ 4 4 _ _ rfl S.cur rfl (by decide) (by decide) rfl (by simp)).mono ?_
   rintro e w4 ⟨x,rfl,-,hc4,k4⟩
   have S:=S.but k4 hc4
   clear hc4 k4
   obtain ⟨q1,q2,f1,f2⟩:=S.rules
   have HS:Hid (DR w w4 g r s t):=S
   clear S
   go_wp2_with fail
   go_meet
   exact ⟨_,HS.out.due (x)⟩
  ·go_wp2_with fail
   refine (qbC (fun _=>True) g [-1,5,100000000,100000001,99999990] _ _ 5 5 _ _ rfl S.cur rfl (by decide) (by decide) rfl (by simp)).mono ?_
   rintro e w4 ⟨x,rfl,-,hc4,k4⟩
   have S:=S.but k4 hc4
   clear hc4 k4
   obtain ⟨q1,q2,f1,f2⟩:=S.rules
   have HS:Hid (DR w w4 g r s t):=S
   clear S
   go_wp2_with fail
   go_meet
   exact ⟨_,HS.out.v (x)⟩
  ·go_wp2_with fail
   refine (qam g _ _ S.cur (by omega) (by omega)).mono ?_
   rintro e w4 ⟨x,rfl,hy0,hy1,hc4,k4⟩
   have S:=S.but k4 hc4
   clear hc4 k4
   obtain ⟨q1,q2,f1,f2⟩:=S.rules
   have HS:Hid (DR w w4 g r s t):=S
   clear S
   go_wp2_with fail
   go_meet
   exact ⟨_,HS.out.prio (x)⟩
  ·have n0:(c==0)=false:=by simp;omega
   have n1:(c==1)=false:=by simp;omega
   have n2:(c==2)=false:=by simp;omega
   have n3:(c==3)=false:=by simp;omega
   have n4:(c==4)=false:=by simp;omega
   have n5:(c==5)=false:=by simp;omega
   have n6:(c==6)=false:=by simp;omega
   have n7:(c==7)=false:=by simp;omega
   go_wp2_with fail
   go_meet
   exact ⟨_,S⟩
 case rest =>
 obtain ⟨u,S⟩:=hcut
 generalize wc=W9 at *
 obtain ⟨q1,q2,f1,f2⟩:=S.rules
 have HS:Hid (DR w W9 g r s u):=S
 clear S
 go_wp2
 have T:=HS.out.done
 change bodyPost _ _ _ _ _ (putT W9 r u)
 generalize putT W9 r u=X at T ⊢
 obtain ⟨T1,T2,T3⟩:=T
 exact bodyPost_ret (v:=tk u) (by simp [results,Tryz.results54,go_sem,T1.cells]) rfl ⟨_,rfl,T2,T3⟩
end Go.Proofs.YteagpjlgjfaclaaGreatDoor
namespace Go.Proofs.YteagpjlgjfaclaaGreatDoor
set_option maxRecDepth 100000
open Go.RowKit
attribute [local go_sem] Keeps.refl Keeps.alloc Keeps.drew Keeps.drewN
abbrev cc (c:Cl):Array Value:=#[.int .i64 c.kind,.int .i64 c.no,.int .i64 c.cpu,.int .i64 c.a,.int .i64 c.b]
abbrev ck (c:Cl):Value := .agg (cc c)
theorem qfP (c:Cl):(cc c).size=5:=rfl
theorem qit (d:Nat) (w:World) (a b:Cl):(Op.equalIn (d+2) 32 (ck a) (ck b)).run Tryz.prog w = .ok (eqC a b) w:=by
 obtain ⟨a0,a1,a2,a3,a4⟩:=a
 obtain ⟨b0,b1,b2,b3,b4⟩:=b
 simp only [eqC]
 rw [run_equalIn_agg _ _ _ _ _ (by kernel_rfl) (by kernel_rfl)]
 go_simp
 by_cases h0:a0=b0
 case neg=>simp only [if_neg h0,beq_eq_false_iff_ne.2 h0,Bool.false_and]
 simp only [if_pos h0,beq_iff_eq.2 h0,Bool.true_and]
 by_cases h1:a1=b1
 case neg=>simp only [if_neg h1,beq_eq_false_iff_ne.2 h1,Bool.false_and]
 simp only [if_pos h1,beq_iff_eq.2 h1,Bool.true_and]
 by_cases h2:a2=b2
 case neg=>simp only [if_neg h2,beq_eq_false_iff_ne.2 h2,Bool.false_and]
 simp only [if_pos h2,beq_iff_eq.2 h2,Bool.true_and]
 by_cases h3:a3=b3
 case neg=>simp only [if_neg h3,beq_eq_false_iff_ne.2 h3,Bool.false_and]
 simp only [if_pos h3,beq_iff_eq.2 h3,Bool.true_and]
 by_cases h4:a4=b4
 case neg=>simp only [if_neg h4,beq_eq_false_iff_ne.2 h4]
 simp only [if_pos h4,beq_iff_eq.2 h4]
theorem qfQ (w:World) (a b:Cl):(binOp .eql 32 (ck a) (ck b)).run Tryz.prog w = .ok (.bool (eqC a b)) w:=by
 rw [run_eql_struct,qit 9998];rfl
set_option maxHeartbeats 4000000 in
theorem qeU (c:Cl) (w:World) :
  Calls Tryz.prog 81 #[ck c] w fun e w'=>e = .returned (ck (qaB c)) /\ Keeps w w':=by
 cases c1:(c.kind==1)
 rotate_left
 ·have Hr:Hid (qaB c=c):=by show _=_;simp [qaB,c1]
  go_enter Tryz.func81,Tryz.ntmps81
  go_wp2
  exact bodyPost_ret (v:=ck c) (by simp [results,Tryz.results81,go_sem]) rfl ⟨by rw [Hr.out],by repeat (first | exact Keeps.refl _ | refine Keeps.setCell ?_ (by simp) _ | refine Keeps.alloc ?_ _ | refine Keeps.drewN ?_ _)⟩
 cases c2:(c.kind==2)
 rotate_left
 ·have Hr:Hid (qaB c=c):=by show _=_;simp [qaB,c1,c2]
  go_enter Tryz.func81,Tryz.ntmps81
  go_wp2
  exact bodyPost_ret (v:=ck c) (by simp [results,Tryz.results81,go_sem]) rfl ⟨by rw [Hr.out],by repeat (first | exact Keeps.refl _ | refine Keeps.setCell ?_ (by simp) _ | refine Keeps.alloc ?_ _ | refine Keeps.drewN ?_ _)⟩
 cases c3:(c.kind==3)
 rotate_left
 ·have Hr:Hid (qaB c={ c with b:=0 }):=by show _=_;simp [qaB,c1,c2,c3]
  go_enter Tryz.func81,Tryz.ntmps81
  go_wp2
  exact bodyPost_ret (v:=ck { c with b:=0 }) (by simp [results,Tryz.results81,go_sem]) rfl ⟨by rw [Hr.out],by repeat (first | exact Keeps.refl _ | refine Keeps.setCell ?_ (by simp) _ | refine Keeps.alloc ?_ _ | refine Keeps.drewN ?_ _)⟩
 cases c4:(c.kind==4)
 rotate_left
 ·have Hr:Hid (qaB c={ c with cpu:=0,a:=0,b:=0 }):=by show _=_;simp [qaB,c1,c2,c3,c4]
  go_enter Tryz.func81,Tryz.ntmps81
  go_wp2
  exact bodyPost_ret (v:=ck { c with cpu:=0,a:=0,b:=0 }) (by simp [results,Tryz.results81,go_sem]) rfl ⟨by rw [Hr.out],by repeat (first | exact Keeps.refl _ | refine Keeps.setCell ?_ (by simp) _ | refine Keeps.alloc ?_ _ | refine Keeps.drewN ?_ _)⟩
 cases c5:(c.kind==5)
 rotate_left
 ·have Hr:Hid (qaB c={ c with cpu:=0,a:=0,b:=0 }):=by show _=_;simp [qaB,c1,c2,c3,c4,c5]
  go_enter Tryz.func81,Tryz.ntmps81
  go_wp2
  exact bodyPost_ret (v:=ck { c with cpu:=0,a:=0,b:=0 }) (by simp [results,Tryz.results81,go_sem]) rfl ⟨by rw [Hr.out],by repeat (first | exact Keeps.refl _ | refine Keeps.setCell ?_ (by simp) _ | refine Keeps.alloc ?_ _ | refine Keeps.drewN ?_ _)⟩
 cases c6:(c.kind==6)
 rotate_left
 ·have Hr:Hid (qaB c={ c with cpu:=0,a:=0,b:=0 }):=by show _=_;simp [qaB,c1,c2,c3,c4,c5,c6]
  go_enter Tryz.func81,Tryz.ntmps81
  go_wp2
  exact bodyPost_ret (v:=ck { c with cpu:=0,a:=0,b:=0 }) (by simp [results,Tryz.results81,go_sem]) rfl ⟨by rw [Hr.out],by repeat (first | exact Keeps.refl _ | refine Keeps.setCell ?_ (by simp) _ | refine Keeps.alloc ?_ _ | refine Keeps.drewN ?_ _)⟩
 cases c7:(c.kind==7)
 rotate_left
 ·have Hr:Hid (qaB c={ c with cpu:=0,b:=0 }):=by show _=_;simp [qaB,c1,c2,c3,c4,c5,c6,c7]
  go_enter Tryz.func81,Tryz.ntmps81
  go_wp2
  exact bodyPost_ret (v:=ck { c with cpu:=0,b:=0 }) (by simp [results,Tryz.results81,go_sem]) rfl ⟨by rw [Hr.out],by repeat (first | exact Keeps.refl _ | refine Keeps.setCell ?_ (by simp) _ | refine Keeps.alloc ?_ _ | refine Keeps.drewN ?_ _)⟩
 cases c8:(c.kind==8)
 rotate_left
 ·have Hr:Hid (qaB c={ c with cpu:=0,b:=0 }):=by show _=_;simp [qaB,c1,c2,c3,c4,c5,c6,c7,c8]
  go_enter Tryz.func81,Tryz.ntmps81
  go_wp2
  exact bodyPost_ret (v:=ck { c with cpu:=0,b:=0 }) (by simp [results,Tryz.results81,go_sem]) rfl ⟨by rw [Hr.out],by repeat (first | exact Keeps.refl _ | refine Keeps.setCell ?_ (by simp) _ | refine Keeps.alloc ?_ _ | refine Keeps.drewN ?_ _)⟩
 cases c9:(c.kind==9)
 rotate_left
 ·have Hr:Hid (qaB c={ c with cpu:=0,b:=0 }):=by show _=_;simp [qaB,c1,c2,c3,c4,c5,c6,c7,c8,c9]
  go_enter Tryz.func81,Tryz.ntmps81
  go_wp2
  exact bodyPost_ret (v:=ck { c with cpu:=0,b:=0 }) (by simp [results,Tryz.results81,go_sem]) rfl ⟨by rw [Hr.out],by repeat (first | exact Keeps.refl _ | refine Keeps.setCell ?_ (by simp) _ | refine Keeps.alloc ?_ _ | refine Keeps.drewN ?_ _)⟩
 cases c10:(c.kind==10)
 rotate_left
 ·have Hr:Hid (qaB c={ c with a:=0,b:=0 }):=by show _=_;simp [qaB,c1,c2,c3,c4,c5,c6,c7,c8,c9,c10]
  go_enter Tryz.func81,Tryz.ntmps81
  go_wp2
  exact bodyPost_ret (v:=ck { c with a:=0,b:=0 }) (by simp [results,Tryz.results81,go_sem]) rfl ⟨by rw [Hr.out],by repeat (first | exact Keeps.refl _ | refine Keeps.setCell ?_ (by simp) _ | refine Keeps.alloc ?_ _ | refine Keeps.drewN ?_ _)⟩
 cases c11:(c.kind==11)
 rotate_left
 ·have Hr:Hid (qaB c={ c with no:=0,cpu:=0,b:=0 }):=by show _=_;simp [qaB,c1,c2,c3,c4,c5,c6,c7,c8,c9,c10,c11]
  go_enter Tryz.func81,Tryz.ntmps81
  go_wp2
  exact bodyPost_ret (v:=ck { c with no:=0,cpu:=0,b:=0 }) (by simp [results,Tryz.results81,go_sem]) rfl ⟨by rw [Hr.out],by repeat (first | exact Keeps.refl _ | refine Keeps.setCell ?_ (by simp) _ | refine Keeps.alloc ?_ _ | refine Keeps.drewN ?_ _)⟩
 have Hr:Hid (qaB c=c):=by show _=_;simp [qaB,c1,c2,c3,c4,c5,c6,c7,c8,c9,c10,c11]
 go_enter Tryz.func81,Tryz.ntmps81
 go_wp2
 exact bodyPost_ret (v:=ck c) (by simp [results,Tryz.results81,go_sem]) rfl ⟨by rw [Hr.out],by repeat (first | exact Keeps.refl _ | refine Keeps.setCell ?_ (by simp) _ | refine Keeps.alloc ?_ _ | refine Keeps.drewN ?_ _)⟩
end Go.Proofs.YteagpjlgjfaclaaGreatDoor
