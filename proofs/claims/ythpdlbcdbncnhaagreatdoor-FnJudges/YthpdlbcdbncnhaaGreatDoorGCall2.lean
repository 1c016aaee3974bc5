/-
  Calls: what is done of a right call: sleep, waking, a new n
-/
import Derived.Test.YthpdlbcdbncnhaaGreatDoorGCall1
import Derived.Test.YthpdlbcdbncnhaaGreatDoorGTask1
import Derived.Deep.Cut
import Derived.Test.YthpdlbcdbncnhaaGreatDoorSysTurn
import Derived.Test.YthpdlbcdbncnhaaGreatDoorGBase2
import Derived.Test.YthpdlbcdbncnhaaGreatDoorGLock3
import Derived.Test.YthpdlbcdbncnhaaGreatDoorGDraw2
import Derived.Test.YthpdlbcdbncnhaaGreatDoorGLock1
import Derived.Test.YthpdlbcdbncnhaaGreatDoorGSys5
import Derived.Test.YthpdlbcdbncnhaaGreatDoorGPick2
import Derived.Test.YthpdlbcdbncnhaaGreatDoorGDff1
import Derived.Test.YthpdlbcdbncnhaaGreatDoorGSys6
namespace Go.Proofs.YthpdlbcdbncnhaaGreatDoor
set_option maxRecDepth 100000
open Go.RowKit
attribute [local go_sem] Keeps.refl Keeps.alloc Keeps.drew Keeps.drewN
set_option linter.unusedSimpArgs false in
set_option maxHeartbeats 8000000 in
theorem qj2 {w:World} {lo:Nat} {v:Sv} {vs:List Lv} {s:Sy} (h:OwnS w lo v vs s) (hl:lo <= w.heap.size) (R:SysR s) (cn cp ca cb:Int) (hth:qag s.tasks cn=true) :
  Calls Tryz.prog 183 #[.agg (syc s v),ck ⟨4,cn,cp,ca,cb⟩] w (Did w lo v vs (doN s ⟨4,cn,cp,ca,cb⟩) (doC s ⟨4,cn,cp,ca,cb⟩)):=by
 obtain ⟨⟨ta,tn,tcap⟩,⟨la,ln,lcap⟩,⟨ga,gn,gcap⟩,⟨fa,fn,fcap⟩,⟨ra,rn,rcap⟩⟩:=v
 obtain ⟨k,ek,ht,Hta⟩:=qdI hth
 have Hpa:Hid (qar s.tasks cn=(k:Int)):=ek
 obtain ⟨t,ht⟩:=ht
 have Htt:tAt s.tasks cn=t:=Hta t ht
 have HNt:doN s ⟨4,cn,cp,ca,cb⟩=qde s ⟨4,cn,cp,ca,cb⟩ t:=by rw [qdJ (by rfl) (by rfl) hth,Htt]
 have HCt:doC s ⟨4,cn,cp,ca,cb⟩=qcR s ⟨4,cn,cp,ca,cb⟩ k t:=by rw [qdK (by rfl) (by rfl),ek,Htt,Int.toNat_natCast]
 have hk:k < s.tasks.length:=qas ht
 obtain ⟨tb,htb⟩:=h.tasksAt hk
 dsimp only at htb
 subst htb
 have HK:Hid (s.tasks[k]?=some t):=ht
 have Hk:Hid (k < s.tasks.length):=hk
 have hkn:(k:Int) < (tn:Int):=by have:=(h.t.row qaw).1;dsimp only at this;omega
 have T0:∀ w',Keeps w w'->∀ i,i < 14->w'.cell? ⟨tb,k*14+i,none⟩=(tc t)[i]?:=fun w' kk i hi=>(kk.cells tb _ (h.blkLt (i:=0) (b:=tb) rfl).2).trans ((h.taskCells (rb:=tb) rfl ht).1 i hi)
 clear ek Hta Htt hth
 obtain ⟨A0',C0',kZ⟩:=ask3 h hl ⟨4,cn,cp,ca,cb⟩
 have C0:Hid (Blk _ (w.heap.size+1) (cc ⟨4,cn,cp,ca,cb⟩)):=C0'
 have A0:Hid (AskR w lo _ vs _ w.heap.size (w.heap.size+2) _ vs s):=A0'
 have HS:Hid (SysOn _ _ s):=(h.on (by have:=R.small;omega)).keeps kZ
 clear A0' C0' h
 have TC:∀ w',Keeps _ w'->∀ i,i < 14->w'.cell? ⟨tb,k*14+i,none⟩=(tc t)[i]?:=fun w' kk=>T0 w' (kZ.trans kk)
 have TC0:∀ w',Keeps _ w'->w'.cell? ⟨tb,k*14,none⟩=some (.int .i64 t.no):=fun w' kk=>T0 w' (kZ.trans kk) 0 (by omega)
 clear T0
 go_enter Tryz.func183,Tryz.ntmps183
 go_wp2_with fail
 change Calls _ _ _ (qau w ⟨⟨some ⟨tb,0,none⟩,tn,tcap⟩,⟨la,ln,lcap⟩,⟨ga,gn,gcap⟩,⟨fa,fn,fcap⟩,⟨ra,rn,rcap⟩⟩ s ⟨4,cn,cp,ca,cb⟩) _
 generalize qau w ⟨⟨some ⟨tb,0,none⟩,tn,tcap⟩,⟨la,ln,lcap⟩,⟨ga,gn,gcap⟩,⟨fa,fn,fcap⟩,⟨ra,rn,rcap⟩⟩ s ⟨4,cn,cp,ca,cb⟩=Z at *
 have hb0:∀ w',Keeps Z w'->∀ q,w'.cell? ⟨w.heap.size,q,none⟩=(syc s ⟨⟨some ⟨tb,0,none⟩,tn,tcap⟩,⟨la,ln,lcap⟩,⟨ga,gn,gcap⟩,⟨fa,fn,fcap⟩,⟨ra,rn,rcap⟩⟩)[q]?:=fun w' k=>(A0.out.g.var.box.keeps k).cells
 dsimp only [syc] at hb0
 have hc0:∀ w',Keeps Z w'->∀ q,w'.cell? ⟨w.heap.size+1,q,none⟩=(cc ⟨4,cn,cp,ca,cb⟩)[q]?:=fun w' k=>(C0.out.keeps k).cells
 refine (HS.out.onT.sTaskAt cn Hpa.out (Keeps.refl _)).mono ?_
 rintro e w1 ⟨rfl,k1⟩
 go_upto_region 14 with fail
 have KY:Keeps Z (w1.alloc (.cells (tc t) 47)):=k1.alloc _
 have TB:Hid (Blk (w1.alloc (.cells (tc t) 47)) w1.heap.size (tc t)):=Blk.new _ _ _
 have AY:Hid (AskR w lo _ vs _ w.heap.size (w.heap.size+2) _ vs s):=A0.out.keeps KY
 have SY:Hid (SysOn _ _ s):=HS.out.keeps KY
 change Code.wp _ _ _ _ (w1.alloc (.cells (tc t) 47))
 generalize w1.alloc (.cells (tc t) 47)=Y at *
 generalize w1.heap.size=tbx at *
 have hbY:∀ w',Keeps Y w'->∀ q,w'.cell? ⟨w.heap.size,q,none⟩=_:=fun w' kk=>hb0 w' (KY.trans kk)
 have hcY:∀ w',Keeps Y w'->∀ q,w'.cell? ⟨w.heap.size+1,q,none⟩=_:=fun w' kk=>hc0 w' (KY.trans kk)
 have htY:∀ w',Keeps Y w'->∀ q,w'.cell? ⟨tbx,q,none⟩=(tc t)[q]?:=fun w' kk=>(TB.out.keeps kk).cells
 clear hb0 hc0 TC TC0 A0 HS k1
 obtain ⟨za,Hz⟩:∃ z,Hid (qaK s.locks cn=z):=⟨_,rfl⟩
 have e1:(!decide (za < 0))=decide (0 <= za):=by rw [Bool.eq_iff_iff];simp
 have HN0:Hid (doN s ⟨4,cn,cp,ca,cb⟩=if t.st==2||decide (0 <= za) then 5 else 0):=by
  show _=_
  rw [HNt,<- e1,<- Hz.out]
  rfl
 have HC:Hid ({ (s:Sy) with tasks:=s.tasks.set k { t with st:=2 } }=doC s ⟨4,cn,cp,ca,cb⟩):=by show _=_;rw [HCt];rfl
 clear HNt HCt e1
 have WA:Hid (∀ w',Keeps Y w'->Calls Tryz.prog 194 #[.slice la ln lcap,.int .i64 cn] w' fun e w''=>e = .returned (.int .i64 za) /\ Keeps w' w''):=fun w' kk=>SY.out.onL.sWaitAt cn Hz.out kk
 cases d1:(t.st==2)
 rotate_left
 ·have HN:Hid (doN s ⟨4,cn,cp,ca,cb⟩=5):=by show _=_;rw [HN0.out,d1];rfl
  have AE:=AY.out
  obtain ⟨_,o1,o2⟩:=AE.g.var.box
  dsimp only [syc] at o1
  obtain ⟨_,r1,r2⟩:=AE.r
  go_wp2
  exact AE.ret HN.out (fun h=>absurd h (by decide)) rfl (fun Q D=>by simp [results,Tryz.results183,go_sem,D])
 go_upto_if 66 with (go_at_call 194;refine (WA.out _ (Keeps.refl _)).mono ?_;rintro e w6 ⟨rfl,k6⟩)
 cases d2:decide (0 <= za)
 rotate_left
 ·have HN:Hid (doN s ⟨4,cn,cp,ca,cb⟩=5):=by show _=_;rw [HN0.out,d1,d2];rfl
  have AE:=AY.out.keeps k6
  obtain ⟨_,o1,o2⟩:=AE.g.var.box
  dsimp only [syc] at o1
  obtain ⟨_,r1,r2⟩:=AE.r
  go_wp2
  exact AE.ret HN.out (fun h=>absurd h (by decide)) rfl (fun Q D=>by simp [results,Tryz.results183,go_sem,D])
 have HN:Hid (doN s ⟨4,cn,cp,ca,cb⟩=0):=by show _=_;rw [HN0.out,d1,d2];rfl
 have AS:=AY.out.keeps k6
 obtain ⟨z1,z2⟩:=AS.g.var.own.taskCells (rb:=tb) rfl (k:=k) HK.out
 have zc1:w6.cell? ⟨tb,k*14+3,none⟩=(tc t)[3]?:=z1 3 (by omega)
 have hor:tb≠w.heap.size:=AS.neT rfl
 have hrr:tb≠w.heap.size+2:=AS.neR rfl
 obtain ⟨_,p1,p2⟩:=AS.g.var.box
 dsimp only [syc] at p1
 obtain ⟨_,q1,q2⟩:=AS.r
 have AN:Hid (AskR w lo _ vs (w6.setCell ⟨tb,k*14+3,none⟩ (.int .i64 2)) w.heap.size (w.heap.size+2) _ vs { (s:Sy) with tasks:=s.tasks.set k { t with st:=2 } }):=AS.taskCell (tb:=tb) rfl HK.out (y:={ t with st:=2 }) (j:=3) (by omega) rfl
 clear z1
 have AE:=AN.out
 obtain ⟨_,o1,o2⟩:=AE.g.var.box
 dsimp only [syc] at o1
 obtain ⟨_,r1,r2⟩:=AE.r
 go_wp2
 exact AE.ret HN.out (fun _=>HC.out) rfl (fun Q D=>by simp [results,Tryz.results183,go_sem,D])
set_option linter.unusedSimpArgs false in
set_option maxHeartbeats 8000000 in
theorem qj3 {w:World} {lo:Nat} {v:Sv} {vs:List Lv} {s:Sy} (h:OwnS w lo v vs s) (hl:lo <= w.heap.size) (R:SysR s) (cn cp ca cb:Int) (hth:qag s.tasks cn=true) :
  Calls Tryz.prog 183 #[.agg (syc s v),ck ⟨5,cn,cp,ca,cb⟩] w (Did w lo v vs (doN s ⟨5,cn,cp,ca,cb⟩) (doC s ⟨5,cn,cp,ca,cb⟩)):=by
 obtain ⟨⟨ta,tn,tcap⟩,⟨la,ln,lcap⟩,⟨ga,gn,gcap⟩,⟨fa,fn,fcap⟩,⟨ra,rn,rcap⟩⟩:=v
 obtain ⟨k,ek,ht,Hta⟩:=qdI hth
 have Hpa:Hid (qar s.tasks cn=(k:Int)):=ek
 obtain ⟨t,ht⟩:=ht
 have Htt:tAt s.tasks cn=t:=Hta t ht
 have HNt:doN s ⟨5,cn,cp,ca,cb⟩=qde s ⟨5,cn,cp,ca,cb⟩ t:=by rw [qdJ (by rfl) (by rfl) hth,Htt]
 have HCt:doC s ⟨5,cn,cp,ca,cb⟩=qcR s ⟨5,cn,cp,ca,cb⟩ k t:=by rw [qdK (by rfl) (by rfl),ek,Htt,Int.toNat_natCast]
 have hk:k < s.tasks.length:=qas ht
 obtain ⟨tb,htb⟩:=h.tasksAt hk
 dsimp only at htb
 subst htb
 have HK:Hid (s.tasks[k]?=some t):=ht
 have Hk:Hid (k < s.tasks.length):=hk
 have hkn:(k:Int) < (tn:Int):=by have:=(h.t.row qaw).1;dsimp only at this;omega
 have T0:∀ w',Keeps w w'->∀ i,i < 14->w'.cell? ⟨tb,k*14+i,none⟩=(tc t)[i]?:=fun w' kk i hi=>(kk.cells tb _ (h.blkLt (i:=0) (b:=tb) rfl).2).trans ((h.taskCells (rb:=tb) rfl ht).1 i hi)
 clear ek Hta Htt hth
 obtain ⟨A0',C0',kZ⟩:=ask3 h hl ⟨5,cn,cp,ca,cb⟩
 have C0:Hid (Blk _ (w.heap.size+1) (cc ⟨5,cn,cp,ca,cb⟩)):=C0'
 have A0:Hid (AskR w lo _ vs _ w.heap.size (w.heap.size+2) _ vs s):=A0'
 have HS:Hid (SysOn _ _ s):=(h.on (by have:=R.small;omega)).keeps kZ
 clear A0' C0' h
 have TC:∀ w',Keeps _ w'->∀ i,i < 14->w'.cell? ⟨tb,k*14+i,none⟩=(tc t)[i]?:=fun w' kk=>T0 w' (kZ.trans kk)
 have TC0:∀ w',Keeps _ w'->w'.cell? ⟨tb,k*14,none⟩=some (.int .i64 t.no):=fun w' kk=>T0 w' (kZ.trans kk) 0 (by omega)
 clear T0
 go_enter Tryz.func183,Tryz.ntmps183
 go_wp2_with fail
 change Calls _ _ _ (qau w ⟨⟨some ⟨tb,0,none⟩,tn,tcap⟩,⟨la,ln,lcap⟩,⟨ga,gn,gcap⟩,⟨fa,fn,fcap⟩,⟨ra,rn,rcap⟩⟩ s ⟨5,cn,cp,ca,cb⟩) _
 generalize qau w ⟨⟨some ⟨tb,0,none⟩,tn,tcap⟩,⟨la,ln,lcap⟩,⟨ga,gn,gcap⟩,⟨fa,fn,fcap⟩,⟨ra,rn,rcap⟩⟩ s ⟨5,cn,cp,ca,cb⟩=Z at *
 have hb0:∀ w',Keeps Z w'->∀ q,w'.cell? ⟨w.heap.size,q,none⟩=(syc s ⟨⟨some ⟨tb,0,none⟩,tn,tcap⟩,⟨la,ln,lcap⟩,⟨ga,gn,gcap⟩,⟨fa,fn,fcap⟩,⟨ra,rn,rcap⟩⟩)[q]?:=fun w' k=>(A0.out.g.var.box.keeps k).cells
 dsimp only [syc] at hb0
 have hc0:∀ w',Keeps Z w'->∀ q,w'.cell? ⟨w.heap.size+1,q,none⟩=(cc ⟨5,cn,cp,ca,cb⟩)[q]?:=fun w' k=>(C0.out.keeps k).cells
 refine (HS.out.onT.sTaskAt cn Hpa.out (Keeps.refl _)).mono ?_
 rintro e w1 ⟨rfl,k1⟩
 go_upto_region 14 with fail
 have KY:Keeps Z (w1.alloc (.cells (tc t) 47)):=k1.alloc _
 have TB:Hid (Blk (w1.alloc (.cells (tc t) 47)) w1.heap.size (tc t)):=Blk.new _ _ _
 have AY:Hid (AskR w lo _ vs _ w.heap.size (w.heap.size+2) _ vs s):=A0.out.keeps KY
 have SY:Hid (SysOn _ _ s):=HS.out.keeps KY
 change Code.wp _ _ _ _ (w1.alloc (.cells (tc t) 47))
 generalize w1.alloc (.cells (tc t) 47)=Y at *
 generalize w1.heap.size=tbx at *
 have hbY:∀ w',Keeps Y w'->∀ q,w'.cell? ⟨w.heap.size,q,none⟩=_:=fun w' kk=>hb0 w' (KY.trans kk)
 have hcY:∀ w',Keeps Y w'->∀ q,w'.cell? ⟨w.heap.size+1,q,none⟩=_:=fun w' kk=>hc0 w' (KY.trans kk)
 have htY:∀ w',Keeps Y w'->∀ q,w'.cell? ⟨tbx,q,none⟩=(tc t)[q]?:=fun w' kk=>(TB.out.keeps kk).cells
 clear hb0 hc0 TC TC0 A0 HS k1
 have HN0:Hid (doN s ⟨5,cn,cp,ca,cb⟩=if t.st != 2 then 5 else 0):=by show _=_;rw [HNt];rfl
 have HC:Hid ({ (s:Sy) with tasks:=s.tasks.set k { t with st:=1 } }=doC s ⟨5,cn,cp,ca,cb⟩):=by show _=_;rw [HCt];rfl
 clear HNt HCt
 cases d1:(t.st != 2)
 rotate_left
 ·have HN:Hid (doN s ⟨5,cn,cp,ca,cb⟩=5):=by show _=_;rw [HN0.out,d1];rfl
  have AE:=AY.out
  obtain ⟨_,o1,o2⟩:=AE.g.var.box
  dsimp only [syc] at o1
  obtain ⟨_,r1,r2⟩:=AE.r
  go_wp2
  exact AE.ret HN.out (fun h=>absurd h (by decide)) rfl (fun Q D=>by simp [results,Tryz.results183,go_sem,D])
 have HN:Hid (doN s ⟨5,cn,cp,ca,cb⟩=0):=by show _=_;rw [HN0.out,d1];rfl
 have AS:=AY.out
 obtain ⟨z1,z2⟩:=AS.g.var.own.taskCells (rb:=tb) rfl (k:=k) HK.out
 have zc1:Y.cell? ⟨tb,k*14+3,none⟩=(tc t)[3]?:=z1 3 (by omega)
 have hor:tb≠w.heap.size:=AS.neT rfl
 have hrr:tb≠w.heap.size+2:=AS.neR rfl
 obtain ⟨_,p1,p2⟩:=AS.g.var.box
 dsimp only [syc] at p1
 obtain ⟨_,q1,q2⟩:=AS.r
 have AN:Hid (AskR w lo _ vs (Y.setCell ⟨tb,k*14+3,none⟩ (.int .i64 1)) w.heap.size (w.heap.size+2) _ vs { (s:Sy) with tasks:=s.tasks.set k { t with st:=1 } }):=AS.taskCell (tb:=tb) rfl HK.out (y:={ t with st:=1 }) (j:=3) (by omega) rfl
 clear z1
 have AE:=AN.out
 obtain ⟨_,o1,o2⟩:=AE.g.var.box
 dsimp only [syc] at o1
 obtain ⟨_,r1,r2⟩:=AE.r
 go_wp2
 exact AE.ret HN.out (fun _=>HC.out) rfl (fun Q D=>by simp [results,Tryz.results183,go_sem,D])
set_option linter.unusedSimpArgs false in
set_option maxHeartbeats 8000000 in
theorem qj4 {w:World} {lo:Nat} {v:Sv} {vs:List Lv} {s:Sy} (h:OwnS w lo v vs s) (hl:lo <= w.heap.size) (R:SysR s) (cn cp ca cb:Int) (hth:qag s.tasks cn=true) :
  Calls Tryz.prog 183 #[.agg (syc s v),ck ⟨9,cn,cp,ca,cb⟩] w (Did w lo v vs (doN s ⟨9,cn,cp,ca,cb⟩) (doC s ⟨9,cn,cp,ca,cb⟩)):=by
 obtain ⟨⟨ta,tn,tcap⟩,⟨la,ln,lcap⟩,⟨ga,gn,gcap⟩,⟨fa,fn,fcap⟩,⟨ra,rn,rcap⟩⟩:=v
 obtain ⟨k,ek,ht,Hta⟩:=qdI hth
 have Hpa:Hid (qar s.tasks cn=(k:Int)):=ek
 obtain ⟨t,ht⟩:=ht
 have Htt:tAt s.tasks cn=t:=Hta t ht
 have HNt:doN s ⟨9,cn,cp,ca,cb⟩=qde s ⟨9,cn,cp,ca,cb⟩ t:=by rw [qdJ (by rfl) (by rfl) hth,Htt]
 have HCt:doC s ⟨9,cn,cp,ca,cb⟩=qcR s ⟨9,cn,cp,ca,cb⟩ k t:=by rw [qdK (by rfl) (by rfl),ek,Htt,Int.toNat_natCast]
 have hk:k < s.tasks.length:=qas ht
 obtain ⟨tb,htb⟩:=h.tasksAt hk
 dsimp only at htb
 subst htb
 have HK:Hid (s.tasks[k]?=some t):=ht
 have Hk:Hid (k < s.tasks.length):=hk
 have hkn:(k:Int) < (tn:Int):=by have:=(h.t.row qaw).1;dsimp only at this;omega
 have T0:∀ w',Keeps w w'->∀ i,i < 14->w'.cell? ⟨tb,k*14+i,none⟩=(tc t)[i]?:=fun w' kk i hi=>(kk.cells tb _ (h.blkLt (i:=0) (b:=tb) rfl).2).trans ((h.taskCells (rb:=tb) rfl ht).1 i hi)
 clear ek Hta Htt hth
 obtain ⟨A0',C0',kZ⟩:=ask3 h hl ⟨9,cn,cp,ca,cb⟩
 have C0:Hid (Blk _ (w.heap.size+1) (cc ⟨9,cn,cp,ca,cb⟩)):=C0'
 have A0:Hid (AskR w lo _ vs _ w.heap.size (w.heap.size+2) _ vs s):=A0'
 have HS:Hid (SysOn _ _ s):=(h.on (by have:=R.small;omega)).keeps kZ
 clear A0' C0' h
 have TC:∀ w',Keeps _ w'->∀ i,i < 14->w'.cell? ⟨tb,k*14+i,none⟩=(tc t)[i]?:=fun w' kk=>T0 w' (kZ.trans kk)
 have TC0:∀ w',Keeps _ w'->w'.cell? ⟨tb,k*14,none⟩=some (.int .i64 t.no):=fun w' kk=>T0 w' (kZ.trans kk) 0 (by omega)
 clear T0
 go_enter Tryz.func183,Tryz.ntmps183
 go_wp2_with fail
 change Calls _ _ _ (qau w ⟨⟨some ⟨tb,0,none⟩,tn,tcap⟩,⟨la,ln,lcap⟩,⟨ga,gn,gcap⟩,⟨fa,fn,fcap⟩,⟨ra,rn,rcap⟩⟩ s ⟨9,cn,cp,ca,cb⟩) _
 generalize qau w ⟨⟨some ⟨tb,0,none⟩,tn,tcap⟩,⟨la,ln,lcap⟩,⟨ga,gn,gcap⟩,⟨fa,fn,fcap⟩,⟨ra,rn,rcap⟩⟩ s ⟨9,cn,cp,ca,cb⟩=Z at *
 have hb0:∀ w',Keeps Z w'->∀ q,w'.cell? ⟨w.heap.size,q,none⟩=(syc s ⟨⟨some ⟨tb,0,none⟩,tn,tcap⟩,⟨la,ln,lcap⟩,⟨ga,gn,gcap⟩,⟨fa,fn,fcap⟩,⟨ra,rn,rcap⟩⟩)[q]?:=fun w' k=>(A0.out.g.var.box.keeps k).cells
 dsimp only [syc] at hb0
 have hc0:∀ w',Keeps Z w'->∀ q,w'.cell? ⟨w.heap.size+1,q,none⟩=(cc ⟨9,cn,cp,ca,cb⟩)[q]?:=fun w' k=>(C0.out.keeps k).cells
 refine (HS.out.onT.sTaskAt cn Hpa.out (Keeps.refl _)).mono ?_
 rintro e w1 ⟨rfl,k1⟩
 go_upto_region 14 with fail
 have KY:Keeps Z (w1.alloc (.cells (tc t) 47)):=k1.alloc _
 have TB:Hid (Blk (w1.alloc (.cells (tc t) 47)) w1.heap.size (tc t)):=Blk.new _ _ _
 have AY:Hid (AskR w lo _ vs _ w.heap.size (w.heap.size+2) _ vs s):=A0.out.keeps KY
 have SY:Hid (SysOn _ _ s):=HS.out.keeps KY
 change Code.wp _ _ _ _ (w1.alloc (.cells (tc t) 47))
 generalize w1.alloc (.cells (tc t) 47)=Y at *
 generalize w1.heap.size=tbx at *
 have hbY:∀ w',Keeps Y w'->∀ q,w'.cell? ⟨w.heap.size,q,none⟩=_:=fun w' kk=>hb0 w' (KY.trans kk)
 have hcY:∀ w',Keeps Y w'->∀ q,w'.cell? ⟨w.heap.size+1,q,none⟩=_:=fun w' kk=>hc0 w' (KY.trans kk)
 have htY:∀ w',Keeps Y w'->∀ q,w'.cell? ⟨tbx,q,none⟩=(tc t)[q]?:=fun w' kk=>(TB.out.keeps kk).cells
 clear hb0 hc0 TC TC0 A0 HS k1
 have HN0:Hid (doN s ⟨9,cn,cp,ca,cb⟩=if t.cls != 3 then 5 else if !inB ca (-4) 4 then 1 else 0):=by show _=_;rw [HNt];rfl
 have HC:Hid ({ (s:Sy) with tasks:=s.tasks.set k { t with nice:=ca } }=doC s ⟨9,cn,cp,ca,cb⟩):=by show _=_;rw [HCt];rfl
 clear HNt HCt
 cases d1:(t.cls != 3)
 rotate_left
 ·have HN:Hid (doN s ⟨9,cn,cp,ca,cb⟩=5):=by show _=_;rw [HN0.out,d1];rfl
  have AE:=AY.out
  obtain ⟨_,o1,o2⟩:=AE.g.var.box
  dsimp only [syc] at o1
  obtain ⟨_,r1,r2⟩:=AE.r
  go_wp2
  exact AE.ret HN.out (fun h=>absurd h (by decide)) rfl (fun Q D=>by simp [results,Tryz.results183,go_sem,D])
 go_upto_if 116 with (go_at_call 156;refine (qbX _ _).mono ?_;rintro e w' ⟨rfl,hw'⟩;have hw2:=hw'.symm;subst hw2)
 cases d2:inB ca (-4) 4
 ·have HN:Hid (doN s ⟨9,cn,cp,ca,cb⟩=1):=by show _=_;rw [HN0.out,d1,d2];rfl
  have AE:=AY.out
  obtain ⟨_,o1,o2⟩:=AE.g.var.box
  dsimp only [syc] at o1
  obtain ⟨_,r1,r2⟩:=AE.r
  go_wp2
  exact AE.ret HN.out (fun h=>absurd h (by decide)) rfl (fun Q D=>by simp [results,Tryz.results183,go_sem,D])
 have HN:Hid (doN s ⟨9,cn,cp,ca,cb⟩=0):=by show _=_;rw [HN0.out,d1,d2];rfl
 have AS:=AY.out
 obtain ⟨z1,z2⟩:=AS.g.var.own.taskCells (rb:=tb) rfl (k:=k) HK.out
 have zc1:Y.cell? ⟨tb,k*14+12,none⟩=(tc t)[12]?:=z1 12 (by omega)
 have hor:tb≠w.heap.size:=AS.neT rfl
 have hrr:tb≠w.heap.size+2:=AS.neR rfl
 obtain ⟨_,p1,p2⟩:=AS.g.var.box
 dsimp only [syc] at p1
 obtain ⟨_,q1,q2⟩:=AS.r
 have AN:Hid (AskR w lo _ vs (Y.setCell ⟨tb,k*14+12,none⟩ (.int .i64 ca)) w.heap.size (w.heap.size+2) _ vs { (s:Sy) with tasks:=s.tasks.set k { t with nice:=ca } }):=AS.taskCell (tb:=tb) rfl HK.out (y:={ t with nice:=ca }) (j:=12) (by omega) rfl
 clear z1
 have AE:=AN.out
 obtain ⟨_,o1,o2⟩:=AE.g.var.box
 dsimp only [syc] at o1
 obtain ⟨_,r1,r2⟩:=AE.r
 go_wp2
 exact AE.ret HN.out (fun _=>HC.out) rfl (fun Q D=>by simp [results,Tryz.results183,go_sem,D])
theorem qgS {α:Type} {xs:List α} {i k:Nat} {x:α} (h:xs[i]?=some x):(xs.take (i+1)).eraseIdx k=if i=k then (xs.take i).eraseIdx k else (xs.take i).eraseIdx k++[x]:=by
 have hi:=qas h
 have hl:(xs.take i).length=i:=by rw [List.length_take];omega
 rw [qb5 h]
 by_cases h1:k < i
 ·rw [if_neg (by omega),List.eraseIdx_append_of_lt_length (by omega)]
 ·rw [List.eraseIdx_append_of_length_le (by omega),hl,List.eraseIdx_of_length_le (l:=xs.take i) (by omega)]
  by_cases h2:i=k
  ·rw [if_pos h2,show k - i=0 from by omega];simp
  ·rw [if_neg h2,show k - i=(k - i - 1)+1 from by omega];simp
set_option linter.unusedSimpArgs false in
set_option maxHeartbeats 8000000 in
theorem qj5 {w:World} {lo:Nat} {v:Sv} {vs:List Lv} {s:Sy} (h:OwnS w lo v vs s) (hl:lo <= w.heap.size) (R:SysR s) {k:Nat} {t:Tsk} (ht:s.tasks[k]?=some t) :
  Calls Tryz.prog 217 #[.agg (syc s v),.int .i64 k] w (Did w lo v vs (qcP s t) (qdE s k t)):=by
 obtain ⟨⟨ta,tn,tcap⟩,⟨la,ln,lcap⟩,⟨ga,gn,gcap⟩,⟨fa,fn,fcap⟩,⟨ra,rn,rcap⟩⟩:=v
 have hk:k < s.tasks.length:=qas ht
 obtain ⟨tb,htb⟩:=h.tasksAt hk
 dsimp only at htb
 subst htb
 have HL:Hid (s.tasks.length=tn):=(h.t.row qaw).1
 have HG:Hid (s.ghosts.length=gn):=(h.g.row qcS).1
 have htn:tn <= 12:=by rw [<- HL.out];exact R.few.1
 have hgn:gn <= 12:=by rw [<- HG.out];exact R.few.2.2.1
 obtain ⟨oa,Hoa⟩:∃ z,Hid (qcB s.locks t.no=z):=⟨_,rfl⟩
 obtain ⟨za,Hz⟩:∃ z,Hid (qaK s.locks t.no=z):=⟨_,rfl⟩
 obtain ⟨bad,Hbad⟩:∃ z,Hid ((oa||decide (0 <= za))=z):=⟨_,rfl⟩
 obtain ⟨lv,Hlv⟩:∃ z,Hid (qeO s t=z):=⟨_,rfl⟩
 have HN0:Hid (qcP s t=if bad then 5 else if lv&&gn==12 then 4 else 0):=by
  show _=_
  have e1:(!decide (za < 0))=decide (0 <= za):=by rw [Bool.eq_iff_iff];simp
  unfold qcP qfi
  rw [Hoa.out,Hz.out,e1,Hbad.out,Hlv.out,HG.out]
 have HC0:Hid (qdE s k t={ (s:Sy) with ghosts:=if lv then s.ghosts++[qdD t] else s.ghosts,tasks:=s.tasks.eraseIdx k }):=by
  show _=_
  unfold qdE
  rw [Hlv.out]
 have hkn:(k:Int) < (tn:Int):=by have:=(h.t.row qaw).1;dsimp only at this;omega
 obtain ⟨A0',kZ⟩:=ask2 h hl
 have T0:∀ w',Keeps (qdn w ⟨⟨some ⟨tb,0,none⟩,tn,tcap⟩,⟨la,ln,lcap⟩,⟨ga,gn,gcap⟩,⟨fa,fn,fcap⟩,⟨ra,rn,rcap⟩⟩ s) w'->∀ i,i < 14->w'.cell? ⟨tb,k*14+i,none⟩=(tc t)[i]?:=fun w' kk i hi=>((kZ.trans kk).cells tb _ (h.blkLt (i:=0) (b:=tb) rfl).2).trans ((h.taskCells (rb:=tb) rfl ht).1 i hi)
 have T00:∀ w',Keeps (qdn w ⟨⟨some ⟨tb,0,none⟩,tn,tcap⟩,⟨la,ln,lcap⟩,⟨ga,gn,gcap⟩,⟨fa,fn,fcap⟩,⟨ra,rn,rcap⟩⟩ s) w'->w'.cell? ⟨tb,k*14,none⟩=some (.int .i64 t.no):=fun w' kk=>T0 w' kk 0 (by omega)
 have A00:Hid (AskR w lo ⟨⟨some ⟨tb,0,none⟩,tn,tcap⟩,⟨la,ln,lcap⟩,⟨ga,gn,gcap⟩,⟨fa,fn,fcap⟩,⟨ra,rn,rcap⟩⟩ vs (qdn w ⟨⟨some ⟨tb,0,none⟩,tn,tcap⟩,⟨la,ln,lcap⟩,⟨ga,gn,gcap⟩,⟨fa,fn,fcap⟩,⟨ra,rn,rcap⟩⟩ s) w.heap.size (w.heap.size+1) ⟨⟨some ⟨tb,0,none⟩,tn,tcap⟩,⟨la,ln,lcap⟩,⟨ga,gn,gcap⟩,⟨fa,fn,fcap⟩,⟨ra,rn,rcap⟩⟩ vs s):=A0'
 have HS0:Hid (SysOn (qdn w ⟨⟨some ⟨tb,0,none⟩,tn,tcap⟩,⟨la,ln,lcap⟩,⟨ga,gn,gcap⟩,⟨fa,fn,fcap⟩,⟨ra,rn,rcap⟩⟩ s) ⟨⟨some ⟨tb,0,none⟩,tn,tcap⟩,⟨la,ln,lcap⟩,⟨ga,gn,gcap⟩,⟨fa,fn,fcap⟩,⟨ra,rn,rcap⟩⟩ s):=(h.on (by have:=R.small;omega)).keeps kZ
 clear A0'  h
 go_enter Tryz.func217,Tryz.ntmps217
 go_upto_region 1 with fail
 change Code.wp _ _ _ _ (qdn w ⟨⟨some ⟨tb,0,none⟩,tn,tcap⟩,⟨la,ln,lcap⟩,⟨ga,gn,gcap⟩,⟨fa,fn,fcap⟩,⟨ra,rn,rcap⟩⟩ s)
 generalize qdn w ⟨⟨some ⟨tb,0,none⟩,tn,tcap⟩,⟨la,ln,lcap⟩,⟨ga,gn,gcap⟩,⟨fa,fn,fcap⟩,⟨ra,rn,rcap⟩⟩ s=Z0 at *
 have hb00:∀ w',Keeps Z0 w'->∀ q,w'.cell? ⟨w.heap.size,q,none⟩=(syc s ⟨⟨some ⟨tb,0,none⟩,tn,tcap⟩,⟨la,ln,lcap⟩,⟨ga,gn,gcap⟩,⟨fa,fn,fcap⟩,⟨ra,rn,rcap⟩⟩)[q]?:=fun w' k=>(A00.out.g.var.box.keeps k).cells
 dsimp only [syc] at hb00
 go_upto_region 2 with fail
 have TB:Hid (Blk (Z0.alloc (.cells (tc t) 47)) Z0.heap.size (tc t)):=Blk.new _ _ _
 have A0:Hid (AskR w lo ⟨⟨some ⟨tb,0,none⟩,tn,tcap⟩,⟨la,ln,lcap⟩,⟨ga,gn,gcap⟩,⟨fa,fn,fcap⟩,⟨ra,rn,rcap⟩⟩ vs (Z0.alloc (.cells (tc t) 47)) w.heap.size (w.heap.size+1) ⟨⟨some ⟨tb,0,none⟩,tn,tcap⟩,⟨la,ln,lcap⟩,⟨ga,gn,gcap⟩,⟨fa,fn,fcap⟩,⟨ra,rn,rcap⟩⟩ vs s):=A00.out.keeps ((Keeps.refl _).alloc _)
 have HS:Hid (SysOn (Z0.alloc (.cells (tc t) 47)) ⟨⟨some ⟨tb,0,none⟩,tn,tcap⟩,⟨la,ln,lcap⟩,⟨ga,gn,gcap⟩,⟨fa,fn,fcap⟩,⟨ra,rn,rcap⟩⟩ s):=HS0.out.keeps ((Keeps.refl _).alloc _)
 have ftb:Hid (∀ i,¬ qah ⟨⟨some ⟨tb,0,none⟩,tn,tcap⟩,⟨la,ln,lcap⟩,⟨ga,gn,gcap⟩,⟨fa,fn,fcap⟩,⟨ra,rn,rcap⟩⟩ vs i Z0.heap.size):=fun i hi=>by have:=(A00.out.g.var.own.blkLt hi).2;omega
 have hob:w.heap.size≠Z0.heap.size:=by have:=A00.out.g.var.box.lt;omega
 have hrb:w.heap.size+1≠Z0.heap.size:=by have:=A00.out.r.lt;omega
 change Code.wp _ _ _ _ (Z0.alloc (.cells (tc t) 47))
 clear T0 T00 hb00 A00 HS0 kZ
 generalize Z0.alloc (.cells (tc t) 47)=Z at *
 generalize Z0.heap.size=tbx at *
 have hb0:∀ w',Keeps Z w'->∀ q,w'.cell? ⟨w.heap.size,q,none⟩=(syc s ⟨⟨some ⟨tb,0,none⟩,tn,tcap⟩,⟨la,ln,lcap⟩,⟨ga,gn,gcap⟩,⟨fa,fn,fcap⟩,⟨ra,rn,rcap⟩⟩)[q]?:=fun w' k=>(A0.out.g.var.box.keeps k).cells
 dsimp only [syc] at hb0
 have ht0:∀ w',Keeps Z w'->∀ j,w'.cell? ⟨tbx,j,none⟩=(tc t)[j]?:=fun w' k=>(TB.out.keeps k).cells
 have OA:Hid (∀ w',Keeps Z w'->Calls Tryz.prog 239 #[.slice la ln lcap,.int .i64 t.no] w' fun e w''=>e = .returned (.bool oa) /\ Keeps w' w''):=fun w' kk=>HS.out.onL.sOwnsAny t.no Hoa.out kk
 have WA:Hid (∀ w',Keeps Z w'->Calls Tryz.prog 194 #[.slice la ln lcap,.int .i64 t.no] w' fun e w''=>e = .returned (.int .i64 za) /\ Keeps w' w''):=fun w' kk=>HS.out.onL.sWaitAt t.no Hz.out kk
 go_cut [26] (fun b wx=>b = .bool bad /\ Keeps Z wx)
 case first =>
  cases oa
  rotate_left
  ·have hr:bad=true:=by rw [<- Hbad.out];rfl
   go_wp2_with (go_at_call 239;refine (OA.out _ (by first | assumption | exact Keeps.refl _ | exact (Keeps.refl _).drew | exact Keeps.drew (by assumption))).mono ?_;rintro e w5 ⟨rfl,k5⟩)
   go_meet
   exact ⟨by rw [hr],k5⟩
  have hr:bad=decide (0 <= za):=by rw [<- Hbad.out];rfl
  go_wp2_with (go_at_call 239;refine (OA.out _ (by first | assumption | exact Keeps.refl _ | exact (Keeps.refl _).drew | exact Keeps.drew (by assumption))).mono ?_;rintro e w5 ⟨rfl,k5⟩)
  have k5':Keeps Z w5:=k5
  go_wp2_with (go_at_call 194;refine (WA.out _ (by first | assumption | exact Keeps.refl _ | exact (Keeps.refl _).drew | exact Keeps.drew (by assumption))).mono ?_;rintro e w6 ⟨rfl,k6⟩)
  go_meet
  exact ⟨by rw [hr],k5.trans k6⟩
 case rest =>
 obtain ⟨rfl,kx⟩:=hcut
 generalize wc=wx at *
 clear OA WA Hbad Hz Hoa
 cases bad
 rotate_left
 ·have HN:Hid (qcP s t=5):=HN0.out
  have AE:=A0.out.keeps kx
  obtain ⟨_,o1,o2⟩:=AE.g.var.box
  dsimp only [syc] at o1
  obtain ⟨_,r1,r2⟩:=AE.r
  go_wp2
  exact AE.ret HN.out (fun h=>absurd h (by decide)) rfl (fun Q D=>by simp [results,Tryz.results217,go_sem,D])
 have AX:Hid (AskR w lo ⟨⟨some ⟨tb,0,none⟩,tn,tcap⟩,⟨la,ln,lcap⟩,⟨ga,gn,gcap⟩,⟨fa,fn,fcap⟩,⟨ra,rn,rcap⟩⟩ vs wx w.heap.size (w.heap.size+1) ⟨⟨some ⟨tb,0,none⟩,tn,tcap⟩,⟨la,ln,lcap⟩,⟨ga,gn,gcap⟩,⟨fa,fn,fcap⟩,⟨ra,rn,rcap⟩⟩ vs s):=A0.out.keeps kx
 have TX:Hid (Blk wx tbx (tc t)):=TB.out.keeps kx
 have hbx:∀ w',Keeps wx w'->∀ j,w'.cell? ⟨w.heap.size,j,none⟩=_:=fun w' kk=>hb0 w' (kx.trans kk)
 have htx:∀ w',Keeps wx w'->∀ j,w'.cell? ⟨tbx,j,none⟩=_:=fun w' kk=>ht0 w' (kx.trans kk)
 clear hb0 ht0
 go_upto_region 4 with fail
 go_cut [37] (fun b wy=>b = .bool lv /\ wy=wx)
 case first =>
  cases d3:(t.cls==1)
  ·have hr:lv=false:=by rw [<- Hlv.out];unfold qeO;rw [d3];rfl
   go_wp2
   go_meet
   exact ⟨by rw [hr],rfl⟩
  have hr:lv=decide (s.now < t.due):=by rw [<- Hlv.out];unfold qeO;rw [d3];rfl
  go_wp2
  go_meet
  exact ⟨by rw [hr],rfl⟩
 case rest =>
 obtain ⟨rfl,hwy⟩:=hcut
 have hwy2:=hwy.symm
 subst hwy2
 clear Hlv
 cases lv
 ·have HN:Hid (qcP s t=0):=HN0.out
  clear htx
  have hbX:∀ w',Keeps wx w'->∀ j,w'.cell? ⟨w.heap.size,j,none⟩=(syc (s:Sy) ⟨⟨some ⟨tb,0,none⟩,tn,tcap⟩,⟨la,ln,lcap⟩,⟨ga,gn,gcap⟩,⟨fa,fn,fcap⟩,⟨ra,rn,rcap⟩⟩)[j]?:=fun w' kk=>(AX.out.g.var.box.keeps kk).cells
  dsimp only [syc] at hbX
  have TR:Hid (∀ (m:Nat) (x:Tsk),s.tasks[m]?=some x->∀ w',Keeps wx w'->∀ j,j < 14->w'.cell? ⟨tb,m*14+j,none⟩=(tc x)[j]?):=fun m x hm w' kk j hj=>(kk.cells tb _ (AX.out.g.var.own.blkLt (i:=0) (b:=tb) rfl).2).trans ((AX.out.g.var.own.taskCells (rb:=tb) rfl hm).1 j hj)
  go_wp2_with fail
  have kz:Keeps wx (wx.alloc (.cells #[] 47)):=(Keeps.refl _).alloc _
  have own0:OwnT (wx.alloc (.cells #[] 47)) wx.heap.size (.slice (some ⟨wx.heap.size,0,none⟩) 0 0) []:=Own.new 47 14 tc wx (Nat.le_refl _)
  generalize wx.alloc (.cells #[] 47)=W at *
  go_loopw [7,8] (fun v i wr=>∃ (m:Nat) (xs:List Tsk),m <= tn /\ i = .int .i64 m /\ xs.length <= m /\ Hid (xs=(s.tasks.take m).eraseIdx k) /\ Hid (OwnT wr wx.heap.size v xs) /\ Keeps wx wr) (fun _ i _=>tn - (intOf i).toNat)
  case atStart=>exact ⟨0,[],Nat.zero_le _,rfl,Nat.le_refl _,by show _=_;simp,own0,kz⟩
  case round =>
   obtain ⟨m,xs,hm,rfl,hxl,HX,HW,hK⟩:=hrel
   clear own0 kz
   by_cases hlt:m < tn
   ·have hlt':(m:Int) < (tn:Int):=by omega
    obtain ⟨x,hx⟩:=qai (xs:=s.tasks) (k:=m) (by rw [HL.out];exact hlt)
    have r1:∀ w',Keeps wx w'->∀ j,j < 14->w'.cell? ⟨tb,m*14+j,none⟩=(tc x)[j]?:=TR.out m x hx
    have r0:∀ w',Keeps wx w'->w'.cell? ⟨tb,m*14,none⟩=some (.int .i64 x.no):=fun w' kk=>r1 w' kk 0 (by omega)
    have HE:Hid ((s.tasks.take (m+1)).eraseIdx k=if m=k then xs else xs++[x]):=by show _=_;rw [qgS hx,<- HX.out]
    clear hx HX
    by_cases hmk:m=k
    ·have hne:((m:Int) != (k:Int))=false:=by simp [hmk]
     have HX2:Hid (xs=(s.tasks.take (m+1)).eraseIdx k):=by show _=_;rw [HE.out,if_pos hmk]
     clear hmk HE
     go_wp2
     exact ⟨⟨m+1,xs,by omega,by go_num,by omega,HX2,HW,hK⟩,by simp only [intOf];omega⟩
    ·have hne:((m:Int) != (k:Int))=true:=by simp;omega
     have HX2:Hid (xs++[x]=(s.tasks.take (m+1)).eraseIdx k):=by show _=_;rw [HE.out,if_neg hmk]
     clear hmk HE
     go_wp2_with (at_builtin;(refine qbi rfl _ _ 32 rfl wx 47 (.agg (tc Tsk.zero)) 14 112 tc Tryz.underlying32 (by kernel_rfl) rfl (by decide) qaw qb6 _ xs rfl wr HW.out hK ((Keeps.refl _).alloc _) x _ 1 (Blk.new _ _ _) rfl ?c1 ?c2 ?_))
     case c1=>unfold maxLen;omega
     case c2=>omega
     intro v' w5 own5 k5 _
     have HO5:Hid (OwnT w5 wx.heap.size v' (xs++[x])):=own5
     clear own5 HW
     go_wp2
     exact ⟨⟨m+1,xs++[x],by omega,by go_num,by simp;omega,HX2,HO5,k5⟩,by simp only [intOf];omega⟩
   ·have hlt':decide ((m:Int) < (tn:Int))=false:=by simp;omega
    have HX2:Hid (xs=s.tasks.eraseIdx k):=by
     have h1:=HX.out
     rw [List.take_of_length_le (by have:=HL.out;omega)] at h1
     exact h1
    clear HX
    obtain ⟨a9,c9,e9⟩:=HW.out.form qaw
    obtain ⟨n9,Hn9⟩:∃ n,Hid (xs.length=n):=⟨_,rfl⟩
    rw [Hn9.out] at e9
    subst e9
    have AN:Hid (AskR w lo ⟨⟨some ⟨tb,0,none⟩,tn,tcap⟩,⟨la,ln,lcap⟩,⟨ga,gn,gcap⟩,⟨fa,fn,fcap⟩,⟨ra,rn,rcap⟩⟩ vs (wr.setCell ⟨w.heap.size,2,none⟩ (.slice a9 n9 c9)) w.heap.size (w.heap.size+1) ⟨⟨a9,n9,c9⟩,⟨la,ln,lcap⟩,⟨ga,gn,gcap⟩,⟨fa,fn,fcap⟩,⟨ra,rn,rcap⟩⟩ vs { (s:Sy) with tasks:=xs }):=AX.out.tasks hK (x:=⟨a9,n9,c9⟩) HW.out
    have HC:Hid ({ (s:Sy) with tasks:=xs }=qdE s k t):=by show _=_;rw [HC0.out,HX2.out];rfl
    obtain ⟨_,p1,p2⟩:=(AX.out.keeps hK).g.var.box
    dsimp only [syc] at p1
    have hsz:w.heap.size+1≠w.heap.size:=by omega
    have AE:=AN.out
    obtain ⟨_,o1,o2⟩:=AE.g.var.box
    dsimp only [syc] at o1
    obtain ⟨_,r1,r2⟩:=AE.r
    go_wp2
    exact AE.ret HN.out (fun _=>HC.out) rfl (fun Q D=>by simp [results,Tryz.results217,go_sem,D])
 cases g12:(gn==12)
 rotate_left
 ·have HN:Hid (qcP s t=4):=by show _=_;rw [HN0.out,g12];rfl
  have g12':((gn:Int)==12)=true:=by simp at g12 ⊢;omega
  have AE:=AX.out
  obtain ⟨_,o1,o2⟩:=AE.g.var.box
  dsimp only [syc] at o1
  obtain ⟨_,r1,r2⟩:=AE.r
  go_wp2
  exact AE.ret HN.out (fun h=>absurd h (by decide)) rfl (fun Q D=>by simp [results,Tryz.results217,go_sem,D])
 have HN:Hid (qcP s t=0):=by show _=_;rw [HN0.out,g12];rfl
 have g12':((gn:Int)==12)=false:=by simp at g12 ⊢;omega
 go_upto_region 7 with fail
 have f63:s.ghosts.length+1 <= 13:=by rw [HG.out];omega
 go_upto_region 8 with (at_builtin;(refine qcA rfl _ _ 34 rfl lo 107 (.agg (ghc Gh.zero)) 4 32 ghc Tryz.underlying34 (by kernel_rfl) rfl (by decide) qcS qfk _ s.ghosts rfl (AX.out.g.var.own.g.keeps ((Keeps.refl _).alloc _)) (by have:=AX.out.g.var.lob;have:=AX.out.g.var.box.lt;simp;omega) (qdD t) _ 1 (Blk.new _ _ _) rfl (by unfold maxLen;omega) (by omega) ?_;intro v6 w6 o6 g6 f6;obtain ⟨a6,c6,e6⟩:=o6.form qcS;obtain ⟨m6,Hm6⟩:∃ m,Hid ((s.ghosts++[qdD t]).length=m):=⟨_,rfl⟩;rw [Hm6.out] at e6;subst e6;have AG:=AX.out.ghosts ((Keeps.refl wx).alloc _) (x:=⟨a6,m6,c6⟩) o6 g6 (fun q hq=>(f6 q hq).imp id (fun e=>Nat.le_of_eq e.symm));obtain ⟨_,p1,p2⟩:=(AX.out.g.var.box.keeps ((Keeps.refl wx).alloc _)).grown g6 (fun q e e2=>AX.out.g.var.far 2 (by rw [<- e2];exact e));dsimp only [syc] at p1))
 have AX2:Hid (AskR w lo ⟨⟨some ⟨tb,0,none⟩,tn,tcap⟩,⟨la,ln,lcap⟩,⟨ga,gn,gcap⟩,⟨fa,fn,fcap⟩,⟨ra,rn,rcap⟩⟩ vs (w6.setCell ⟨w.heap.size,4,none⟩ (.slice a6 m6 c6)) w.heap.size (w.heap.size+1) ⟨⟨some ⟨tb,0,none⟩,tn,tcap⟩,⟨la,ln,lcap⟩,⟨a6,m6,c6⟩,⟨fa,fn,fcap⟩,⟨ra,rn,rcap⟩⟩ vs { (s:Sy) with ghosts:=s.ghosts++[qdD t] }):=AG
 clear AG p1 p2 o6 g6 f6 hbx htx
 generalize w6.setCell ⟨w.heap.size,4,none⟩ (.slice a6 m6 c6)=X at *
 have hbX:∀ w',Keeps X w'->∀ j,w'.cell? ⟨w.heap.size,j,none⟩=(syc ({ (s:Sy) with ghosts:=s.ghosts++[qdD t] }:Sy) ⟨⟨some ⟨tb,0,none⟩,tn,tcap⟩,⟨la,ln,lcap⟩,⟨a6,m6,c6⟩,⟨fa,fn,fcap⟩,⟨ra,rn,rcap⟩⟩)[j]?:=fun w' kk=>(AX2.out.g.var.box.keeps kk).cells
 dsimp only [syc] at hbX
 have TR:Hid (∀ (m:Nat) (x:Tsk),s.tasks[m]?=some x->∀ w',Keeps X w'->∀ j,j < 14->w'.cell? ⟨tb,m*14+j,none⟩=(tc x)[j]?):=fun m x hm w' kk j hj=>(kk.cells tb _ (AX2.out.g.var.own.blkLt (i:=0) (b:=tb) rfl).2).trans ((AX2.out.g.var.own.taskCells (rb:=tb) rfl hm).1 j hj)
 go_wp2_with fail
 have kz:Keeps X (X.alloc (.cells #[] 47)):=(Keeps.refl _).alloc _
 have own0:OwnT (X.alloc (.cells #[] 47)) X.heap.size (.slice (some ⟨X.heap.size,0,none⟩) 0 0) []:=Own.new 47 14 tc X (Nat.le_refl _)
 generalize X.alloc (.cells #[] 47)=W at *
 go_loopw [7,8] (fun v i wr=>∃ (m:Nat) (xs:List Tsk),m <= tn /\ i = .int .i64 m /\ xs.length <= m /\ Hid (xs=(s.tasks.take m).eraseIdx k) /\ Hid (OwnT wr X.heap.size v xs) /\ Keeps X wr) (fun _ i _=>tn - (intOf i).toNat)
 case atStart=>exact ⟨0,[],Nat.zero_le _,rfl,Nat.le_refl _,by show _=_;simp,own0,kz⟩
 case round =>
  obtain ⟨m,xs,hm,rfl,hxl,HX,HW,hK⟩:=hrel
  clear own0 kz
  by_cases hlt:m < tn
  ·have hlt':(m:Int) < (tn:Int):=by omega
   obtain ⟨x,hx⟩:=qai (xs:=s.tasks) (k:=m) (by rw [HL.out];exact hlt)
   have r1:∀ w',Keeps X w'->∀ j,j < 14->w'.cell? ⟨tb,m*14+j,none⟩=(tc x)[j]?:=TR.out m x hx
   have r0:∀ w',Keeps X w'->w'.cell? ⟨tb,m*14,none⟩=some (.int .i64 x.no):=fun w' kk=>r1 w' kk 0 (by omega)
   have HE:Hid ((s.tasks.take (m+1)).eraseIdx k=if m=k then xs else xs++[x]):=by show _=_;rw [qgS hx,<- HX.out]
   clear hx HX
   by_cases hmk:m=k
   ·have hne:((m:Int) != (k:Int))=false:=by simp [hmk]
    have HX2:Hid (xs=(s.tasks.take (m+1)).eraseIdx k):=by show _=_;rw [HE.out,if_pos hmk]
    clear hmk HE
    go_wp2
    exact ⟨⟨m+1,xs,by omega,by go_num,by omega,HX2,HW,hK⟩,by simp only [intOf];omega⟩
   ·have hne:((m:Int) != (k:Int))=true:=by simp;omega
    have HX2:Hid (xs++[x]=(s.tasks.take (m+1)).eraseIdx k):=by show _=_;rw [HE.out,if_neg hmk]
    clear hmk HE
    go_wp2_with (at_builtin;(refine qbi rfl _ _ 32 rfl X 47 (.agg (tc Tsk.zero)) 14 112 tc Tryz.underlying32 (by kernel_rfl) rfl (by decide) qaw qb6 _ xs rfl wr HW.out hK ((Keeps.refl _).alloc _) x _ 1 (Blk.new _ _ _) rfl ?c1 ?c2 ?_))
    case c1=>unfold maxLen;omega
    case c2=>omega
    intro v' w5 own5 k5 _
    have HO5:Hid (OwnT w5 X.heap.size v' (xs++[x])):=own5
    clear own5 HW
    go_wp2
    exact ⟨⟨m+1,xs++[x],by omega,by go_num,by simp;omega,HX2,HO5,k5⟩,by simp only [intOf];omega⟩
  ·have hlt':decide ((m:Int) < (tn:Int))=false:=by simp;omega
   have HX2:Hid (xs=s.tasks.eraseIdx k):=by
    have h1:=HX.out
    rw [List.take_of_length_le (by have:=HL.out;omega)] at h1
    exact h1
   clear HX
   obtain ⟨a9,c9,e9⟩:=HW.out.form qaw
   obtain ⟨n9,Hn9⟩:∃ n,Hid (xs.length=n):=⟨_,rfl⟩
   rw [Hn9.out] at e9
   subst e9
   have AN:Hid (AskR w lo ⟨⟨some ⟨tb,0,none⟩,tn,tcap⟩,⟨la,ln,lcap⟩,⟨ga,gn,gcap⟩,⟨fa,fn,fcap⟩,⟨ra,rn,rcap⟩⟩ vs (wr.setCell ⟨w.heap.size,2,none⟩ (.slice a9 n9 c9)) w.heap.size (w.heap.size+1) ⟨⟨a9,n9,c9⟩,⟨la,ln,lcap⟩,⟨a6,m6,c6⟩,⟨fa,fn,fcap⟩,⟨ra,rn,rcap⟩⟩ vs { ({ (s:Sy) with ghosts:=s.ghosts++[qdD t] }:Sy) with tasks:=xs }):=AX2.out.tasks hK (x:=⟨a9,n9,c9⟩) HW.out
   have HC:Hid ({ ({ (s:Sy) with ghosts:=s.ghosts++[qdD t] }:Sy) with tasks:=xs }=qdE s k t):=by show _=_;rw [HC0.out,HX2.out];rfl
   obtain ⟨_,p1,p2⟩:=(AX2.out.keeps hK).g.var.box
   dsimp only [syc] at p1
   have hsz:w.heap.size+1≠w.heap.size:=by omega
   have AE:=AN.out
   obtain ⟨_,o1,o2⟩:=AE.g.var.box
   dsimp only [syc] at o1
   obtain ⟨_,r1,r2⟩:=AE.r
   go_wp2
   exact AE.ret HN.out (fun _=>HC.out) rfl (fun Q D=>by simp [results,Tryz.results217,go_sem,D])
set_option linter.unusedSimpArgs false in
set_option maxHeartbeats 8000000 in
theorem qj6 {w:World} {lo:Nat} {v:Sv} {vs:List Lv} {s:Sy} (h:OwnS w lo v vs s) (hl:lo <= w.heap.size) (R:SysR s) (c:Cl) {k:Nat} {t:Tsk} (ht:s.tasks[k]?=some t) :
  Calls Tryz.prog 218 #[.agg (syc s v),ck c,.int .i64 k] w (Did w lo v vs (qcF s c t) (qgj s c)):=by
 obtain ⟨⟨ta,tn,tcap⟩,⟨la,ln,lcap⟩,⟨ga,gn,gcap⟩,⟨fa,fn,fcap⟩,⟨ra,rn,rcap⟩⟩:=v
 have hk:k < s.tasks.length:=qas ht
 obtain ⟨tb,htb⟩:=h.tasksAt hk
 dsimp only at htb
 subst htb
 cases c1:inB c.a 0 4
 ·have HN:Hid (qcF s c t=2):=by show _=_;unfold qcF;rw [c1];rfl
  obtain ⟨A0',C0',kZ⟩:=ask3 h hl c
  have C0:Hid (Blk _ (w.heap.size+1) (cc c)):=C0'
  have A0:Hid (AskR w lo _ vs _ w.heap.size (w.heap.size+2) _ vs s):=A0'
  have HS:Hid (SysOn _ _ s):=(h.on (by have:=R.small;omega)).keeps kZ
  clear A0' C0' h
  go_enter Tryz.func218,Tryz.ntmps218
  go_wp2_with fail
  change Calls _ _ _ (qau w ⟨⟨some ⟨tb,0,none⟩,tn,tcap⟩,⟨la,ln,lcap⟩,⟨ga,gn,gcap⟩,⟨fa,fn,fcap⟩,⟨ra,rn,rcap⟩⟩ s c) _
  generalize qau w ⟨⟨some ⟨tb,0,none⟩,tn,tcap⟩,⟨la,ln,lcap⟩,⟨ga,gn,gcap⟩,⟨fa,fn,fcap⟩,⟨ra,rn,rcap⟩⟩ s c=Z at *
  have hb0:∀ w',Keeps Z w'->∀ q,w'.cell? ⟨w.heap.size,q,none⟩=(syc s ⟨⟨some ⟨tb,0,none⟩,tn,tcap⟩,⟨la,ln,lcap⟩,⟨ga,gn,gcap⟩,⟨fa,fn,fcap⟩,⟨ra,rn,rcap⟩⟩)[q]?:=fun w' k=>(A0.out.g.var.box.keeps k).cells
  dsimp only [syc] at hb0
  have hc0:∀ w',Keeps Z w'->∀ q,w'.cell? ⟨w.heap.size+1,q,none⟩=(cc c)[q]?:=fun w' k=>(C0.out.keeps k).cells
  refine (qaf _ _ _ _).mono ?_
  rintro e w' ⟨rfl,hw'⟩
  have hw2:=hw'.symm
  subst hw2
  rw [c1]
  have AE:=A0.out
  obtain ⟨_,o1,o2⟩:=AE.g.var.box
  dsimp only [syc] at o1
  obtain ⟨_,r1,r2⟩:=AE.r
  go_wp2
  exact AE.ret HN.out (fun h=>absurd h (by decide)) rfl (fun Q D=>by simp [results,Tryz.results218,go_sem,D])
 obtain ⟨ha0,ha1⟩:=qap.1 c1
 obtain ⟨ck,cn,cp,ca,cb⟩:=c
 dsimp only at ha0 ha1 c1
 obtain ⟨j,rfl⟩:∃ j:Nat,ca=(j:Int):=⟨ca.toNat,by omega⟩
 obtain ⟨l,hli⟩:=qai (xs:=s.locks) (k:=j) (by rw [R.five];omega)
 have ON:=h.on (by have:=R.small;omega)
 obtain ⟨hjn,lb,loff,a',cap',ha,l0,l1,hwl,hws⟩:=ON.onL.at hli
 dsimp only at ha
 subst ha
 have hkn:(k:Int) < (tn:Int):=by have:=ON.lay.tl;dsimp only at this;omega
 have hjn':(j:Int) < (ln:Int):=by dsimp only at hjn;omega
 have T0:∀ w',Keeps w w'->∀ i,i < 14->w'.cell? ⟨tb,k*14+i,none⟩=(tc t)[i]?:=fun w' kk i hi=>(kk.cells tb _ (h.blkLt (i:=0) (b:=tb) rfl).2).trans ((h.taskCells (rb:=tb) rfl ht).1 i hi)
 clear ON
 obtain ⟨za,Hz⟩:∃ z,Hid (qaK s.locks cn=z):=⟨_,rfl⟩
 obtain ⟨sm,Hsm⟩:∃ z,Hid (qaD s j cn=z):=⟨_,rfl⟩
 obtain ⟨bad,Hbad⟩:∃ z,Hid (((t.st==2)||(decide (0 <= za)||((l.owner==cn) || !sm)))=z):=⟨_,rfl⟩
 have HN0:Hid (qcF s ⟨ck,cn,cp,j,cb⟩ t=if bad then 5 else if askN s.locks j cn==4 then 6 else 0):=by
  show _=_
  have e1:(!decide (za < 0))=decide (0 <= za):=by rw [Bool.eq_iff_iff];simp
  unfold qcF
  dsimp only
  rw [c1,Hz.out,Hsm.out,e1,Int.toNat_natCast,qbS hli,Hbad.out]
  simp
 obtain ⟨A0',C0',kZ⟩:=ask3 h hl ⟨ck,cn,cp,j,cb⟩
 have C0:Hid (Blk _ (w.heap.size+1) (cc ⟨ck,cn,cp,j,cb⟩)):=C0'
 have A0:Hid (AskR w lo _ vs _ w.heap.size (w.heap.size+2) _ vs s):=A0'
 have HS:Hid (SysOn _ _ s):=(h.on (by have:=R.small;omega)).keeps kZ
 clear A0' C0' h
 have TC:∀ w',Keeps (qau w ⟨⟨some ⟨tb,0,none⟩,tn,tcap⟩,⟨some ⟨lb,loff,none⟩,ln,lcap⟩,⟨ga,gn,gcap⟩,⟨fa,fn,fcap⟩,⟨ra,rn,rcap⟩⟩ s ⟨ck,cn,cp,j,cb⟩) w'->∀ i,i < 14->w'.cell? ⟨tb,k*14+i,none⟩=(tc t)[i]?:=fun w' kk=>T0 w' (kZ.trans kk)
 have LC:∀ w',Keeps (qau w ⟨⟨some ⟨tb,0,none⟩,tn,tcap⟩,⟨some ⟨lb,loff,none⟩,ln,lcap⟩,⟨ga,gn,gcap⟩,⟨fa,fn,fcap⟩,⟨ra,rn,rcap⟩⟩ s ⟨ck,cn,cp,j,cb⟩) w'->w'.cell? ⟨lb,loff+j*2,none⟩=some (.int .i64 l.owner):=fun w' kk=>l0 w' (kZ.trans kk)
 clear T0 l0 l1 hws hwl
 go_enter Tryz.func218,Tryz.ntmps218
 go_wp2_with fail
 change Calls _ _ _ (qau w ⟨⟨some ⟨tb,0,none⟩,tn,tcap⟩,⟨some ⟨lb,loff,none⟩,ln,lcap⟩,⟨ga,gn,gcap⟩,⟨fa,fn,fcap⟩,⟨ra,rn,rcap⟩⟩ s ⟨ck,cn,cp,j,cb⟩) _
 generalize qau w ⟨⟨some ⟨tb,0,none⟩,tn,tcap⟩,⟨some ⟨lb,loff,none⟩,ln,lcap⟩,⟨ga,gn,gcap⟩,⟨fa,fn,fcap⟩,⟨ra,rn,rcap⟩⟩ s ⟨ck,cn,cp,j,cb⟩=Z at *
 have hb0:∀ w',Keeps Z w'->∀ q,w'.cell? ⟨w.heap.size,q,none⟩=(syc s ⟨⟨some ⟨tb,0,none⟩,tn,tcap⟩,⟨some ⟨lb,loff,none⟩,ln,lcap⟩,⟨ga,gn,gcap⟩,⟨fa,fn,fcap⟩,⟨ra,rn,rcap⟩⟩)[q]?:=fun w' k=>(A0.out.g.var.box.keeps k).cells
 dsimp only [syc] at hb0
 have hc0:∀ w',Keeps Z w'->∀ q,w'.cell? ⟨w.heap.size+1,q,none⟩=(cc ⟨ck,cn,cp,j,cb⟩)[q]?:=fun w' k=>(C0.out.keeps k).cells
 have WA:Hid (∀ w',Keeps Z w'->Calls Tryz.prog 194 #[.slice (some ⟨lb,loff,none⟩) ln lcap,.int .i64 cn] w' fun e w''=>e = .returned (.int .i64 za) /\ Keeps w' w''):=fun w' kk=>HS.out.onL.sWaitAt cn Hz.out kk
 have SC:Hid (∀ w',Keeps Z w'->Calls Tryz.prog 240 #[.agg (syc s ⟨⟨some ⟨tb,0,none⟩,tn,tcap⟩,⟨some ⟨lb,loff,none⟩,ln,lcap⟩,⟨ga,gn,gcap⟩,⟨fa,fn,fcap⟩,⟨ra,rn,rcap⟩⟩),.int .i64 j,.int .i64 cn] w' fun e w''=>e = .returned (.bool sm) /\ Keeps w' w''):=fun w' kk=>by
  have:=qnY (HS.out.keeps kk) j cn
  rw [Hsm.out] at this
  exact this
 refine (qaf _ _ _ _).mono ?_
 rintro e w' ⟨rfl,hw'⟩
 have hw2:=hw'.symm
 subst hw2
 rw [c1]
 go_upto_region 3 with fail
 go_cut [50] (fun b wx=>b = .bool bad /\ Keeps Z wx)
 case first =>
  cases d1:(t.st==2)
  rotate_left
  ·have hr:bad=true:=by rw [<- Hbad.out,d1];rfl
   refine wp_region_held_drew (S:=(fun w'=>Keeps Z w')) (by kernel_rfl) ?_ (fun hHeld => ?_)
   ·exact (Keeps.refl Z).drew
   refine Plan.go [0,1,2,3,4,5,6,7] ?_
   iterate 8 (refine qac (by simp only [qab];rfl) (by kernel_rfl) (by exact fun _ _ _ h=>h) (by rfl) (by assumption) (fun w _=>by go_simp;try (with_reducible rfl)) ?_;try simp only [qaa])
   refine Plan.nil ?_
   refine Plan.go [8,9,10,11,12,13] ?_
   iterate 6 (refine qaq (by simp only [qab];rfl) (by kernel_rfl) (by exact fun _ _ _ h=>h) (by rfl) (by assumption) ?_;try simp only [qaa])
   refine Plan.nil ?_
   refine Plan.go [14,15] ?_
   iterate 2 (refine qac (by simp only [qab];rfl) (by kernel_rfl) (by exact fun _ _ _ h=>h) (by rfl) (by assumption) (fun w _=>by go_simp;try (with_reducible rfl)) ?_;try simp only [qaa])
   refine Plan.nil ?_
   refine Plan.go [16,17,18,19,20,21,22,23,24,25] ?_
   iterate 10 (refine qaq (by simp only [qab];rfl) (by kernel_rfl) (by exact fun _ _ _ h=>h) (by rfl) (by assumption) ?_;try simp only [qaa])
   refine Plan.nil ?_
   refine Plan.go [26,27] ?_
   iterate 2 (refine qac (by simp only [qab];rfl) (by kernel_rfl) (by exact fun _ _ _ h=>h) (by rfl) (by assumption) (fun w _=>by go_simp;try (with_reducible rfl)) ?_;try simp only [qaa])
   refine Plan.nil ?_
   refine Plan.go [28,29,30,31,32,33,34] ?_
   iterate 7 (refine qaq (by simp only [qab];rfl) (by kernel_rfl) (by exact fun _ _ _ h=>h) (by rfl) (by assumption) ?_;try simp only [qaa])
   refine Plan.nil ?_
   refine qan 35 (v := ?_) (by simp only [qab];rfl) (by kernel_rfl) (by exact fun _ _ _ h=>h) (by rfl) (by assumption) ?_ ?_
   rotate_left
   ·(intro w _;go_simp;try (with_reducible rfl))
   try simp only [qaa]
   refine wpAnyH_done (by kernel_rfl) ?_ _
   go_wp2
   go_meet
   exact ⟨by rw [hr],by first | assumption | exact (Keeps.refl _).drew⟩
  cases d2:decide (0 <= za)
  rotate_left
  ·have hr:bad=true:=by rw [<- Hbad.out,d1,d2];rfl
   refine wp_region_held_drew (S:=(fun w'=>Keeps Z w')) (by kernel_rfl) ?_ (fun hHeld => ?_)
   ·exact (Keeps.refl Z).drew
   refine Plan.go [0,1,2,3,4,5,6,7,8,9,10,11] ?_
   iterate 12 (refine qac (by simp only [qab];rfl) (by kernel_rfl) (by exact fun _ _ _ h=>h) (by rfl) (by assumption) (fun w _=>by go_simp;try (with_reducible rfl)) ?_;try simp only [qaa])
   refine Plan.nil ?_
   refine qad 12 (by kernel_rfl) (by simp only [qab];rfl) (fun K hK => ?_)
   go_simp
   (go_at_call 194;refine (WA.out _ (by first | assumption | exact Keeps.refl _ | exact (Keeps.refl _).drew | exact Keeps.drew (by assumption))).mono ?_;rintro e w5 ⟨rfl,k5⟩)
   try go_wp2_with fail
   refine hK.out _ _ ?_ (fun hHeld => ?_)
   ·first | assumption | exact Keeps.trans (by assumption) (by assumption)
   clear hK K
   try simp only [qaa]
   refine Plan.go [13,14,15] ?_
   iterate 3 (refine qac (by simp only [qab];rfl) (by kernel_rfl) (by exact fun _ _ _ h=>h) (by rfl) (by assumption) (fun w _=>by go_simp;try (with_reducible rfl)) ?_;try simp only [qaa])
   refine Plan.nil ?_
   refine Plan.go [16,17,18,19,20,21,22,23,24,25] ?_
   iterate 10 (refine qaq (by simp only [qab];rfl) (by kernel_rfl) (by exact fun _ _ _ h=>h) (by rfl) (by assumption) ?_;try simp only [qaa])
   refine Plan.nil ?_
   refine Plan.go [26,27] ?_
   iterate 2 (refine qac (by simp only [qab];rfl) (by kernel_rfl) (by exact fun _ _ _ h=>h) (by rfl) (by assumption) (fun w _=>by go_simp;try (with_reducible rfl)) ?_;try simp only [qaa])
   refine Plan.nil ?_
   refine Plan.go [28,29,30,31,32,33,34] ?_
   iterate 7 (refine qaq (by simp only [qab];rfl) (by kernel_rfl) (by exact fun _ _ _ h=>h) (by rfl) (by assumption) ?_;try simp only [qaa])
   refine Plan.nil ?_
   refine qan 35 (v := ?_) (by simp only [qab];rfl) (by kernel_rfl) (by exact fun _ _ _ h=>h) (by rfl) (by assumption) ?_ ?_
   rotate_left
   ·(intro w _;go_simp;try (with_reducible rfl))
   try simp only [qaa]
   refine wpAnyH_done (by kernel_rfl) ?_ _
   go_wp2
   go_meet
   exact ⟨by rw [hr],by first | assumption | exact (Keeps.refl _).drew⟩
  cases d3:(l.owner==cn)
  rotate_left
  ·have hr:bad=true:=by rw [<- Hbad.out,d1,d2,d3];rfl
   refine wp_region_held_drew (S:=(fun w'=>Keeps Z w')) (by kernel_rfl) ?_ (fun hHeld => ?_)
   ·exact (Keeps.refl Z).drew
   refine Plan.go [0,1,2,3,4,5,6,7,8,9,10,11] ?_
   iterate 12 (refine qac (by simp only [qab];rfl) (by kernel_rfl) (by exact fun _ _ _ h=>h) (by rfl) (by assumption) (fun w _=>by go_simp;try (with_reducible rfl)) ?_;try simp only [qaa])
   refine Plan.nil ?_
   refine qad 12 (by kernel_rfl) (by simp only [qab];rfl) (fun K hK => ?_)
   go_simp
   (go_at_call 194;refine (WA.out _ (by first | assumption | exact Keeps.refl _ | exact (Keeps.refl _).drew | exact Keeps.drew (by assumption))).mono ?_;rintro e w5 ⟨rfl,k5⟩)
   try go_wp2_with fail
   refine hK.out _ _ ?_ (fun hHeld => ?_)
   ·first | assumption | exact Keeps.trans (by assumption) (by assumption)
   clear hK K
   try simp only [qaa]
   refine Plan.go [13,14,15,16,17,18,19,20,21,22,23,24,25,26,27] ?_
   iterate 15 (refine qac (by simp only [qab];rfl) (by kernel_rfl) (by exact fun _ _ _ h=>h) (by rfl) (by assumption) (fun w _=>by go_simp;try (with_reducible rfl)) ?_;try simp only [qaa])
   refine Plan.nil ?_
   refine Plan.go [28,29,30,31,32,33,34] ?_
   iterate 7 (refine qaq (by simp only [qab];rfl) (by kernel_rfl) (by exact fun _ _ _ h=>h) (by rfl) (by assumption) ?_;try simp only [qaa])
   refine Plan.nil ?_
   refine qan 35 (v := ?_) (by simp only [qab];rfl) (by kernel_rfl) (by exact fun _ _ _ h=>h) (by rfl) (by assumption) ?_ ?_
   rotate_left
   ·(intro w _;go_simp;try (with_reducible rfl))
   try simp only [qaa]
   refine wpAnyH_done (by kernel_rfl) ?_ _
   go_wp2
   go_meet
   exact ⟨by rw [hr],by first | assumption | exact (Keeps.refl _).drew⟩
  have hr:bad = !sm:=by rw [<- Hbad.out,d1,d2,d3];rfl
  refine wp_region_held_drew (S:=(fun w'=>Keeps Z w')) (by kernel_rfl) ?_ (fun hHeld => ?_)
  ·exact (Keeps.refl Z).drew
  refine Plan.go [0,1,2,3,4,5,6,7,8,9,10,11] ?_
  iterate 12 (refine qac (by simp only [qab];rfl) (by kernel_rfl) (by exact fun _ _ _ h=>h) (by rfl) (by assumption) (fun w _=>by go_simp;try (with_reducible rfl)) ?_;try simp only [qaa])
  refine Plan.nil ?_
  refine qad 12 (by kernel_rfl) (by simp only [qab];rfl) (fun K hK => ?_)
  go_simp
  first
   | (go_at_call 194;refine (WA.out _ (by first | assumption | exact Keeps.refl _ | exact (Keeps.refl _).drew | exact Keeps.drew (by assumption))).mono ?_;rintro e w5 ⟨rfl,k5⟩)
   | (go_at_call 240;refine (SC.out _ (by first | assumption | exact Keeps.refl _ | exact (Keeps.refl _).drew | exact Keeps.drew (by assumption))).mono ?_;rintro e w6 ⟨rfl,k6⟩)
  try go_wp2_with fail
  refine hK.out _ _ ?_ (fun hHeld => ?_)
  ·first | assumption | exact Keeps.trans (by assumption) (by assumption)
  clear hK K
  try simp only [qaa]
  refine Plan.go [13,14,15,16,17,18,19,20,21,22,23,24,25,26,27,28,29,30,31,32] ?_
  iterate 20 (refine qac (by simp only [qab];rfl) (by kernel_rfl) (by exact fun _ _ _ h=>h) (by rfl) (by assumption) (fun w _=>by go_simp;try (with_reducible rfl)) ?_;try simp only [qaa])
  refine Plan.nil ?_
  refine qad 33 (by kernel_rfl) (by simp only [qab];rfl) (fun K hK => ?_)
  go_simp
  first
   | (go_at_call 194;refine (WA.out _ (by first | assumption | exact Keeps.refl _ | exact (Keeps.refl _).drew | exact Keeps.drew (by assumption))).mono ?_;rintro e w5 ⟨rfl,k5⟩)
   | (go_at_call 240;refine (SC.out _ (by first | assumption | exact Keeps.refl _ | exact (Keeps.refl _).drew | exact Keeps.drew (by assumption))).mono ?_;rintro e w6 ⟨rfl,k6⟩)
  try go_wp2_with fail
  refine hK.out _ _ ?_ (fun hHeld => ?_)
  ·first | assumption | exact Keeps.trans (by assumption) (by assumption)
  clear hK K
  try simp only [qaa]
  refine Plan.go [34,35] ?_
  iterate 2 (refine qac (by simp only [qab];rfl) (by kernel_rfl) (by exact fun _ _ _ h=>h) (by rfl) (by assumption) (fun w _=>by go_simp;try (with_reducible rfl)) ?_;try simp only [qaa])
  refine Plan.nil ?_
  refine wpAnyH_done (by kernel_rfl) ?_ _
  go_wp2
  go_meet
  exact ⟨by rw [hr],by first | assumption | exact (Keeps.refl _).drew⟩
 case rest =>
 obtain ⟨rfl,kx⟩:=hcut
 generalize wc=wx at *
 clear WA TC LC Hbad Hz SC Hsm
 cases bad
 rotate_left
 ·have HN:Hid (qcF s ⟨ck,cn,cp,j,cb⟩ t=5):=HN0.out
  have AE:=A0.out.keeps kx
  obtain ⟨_,o1,o2⟩:=AE.g.var.box
  dsimp only [syc] at o1
  obtain ⟨_,r1,r2⟩:=AE.r
  go_wp2
  exact AE.ret HN.out (fun h=>absurd h (by decide)) rfl (fun Q D=>by simp [results,Tryz.results218,go_sem,D])
 have LA:Hid (∀ w',Keeps Z w'->Calls Tryz.prog 188 #[.slice (some ⟨lb,loff,none⟩) ln lcap,.int .i64 j,.int .i64 cn] w' fun e w''=>∃ u us,e = .returned (.tuple #[u,.int .i64 (askN s.locks j cn)]) /\ Mine w'' w'.heap.size w''.heap.size u us (askL s.locks j cn) /\ Keeps w' w''):=fun w' kk=>by
  have O:=HS.out.onL.keeps kk
  have:=qib (some ⟨lb,loff,none⟩) lcap s.locks j cn w' O.size O.lks
  rw [O.len] at this
  exact this
 obtain ⟨an,Han⟩:∃ z,Hid (askN s.locks j cn=z):=⟨_,rfl⟩
 rw [Han.out] at LA
 go_upto_region 6 with (go_at_call 188;refine (LA.out _ kx).mono ?_;rintro e w6 ⟨u6,us6,rfl,M6,k6⟩)
 obtain ⟨a6,c6,e6,-,-⟩:=M6.lks
 obtain ⟨m6,Hm6⟩:∃ m,Hid ((askL s.locks j cn).length=m):=⟨_,rfl⟩
 rw [Hm6.out] at e6
 subst e6
 have HM6:Hid (Mine w6 wx.heap.size w6.heap.size (Value.slice a6 m6 c6) us6 (askL s.locks j cn)):=M6
 clear M6
 cases d5:(an==4)
 rotate_left
 ·have HN:Hid (qcF s ⟨ck,cn,cp,j,cb⟩ t=6):=by show _=_;rw [HN0.out,Han.out,d5];rfl
  have AE:=A0.out.keeps (kx.trans k6)
  obtain ⟨_,o1,o2⟩:=AE.g.var.box
  dsimp only [syc] at o1
  obtain ⟨_,r1,r2⟩:=AE.r
  go_wp2
  exact AE.ret HN.out (fun h=>absurd h (by decide)) rfl (fun Q D=>by simp [results,Tryz.results218,go_sem,D])
 have HN:Hid (qcF s ⟨ck,cn,cp,j,cb⟩ t=0):=by show _=_;rw [HN0.out,Han.out,d5];rfl
 have AN:Hid (AskR w lo ⟨⟨some ⟨tb,0,none⟩,tn,tcap⟩,⟨some ⟨lb,loff,none⟩,ln,lcap⟩,⟨ga,gn,gcap⟩,⟨fa,fn,fcap⟩,⟨ra,rn,rcap⟩⟩ vs (w6.setCell ⟨w.heap.size,3,none⟩ (.slice a6 m6 c6)) w.heap.size (w.heap.size+2) ⟨⟨some ⟨tb,0,none⟩,tn,tcap⟩,⟨a6,m6,c6⟩,⟨ga,gn,gcap⟩,⟨fa,fn,fcap⟩,⟨ra,rn,rcap⟩⟩ us6 { (s:Sy) with locks:=askL s.locks j cn }):=(A0.out.keeps kx).locks k6 (x:=⟨a6,m6,c6⟩) HM6.out
 obtain ⟨_,p1,p2⟩:=(A0.out.keeps (kx.trans k6)).g.var.box
 obtain ⟨_,q1,q2⟩:=(A0.out.keeps (kx.trans k6)).r
 dsimp only [syc] at p1
 have hsz:w.heap.size+2≠w.heap.size:=by omega
 have AE:=AN.out
 obtain ⟨_,o1,o2⟩:=AE.g.var.box
 dsimp only [syc] at o1
 obtain ⟨_,r1,r2⟩:=AE.r
 go_wp2
 exact AE.ret HN.out (fun _=>rfl) rfl (fun Q D=>by simp [results,Tryz.results218,go_sem,D])
set_option linter.unusedSimpArgs false in
set_option maxHeartbeats 8000000 in
theorem qj7 {w:World} {lo:Nat} {v:Sv} {vs:List Lv} {s:Sy} (h:OwnS w lo v vs s) (hl:lo <= w.heap.size) (R:SysR s) (c:Cl) {k:Nat} {t:Tsk} (ht:s.tasks[k]?=some t) :
  Calls Tryz.prog 219 #[.agg (syc s v),ck c,.int .i64 k] w (Did w lo v vs (qcQ s c t) (qeP s c)):=by
 obtain ⟨⟨ta,tn,tcap⟩,⟨la,ln,lcap⟩,⟨ga,gn,gcap⟩,⟨fa,fn,fcap⟩,⟨ra,rn,rcap⟩⟩:=v
 have hk:k < s.tasks.length:=qas ht
 obtain ⟨tb,htb⟩:=h.tasksAt hk
 dsimp only at htb
 subst htb
 cases c1:inB c.a 0 4
 ·have HN:Hid (qcQ s c t=2):=by show _=_;unfold qcQ;rw [c1];rfl
  obtain ⟨A0',C0',kZ⟩:=ask3 h hl c
  have C0:Hid (Blk _ (w.heap.size+1) (cc c)):=C0'
  have A0:Hid (AskR w lo _ vs _ w.heap.size (w.heap.size+2) _ vs s):=A0'
  have HS:Hid (SysOn _ _ s):=(h.on (by have:=R.small;omega)).keeps kZ
  clear A0' C0' h
  go_enter Tryz.func219,Tryz.ntmps219
  go_wp2_with fail
  change Calls _ _ _ (qau w ⟨⟨some ⟨tb,0,none⟩,tn,tcap⟩,⟨la,ln,lcap⟩,⟨ga,gn,gcap⟩,⟨fa,fn,fcap⟩,⟨ra,rn,rcap⟩⟩ s c) _
  generalize qau w ⟨⟨some ⟨tb,0,none⟩,tn,tcap⟩,⟨la,ln,lcap⟩,⟨ga,gn,gcap⟩,⟨fa,fn,fcap⟩,⟨ra,rn,rcap⟩⟩ s c=Z at *
  have hb0:∀ w',Keeps Z w'->∀ q,w'.cell? ⟨w.heap.size,q,none⟩=(syc s ⟨⟨some ⟨tb,0,none⟩,tn,tcap⟩,⟨la,ln,lcap⟩,⟨ga,gn,gcap⟩,⟨fa,fn,fcap⟩,⟨ra,rn,rcap⟩⟩)[q]?:=fun w' k=>(A0.out.g.var.box.keeps k).cells
  dsimp only [syc] at hb0
  have hc0:∀ w',Keeps Z w'->∀ q,w'.cell? ⟨w.heap.size+1,q,none⟩=(cc c)[q]?:=fun w' k=>(C0.out.keeps k).cells
  refine (qaf _ _ _ _).mono ?_
  rintro e w' ⟨rfl,hw'⟩
  have hw2:=hw'.symm
  subst hw2
  rw [c1]
  have AE:=A0.out
  obtain ⟨_,o1,o2⟩:=AE.g.var.box
  dsimp only [syc] at o1
  obtain ⟨_,r1,r2⟩:=AE.r
  go_wp2
  exact AE.ret HN.out (fun h=>absurd h (by decide)) rfl (fun Q D=>by simp [results,Tryz.results219,go_sem,D])
 obtain ⟨ha0,ha1⟩:=qap.1 c1
 obtain ⟨ck,cn,cp,ca,cb⟩:=c
 dsimp only at ha0 ha1 c1
 obtain ⟨j,rfl⟩:∃ j:Nat,ca=(j:Int):=⟨ca.toNat,by omega⟩
 obtain ⟨l,hli⟩:=qai (xs:=s.locks) (k:=j) (by rw [R.five];omega)
 have ON:=h.on (by have:=R.small;omega)
 obtain ⟨hjn,lb,loff,a',cap',ha,l0,l1,hwl,hws⟩:=ON.onL.at hli
 dsimp only at ha
 subst ha
 have hkn:(k:Int) < (tn:Int):=by have:=ON.lay.tl;dsimp only at this;omega
 have hjn':(j:Int) < (ln:Int):=by dsimp only at hjn;omega
 have T0:∀ w',Keeps w w'->∀ i,i < 14->w'.cell? ⟨tb,k*14+i,none⟩=(tc t)[i]?:=fun w' kk i hi=>(kk.cells tb _ (h.blkLt (i:=0) (b:=tb) rfl).2).trans ((h.taskCells (rb:=tb) rfl ht).1 i hi)
 clear ON
 obtain ⟨za,Hz⟩:∃ z,Hid (qaK s.locks cn=z):=⟨_,rfl⟩
 obtain ⟨bad,Hbad⟩:∃ z,Hid (((t.st==2)||(decide (0 <= za)||(l.owner != cn)))=z):=⟨_,rfl⟩
 obtain ⟨bi,Hbi⟩:∃ z,Hid (qaP s.tasks l.waits=z):=⟨_,rfl⟩
 have HN0:Hid (qcQ s ⟨ck,cn,cp,j,cb⟩ t=if bad then 5 else 0):=by
  show _=_
  have e1:(!decide (za < 0))=decide (0 <= za):=by rw [Bool.eq_iff_iff];simp
  unfold qcQ
  dsimp only
  rw [c1,Hz.out,e1,Int.toNat_natCast,qbS hli,Hbad.out]
  simp
 have HC0:Hid (qeP s ⟨ck,cn,cp,j,cb⟩={ s with locks:=qa5 s.locks j cn bi }):=by
  show _=_
  unfold qeP
  dsimp only
  rw [Int.toNat_natCast,qjW hli,Hbi.out]
 obtain ⟨A0',C0',kZ⟩:=ask3 h hl ⟨ck,cn,cp,j,cb⟩
 have C0:Hid (Blk _ (w.heap.size+1) (cc ⟨ck,cn,cp,j,cb⟩)):=C0'
 have A0:Hid (AskR w lo _ vs _ w.heap.size (w.heap.size+2) _ vs s):=A0'
 have HS:Hid (SysOn _ _ s):=(h.on (by have:=R.small;omega)).keeps kZ
 clear A0' C0' h
 have TC:∀ w',Keeps (qau w ⟨⟨some ⟨tb,0,none⟩,tn,tcap⟩,⟨some ⟨lb,loff,none⟩,ln,lcap⟩,⟨ga,gn,gcap⟩,⟨fa,fn,fcap⟩,⟨ra,rn,rcap⟩⟩ s ⟨ck,cn,cp,j,cb⟩) w'->∀ i,i < 14->w'.cell? ⟨tb,k*14+i,none⟩=(tc t)[i]?:=fun w' kk=>T0 w' (kZ.trans kk)
 have LC:∀ w',Keeps (qau w ⟨⟨some ⟨tb,0,none⟩,tn,tcap⟩,⟨some ⟨lb,loff,none⟩,ln,lcap⟩,⟨ga,gn,gcap⟩,⟨fa,fn,fcap⟩,⟨ra,rn,rcap⟩⟩ s ⟨ck,cn,cp,j,cb⟩) w'->w'.cell? ⟨lb,loff+j*2,none⟩=some (.int .i64 l.owner):=fun w' kk=>l0 w' (kZ.trans kk)
 have LW:∀ w',Keeps (qau w ⟨⟨some ⟨tb,0,none⟩,tn,tcap⟩,⟨some ⟨lb,loff,none⟩,ln,lcap⟩,⟨ga,gn,gcap⟩,⟨fa,fn,fcap⟩,⟨ra,rn,rcap⟩⟩ s ⟨ck,cn,cp,j,cb⟩) w'->w'.cell? ⟨lb,loff+j*2+1,none⟩=some (.slice a' l.waits.length cap'):=fun w' kk=>l1 w' (kZ.trans kk)
 have HW:Hid (Ns (qau w ⟨⟨some ⟨tb,0,none⟩,tn,tcap⟩,⟨some ⟨lb,loff,none⟩,ln,lcap⟩,⟨ga,gn,gcap⟩,⟨fa,fn,fcap⟩,⟨ra,rn,rcap⟩⟩ s ⟨ck,cn,cp,j,cb⟩) a' l.waits):=hws.keeps kZ
 have HWL:Hid (l.waits.length <= maxLen):=hwl
 clear T0 l0 l1 hws hwl
 go_enter Tryz.func219,Tryz.ntmps219
 go_wp2_with fail
 change Calls _ _ _ (qau w ⟨⟨some ⟨tb,0,none⟩,tn,tcap⟩,⟨some ⟨lb,loff,none⟩,ln,lcap⟩,⟨ga,gn,gcap⟩,⟨fa,fn,fcap⟩,⟨ra,rn,rcap⟩⟩ s ⟨ck,cn,cp,j,cb⟩) _
 generalize qau w ⟨⟨some ⟨tb,0,none⟩,tn,tcap⟩,⟨some ⟨lb,loff,none⟩,ln,lcap⟩,⟨ga,gn,gcap⟩,⟨fa,fn,fcap⟩,⟨ra,rn,rcap⟩⟩ s ⟨ck,cn,cp,j,cb⟩=Z at *
 have hb0:∀ w',Keeps Z w'->∀ q,w'.cell? ⟨w.heap.size,q,none⟩=(syc s ⟨⟨some ⟨tb,0,none⟩,tn,tcap⟩,⟨some ⟨lb,loff,none⟩,ln,lcap⟩,⟨ga,gn,gcap⟩,⟨fa,fn,fcap⟩,⟨ra,rn,rcap⟩⟩)[q]?:=fun w' k=>(A0.out.g.var.box.keeps k).cells
 dsimp only [syc] at hb0
 have hc0:∀ w',Keeps Z w'->∀ q,w'.cell? ⟨w.heap.size+1,q,none⟩=(cc ⟨ck,cn,cp,j,cb⟩)[q]?:=fun w' k=>(C0.out.keeps k).cells
 have WA:Hid (∀ w',Keeps Z w'->Calls Tryz.prog 194 #[.slice (some ⟨lb,loff,none⟩) ln lcap,.int .i64 cn] w' fun e w''=>e = .returned (.int .i64 za) /\ Keeps w' w''):=fun w' kk=>HS.out.onL.sWaitAt cn Hz.out kk
 refine (qaf _ _ _ _).mono ?_
 rintro e w' ⟨rfl,hw'⟩
 have hw2:=hw'.symm
 subst hw2
 rw [c1]
 go_upto_region 3 with fail
 go_cut [39] (fun b wx=>b = .bool bad /\ Keeps Z wx)
 case first =>
  cases d1:(t.st==2)
  rotate_left
  ·have hr:bad=true:=by rw [<- Hbad.out,d1];rfl
   refine wp_region_held_drew (S:=(fun w'=>Keeps Z w')) (by kernel_rfl) ?_ (fun hHeld => ?_)
   ·exact (Keeps.refl Z).drew
   refine Plan.go [0,1,2,3,4,5,6,7] ?_
   iterate 8 (refine qac (by simp only [qab];rfl) (by kernel_rfl) (by exact fun _ _ _ h=>h) (by rfl) (by assumption) (fun w _=>by go_simp;try (with_reducible rfl)) ?_;try simp only [qaa])
   refine Plan.nil ?_
   refine Plan.go [8,9,10,11,12,13] ?_
   iterate 6 (refine qaq (by simp only [qab];rfl) (by kernel_rfl) (by exact fun _ _ _ h=>h) (by rfl) (by assumption) ?_;try simp only [qaa])
   refine Plan.nil ?_
   refine Plan.go [14,15] ?_
   iterate 2 (refine qac (by simp only [qab];rfl) (by kernel_rfl) (by exact fun _ _ _ h=>h) (by rfl) (by assumption) (fun w _=>by go_simp;try (with_reducible rfl)) ?_;try simp only [qaa])
   refine Plan.nil ?_
   refine Plan.go [16,17,18,19,20,21,22,23,24,25] ?_
   iterate 10 (refine qaq (by simp only [qab];rfl) (by kernel_rfl) (by exact fun _ _ _ h=>h) (by rfl) (by assumption) ?_;try simp only [qaa])
   refine Plan.nil ?_
   refine qan 26 (v := ?_) (by simp only [qab];rfl) (by kernel_rfl) (by exact fun _ _ _ h=>h) (by rfl) (by assumption) ?_ ?_
   rotate_left
   ·(intro w _;go_simp;try (with_reducible rfl))
   try simp only [qaa]
   refine wpAnyH_done (by kernel_rfl) ?_ _
   go_wp2
   go_meet
   exact ⟨by rw [hr],by first | assumption | exact (Keeps.refl _).drew⟩
  cases d2:decide (0 <= za)
  rotate_left
  ·have hr:bad=true:=by rw [<- Hbad.out,d1,d2];rfl
   refine wp_region_held_drew (S:=(fun w'=>Keeps Z w')) (by kernel_rfl) ?_ (fun hHeld => ?_)
   ·exact (Keeps.refl Z).drew
   refine Plan.go [0,1,2,3,4,5,6,7,8,9,10,11] ?_
   iterate 12 (refine qac (by simp only [qab];rfl) (by kernel_rfl) (by exact fun _ _ _ h=>h) (by rfl) (by assumption) (fun w _=>by go_simp;try (with_reducible rfl)) ?_;try simp only [qaa])
   refine Plan.nil ?_
   refine qad 12 (by kernel_rfl) (by simp only [qab];rfl) (fun K hK => ?_)
   go_simp
   (go_at_call 194;refine (WA.out _ (by first | assumption | exact Keeps.refl _ | exact (Keeps.refl _).drew | exact Keeps.drew (by assumption))).mono ?_;rintro e w5 ⟨rfl,k5⟩)
   try go_wp2_with fail
   refine hK.out _ _ ?_ (fun hHeld => ?_)
   ·first | assumption | exact Keeps.trans (by assumption) (by assumption)
   clear hK K
   try simp only [qaa]
   refine Plan.go [13,14,15] ?_
   iterate 3 (refine qac (by simp only [qab];rfl) (by kernel_rfl) (by exact fun _ _ _ h=>h) (by rfl) (by assumption) (fun w _=>by go_simp;try (with_reducible rfl)) ?_;try simp only [qaa])
   refine Plan.nil ?_
   refine Plan.go [16,17,18,19,20,21,22,23,24,25] ?_
   iterate 10 (refine qaq (by simp only [qab];rfl) (by kernel_rfl) (by exact fun _ _ _ h=>h) (by rfl) (by assumption) ?_;try simp only [qaa])
   refine Plan.nil ?_
   refine qan 26 (v := ?_) (by simp only [qab];rfl) (by kernel_rfl) (by exact fun _ _ _ h=>h) (by rfl) (by assumption) ?_ ?_
   rotate_left
   ·(intro w _;go_simp;try (with_reducible rfl))
   try simp only [qaa]
   refine wpAnyH_done (by kernel_rfl) ?_ _
   go_wp2
   go_meet
   exact ⟨by rw [hr],by first | assumption | exact (Keeps.refl _).drew⟩
  have hr:bad=(l.owner != cn):=by rw [<- Hbad.out,d1,d2];rfl
  refine wp_region_held_drew (S:=(fun w'=>Keeps Z w')) (by kernel_rfl) ?_ (fun hHeld => ?_)
  ·exact (Keeps.refl Z).drew
  refine Plan.go [0,1,2,3,4,5,6,7,8,9,10,11] ?_
  iterate 12 (refine qac (by simp only [qab];rfl) (by kernel_rfl) (by exact fun _ _ _ h=>h) (by rfl) (by assumption) (fun w _=>by go_simp;try (with_reducible rfl)) ?_;try simp only [qaa])
  refine Plan.nil ?_
  refine qad 12 (by kernel_rfl) (by simp only [qab];rfl) (fun K hK => ?_)
  go_simp
  (go_at_call 194;refine (WA.out _ (by first | assumption | exact Keeps.refl _ | exact (Keeps.refl _).drew | exact Keeps.drew (by assumption))).mono ?_;rintro e w5 ⟨rfl,k5⟩)
  try go_wp2_with fail
  refine hK.out _ _ ?_ (fun hHeld => ?_)
  ·first | assumption | exact Keeps.trans (by assumption) (by assumption)
  clear hK K
  try simp only [qaa]
  refine Plan.go [13,14,15,16,17,18,19,20,21,22,23,24,25,26] ?_
  iterate 14 (refine qac (by simp only [qab];rfl) (by kernel_rfl) (by exact fun _ _ _ h=>h) (by rfl) (by assumption) (fun w _=>by go_simp;try (with_reducible rfl)) ?_;try simp only [qaa])
  refine Plan.nil ?_
  refine wpAnyH_done (by kernel_rfl) ?_ _
  go_wp2
  go_meet
  exact ⟨by rw [hr],by first | assumption | exact (Keeps.refl _).drew⟩
 case rest =>
 obtain ⟨rfl,kx⟩:=hcut
 generalize wc=wx at *
 clear WA TC LC Hbad Hz
 cases bad
 rotate_left
 ·have HN:Hid (qcQ s ⟨ck,cn,cp,j,cb⟩ t=5):=HN0.out
  have AE:=A0.out.keeps kx
  obtain ⟨_,o1,o2⟩:=AE.g.var.box
  dsimp only [syc] at o1
  obtain ⟨_,r1,r2⟩:=AE.r
  go_wp2
  exact AE.ret HN.out (fun h=>absurd h (by decide)) rfl (fun Q D=>by simp [results,Tryz.results219,go_sem,D])
 have BO:Hid (∀ w',Keeps Z w'->Calls Tryz.prog 242 #[.slice (some ⟨tb,0,none⟩) tn tcap,.slice a' l.waits.length cap'] w' fun e w''=>e = .returned (.int .i64 bi) /\ Keeps w' w''):=fun w' kk=>by
  have:=qni (HS.out.keeps kk).onT a' cap' l.waits HWL.out (HW.out.keeps kk)
  rw [Hbi.out] at this
  exact this
 have LF:Hid (∀ w',Keeps Z w'->Calls Tryz.prog 241 #[.slice (some ⟨lb,loff,none⟩) ln lcap,.int .i64 j,.int .i64 cn,.int .i64 bi] w' fun e w''=>∃ u us,e = .returned (.tuple #[u,.bool (qbE s.locks j cn bi)]) /\ Mine w'' w'.heap.size w''.heap.size u us (qa5 s.locks j cn bi) /\ Keeps w' w''):=fun w' kk=>by
  have O:=HS.out.onL.keeps kk
  have:=qne (some ⟨lb,loff,none⟩) lcap s.locks j cn bi w' O.size O.lks
  rw [O.len] at this
  exact this
 go_upto_region 5 with fail
 refine qgR 21 (S:=(fun w'=>Keeps Z w')) (by kernel_rfl) ?_ (fun hHeld => ?_)
 ·exact kx.drew
 refine Plan.go [0,1,2,3,4,5,6,7,8,9,10,11,12,13,14] ?_
 iterate 15 (refine latL (by simp only [qab];rfl) (by kernel_rfl) (by exact fun _ _ _ h=>h) (by rfl) (by assumption) (fun w _=>by go_simp;try (with_reducible rfl)) ?_;try simp only [qaa])
 refine Plan.nil ?_
 refine qgP (i:=15) (by kernel_rfl) (by simp only [List.getElem?_toArray,List.getElem?_cons_succ,List.getElem?_cons_zero];rfl) (fun K hK => ?_)
 go_simp
 first
  | (go_at_call 242;refine (BO.out _ (by assumption)).mono ?_;rintro e w7 ⟨rfl,k7⟩;have K7:Keeps Z w7:=Keeps.trans (by assumption) k7)
  | (go_at_call 241;refine (LF.out _ (by assumption)).mono ?_;rintro e w8 ⟨u8,us8,rfl,M8,k8⟩;obtain ⟨a8,c8,e8,-,-⟩:=M8.lks;obtain ⟨m8,Hm8⟩:∃ m,Hid ((qa5 s.locks j cn bi).length=m):=⟨_,rfl⟩;rw [Hm8.out] at e8;subst e8;have HM8:Hid (Mine w8 w7.heap.size w8.heap.size (Value.slice a8 m8 c8) us8 (qa5 s.locks j cn bi)):=M8;clear M8)
 try go_wp2_with fail
 refine hK.out _ _ ?_ (fun hHeld => ?_)
 ·first | assumption | exact Keeps.trans (by assumption) (by assumption)
 clear hK K
 try simp only [qaa]
 refine qgP (i:=16) (by kernel_rfl) (by simp only [List.getElem?_toArray,List.getElem?_cons_succ,List.getElem?_cons_zero];rfl) (fun K hK => ?_)
 go_simp
 first
  | (go_at_call 242;refine (BO.out _ (by assumption)).mono ?_;rintro e w7 ⟨rfl,k7⟩;have K7:Keeps Z w7:=Keeps.trans (by assumption) k7)
  | (go_at_call 241;refine (LF.out _ (by assumption)).mono ?_;rintro e w8 ⟨u8,us8,rfl,M8,k8⟩;obtain ⟨a8,c8,e8,-,-⟩:=M8.lks;obtain ⟨m8,Hm8⟩:∃ m,Hid ((qa5 s.locks j cn bi).length=m):=⟨_,rfl⟩;rw [Hm8.out] at e8;subst e8;have HM8:Hid (Mine w8 w7.heap.size w8.heap.size (Value.slice a8 m8 c8) us8 (qa5 s.locks j cn bi)):=M8;clear M8)
 try go_wp2_with fail
 refine hK.out _ _ ?_ (fun hHeld => ?_)
 ·first | assumption | exact Keeps.trans (by assumption) (by assumption)
 clear hK K
 try simp only [qaa]
 refine Plan.go [17,18] ?_
 iterate 2 (refine latL (by simp only [qab];rfl) (by kernel_rfl) (by exact fun _ _ _ h=>h) (by rfl) (by assumption) (fun w _=>by go_simp;try (with_reducible rfl)) ?_;try simp only [qaa])
 refine Plan.nil ?_
 refine qgO (i:=19) (v := ?_) (by simp only [List.getElem?_toArray,List.getElem?_cons_succ,List.getElem?_cons_zero];rfl) (by kernel_rfl) (by kernel_rfl) (by kernel_rfl) (by kernel_rfl) (by exact fun _ _ _ h=>h) (Or.inl ⟨by rfl,?_⟩) (by assumption) ?_
 rotate_left
 ·(intro w _;go_simp;try (with_reducible rfl))
 try simp only [qaa]
 refine Plan.go [20] ?_
 iterate 1 (refine latL (by simp only [qab];rfl) (by kernel_rfl) (by exact fun _ _ _ h=>h) (by rfl) (by assumption) (fun w _=>by go_simp;try (with_reducible rfl)) ?_;try simp only [qaa])
 refine Plan.nil ?_
 refine qgQ (by kernel_rfl) (by simp only [List.getElem?_toArray,List.getElem?_cons_succ,List.getElem?_cons_zero];rfl) (by kernel_rfl) (fun K hK => ?_)
 have K8:Keeps Z w8:=(by assumption);obtain ⟨_,p1,p2⟩:=(A0.out.keeps K8).g.var.box;dsimp only [syc] at p1
 go_simp
 try go_wp2_with fail
 refine hK.out _ _ ?_
 clear hK K
 try simp only [qaa]
 have HN:Hid (qcQ s ⟨ck,cn,cp,j,cb⟩ t=0):=HN0.out
 have AN:Hid (AskR w lo ⟨⟨some ⟨tb,0,none⟩,tn,tcap⟩,⟨some ⟨lb,loff,none⟩,ln,lcap⟩,⟨ga,gn,gcap⟩,⟨fa,fn,fcap⟩,⟨ra,rn,rcap⟩⟩ vs (w8.setCell ⟨w.heap.size,3,none⟩ (.slice a8 m8 c8)) w.heap.size (w.heap.size+2) ⟨⟨some ⟨tb,0,none⟩,tn,tcap⟩,⟨a8,m8,c8⟩,⟨ga,gn,gcap⟩,⟨fa,fn,fcap⟩,⟨ra,rn,rcap⟩⟩ us8 { (s:Sy) with locks:=qa5 s.locks j cn bi }):=(A0.out.keeps K7).locks k8 (x:=⟨a8,m8,c8⟩) HM8.out
 clear p1 p2 BO LF hb0 hc0
 generalize w8.setCell ⟨w.heap.size,3,none⟩ (.slice a8 m8 c8)=X at *
 have AE:=AN.out
 obtain ⟨_,o1,o2⟩:=AE.g.var.box
 dsimp only [syc] at o1
 obtain ⟨_,r1,r2⟩:=AE.r
 go_wp2
 exact AE.ret HN.out (fun _=>HC0.out.symm) rfl (fun Q D=>by simp [results,Tryz.results219,go_sem,D])
set_option linter.unusedSimpArgs false in
set_option maxHeartbeats 8000000 in
theorem qj8 {w:World} {lo:Nat} {v:Sv} {vs:List Lv} {s:Sy} (h:OwnS w lo v vs s) (hl:lo <= w.heap.size) (R:SysR s) (c:Cl) {k:Nat} {t:Tsk} (ht:s.tasks[k]?=some t) :
  Calls Tryz.prog 220 #[.agg (syc s v),ck c,.int .i64 k] w (Did w lo v vs (qdd s c t) (qeQ s c k t)):=by
 obtain ⟨⟨ta,tn,tcap⟩,⟨la,ln,lcap⟩,⟨ga,gn,gcap⟩,⟨fa,fn,fcap⟩,⟨ra,rn,rcap⟩⟩:=v
 have hk:k < s.tasks.length:=qas ht
 obtain ⟨tb,htb⟩:=h.tasksAt hk
 dsimp only at htb
 subst htb
 have HK:Hid (s.tasks[k]?=some t):=ht
 have Hk:Hid (k < s.tasks.length):=hk
 have hcpu:=R.onCpus t (List.mem_of_getElem? ht)
 have hcs:=R.cpus
 have hfl:=R.floors
 have hwr:IntKind.i64.wrap (s.cpus - 1)=s.cpus - 1:=Go.IntWalk.i64_in _ (by omega)
 obtain ⟨oa,Hoa⟩:∃ z,Hid (qcB s.locks t.no=z):=⟨_,rfl⟩
 obtain ⟨za,Hz⟩:∃ z,Hid (qaK s.locks t.no=z):=⟨_,rfl⟩
 obtain ⟨bad,Hbad⟩:∃ z,Hid (((t.cls != 3)||(oa||decide (0 <= za)))=z):=⟨_,rfl⟩
 have HN0:Hid (qdd s c t=if bad then 5 else if !inB c.cpu 0 (s.cpus - 1) then 1 else 0):=by
  show _=_
  have e1:(!decide (za < 0))=decide (0 <= za):=by rw [Bool.eq_iff_iff];simp
  unfold qdd qfi
  rw [Hoa.out,Hz.out,e1,Hbad.out]
 have hkn:(k:Int) < (tn:Int):=by have:=(h.t.row qaw).1;dsimp only at this;omega
 obtain ⟨A0',C0',kZ⟩:=ask3 h hl c
 have C0:Hid (Blk (qau w ⟨⟨some ⟨tb,0,none⟩,tn,tcap⟩,⟨la,ln,lcap⟩,⟨ga,gn,gcap⟩,⟨fa,fn,fcap⟩,⟨ra,rn,rcap⟩⟩ s c) (w.heap.size+1) (cc c)):=C0'
 have T0:∀ w',Keeps (qau w ⟨⟨some ⟨tb,0,none⟩,tn,tcap⟩,⟨la,ln,lcap⟩,⟨ga,gn,gcap⟩,⟨fa,fn,fcap⟩,⟨ra,rn,rcap⟩⟩ s c) w'->∀ i,i < 14->w'.cell? ⟨tb,k*14+i,none⟩=(tc t)[i]?:=fun w' kk i hi=>((kZ.trans kk).cells tb _ (h.blkLt (i:=0) (b:=tb) rfl).2).trans ((h.taskCells (rb:=tb) rfl ht).1 i hi)
 have T00:∀ w',Keeps (qau w ⟨⟨some ⟨tb,0,none⟩,tn,tcap⟩,⟨la,ln,lcap⟩,⟨ga,gn,gcap⟩,⟨fa,fn,fcap⟩,⟨ra,rn,rcap⟩⟩ s c) w'->w'.cell? ⟨tb,k*14,none⟩=some (.int .i64 t.no):=fun w' kk=>T0 w' kk 0 (by omega)
 have A00:Hid (AskR w lo ⟨⟨some ⟨tb,0,none⟩,tn,tcap⟩,⟨la,ln,lcap⟩,⟨ga,gn,gcap⟩,⟨fa,fn,fcap⟩,⟨ra,rn,rcap⟩⟩ vs (qau w ⟨⟨some ⟨tb,0,none⟩,tn,tcap⟩,⟨la,ln,lcap⟩,⟨ga,gn,gcap⟩,⟨fa,fn,fcap⟩,⟨ra,rn,rcap⟩⟩ s c) w.heap.size (w.heap.size+2) ⟨⟨some ⟨tb,0,none⟩,tn,tcap⟩,⟨la,ln,lcap⟩,⟨ga,gn,gcap⟩,⟨fa,fn,fcap⟩,⟨ra,rn,rcap⟩⟩ vs s):=A0'
 have HS0:Hid (SysOn (qau w ⟨⟨some ⟨tb,0,none⟩,tn,tcap⟩,⟨la,ln,lcap⟩,⟨ga,gn,gcap⟩,⟨fa,fn,fcap⟩,⟨ra,rn,rcap⟩⟩ s c) ⟨⟨some ⟨tb,0,none⟩,tn,tcap⟩,⟨la,ln,lcap⟩,⟨ga,gn,gcap⟩,⟨fa,fn,fcap⟩,⟨ra,rn,rcap⟩⟩ s):=(h.on (by have:=R.small;omega)).keeps kZ
 clear A0' C0' h
 go_enter Tryz.func220,Tryz.ntmps220
 go_upto_region 1 with fail
 change Code.wp _ _ _ _ (qau w ⟨⟨some ⟨tb,0,none⟩,tn,tcap⟩,⟨la,ln,lcap⟩,⟨ga,gn,gcap⟩,⟨fa,fn,fcap⟩,⟨ra,rn,rcap⟩⟩ s c)
 generalize qau w ⟨⟨some ⟨tb,0,none⟩,tn,tcap⟩,⟨la,ln,lcap⟩,⟨ga,gn,gcap⟩,⟨fa,fn,fcap⟩,⟨ra,rn,rcap⟩⟩ s c=Z0 at *
 have hb00:∀ w',Keeps Z0 w'->∀ q,w'.cell? ⟨w.heap.size,q,none⟩=(syc s ⟨⟨some ⟨tb,0,none⟩,tn,tcap⟩,⟨la,ln,lcap⟩,⟨ga,gn,gcap⟩,⟨fa,fn,fcap⟩,⟨ra,rn,rcap⟩⟩)[q]?:=fun w' k=>(A00.out.g.var.box.keeps k).cells
 dsimp only [syc] at hb00
 go_upto_region 2 with fail
 have TB:Hid (Blk (Z0.alloc (.cells (tc t) 47)) Z0.heap.size (tc t)):=Blk.new _ _ _
 have A0:Hid (AskR w lo ⟨⟨some ⟨tb,0,none⟩,tn,tcap⟩,⟨la,ln,lcap⟩,⟨ga,gn,gcap⟩,⟨fa,fn,fcap⟩,⟨ra,rn,rcap⟩⟩ vs (Z0.alloc (.cells (tc t) 47)) w.heap.size (w.heap.size+2) ⟨⟨some ⟨tb,0,none⟩,tn,tcap⟩,⟨la,ln,lcap⟩,⟨ga,gn,gcap⟩,⟨fa,fn,fcap⟩,⟨ra,rn,rcap⟩⟩ vs s):=A00.out.keeps ((Keeps.refl _).alloc _)
 have HS:Hid (SysOn (Z0.alloc (.cells (tc t) 47)) ⟨⟨some ⟨tb,0,none⟩,tn,tcap⟩,⟨la,ln,lcap⟩,⟨ga,gn,gcap⟩,⟨fa,fn,fcap⟩,⟨ra,rn,rcap⟩⟩ s):=HS0.out.keeps ((Keeps.refl _).alloc _)
 have ftb:Hid (∀ i,¬ qah ⟨⟨some ⟨tb,0,none⟩,tn,tcap⟩,⟨la,ln,lcap⟩,⟨ga,gn,gcap⟩,⟨fa,fn,fcap⟩,⟨ra,rn,rcap⟩⟩ vs i Z0.heap.size):=fun i hi=>by have:=(A00.out.g.var.own.blkLt hi).2;omega
 have hob:w.heap.size≠Z0.heap.size:=by have:=A00.out.g.var.box.lt;omega
 have hrb:w.heap.size+2≠Z0.heap.size:=by have:=A00.out.r.lt;omega
 have C1:Hid (Blk (Z0.alloc (.cells (tc t) 47)) (w.heap.size+1) (cc c)):=C0.out.keeps ((Keeps.refl _).alloc _)
 change Code.wp _ _ _ _ (Z0.alloc (.cells (tc t) 47))
 clear T0 T00 hb00 A00 HS0 kZ C0
 generalize Z0.alloc (.cells (tc t) 47)=Z at *
 generalize Z0.heap.size=tbx at *
 have hb0:∀ w',Keeps Z w'->∀ q,w'.cell? ⟨w.heap.size,q,none⟩=(syc s ⟨⟨some ⟨tb,0,none⟩,tn,tcap⟩,⟨la,ln,lcap⟩,⟨ga,gn,gcap⟩,⟨fa,fn,fcap⟩,⟨ra,rn,rcap⟩⟩)[q]?:=fun w' k=>(A0.out.g.var.box.keeps k).cells
 dsimp only [syc] at hb0
 have ht0:∀ w',Keeps Z w'->∀ j,w'.cell? ⟨tbx,j,none⟩=(tc t)[j]?:=fun w' k=>(TB.out.keeps k).cells
 have hc0:∀ w',Keeps Z w'->∀ q,w'.cell? ⟨w.heap.size+1,q,none⟩=(cc c)[q]?:=fun w' k=>(C1.out.keeps k).cells
 have OA:Hid (∀ w',Keeps Z w'->Calls Tryz.prog 239 #[.slice la ln lcap,.int .i64 t.no] w' fun e w''=>e = .returned (.bool oa) /\ Keeps w' w''):=fun w' kk=>HS.out.onL.sOwnsAny t.no Hoa.out kk
 have WA:Hid (∀ w',Keeps Z w'->Calls Tryz.prog 194 #[.slice la ln lcap,.int .i64 t.no] w' fun e w''=>e = .returned (.int .i64 za) /\ Keeps w' w''):=fun w' kk=>HS.out.onL.sWaitAt t.no Hz.out kk
 go_cut [14] (fun b wx=>b = .bool bad /\ Keeps Z wx)
 case first =>
  cases d1:(t.cls != 3)
  rotate_left
  ·have hr:bad=true:=by rw [<- Hbad.out,d1];rfl
   go_wp2
   go_meet
   exact ⟨by rw [hr],Keeps.refl _⟩
  cases oa
  rotate_left
  ·have hr:bad=true:=by rw [<- Hbad.out,d1];rfl
   go_wp2_with (go_at_call 239;refine (OA.out _ (by first | assumption | exact Keeps.refl _ | exact (Keeps.refl _).drew | exact Keeps.drew (by assumption))).mono ?_;rintro e w5 ⟨rfl,k5⟩)
   go_meet
   exact ⟨by rw [hr],k5⟩
  have hr:bad=decide (0 <= za):=by rw [<- Hbad.out,d1];rfl
  go_wp2_with (go_at_call 239;refine (OA.out _ (by first | assumption | exact Keeps.refl _ | exact (Keeps.refl _).drew | exact Keeps.drew (by assumption))).mono ?_;rintro e w5 ⟨rfl,k5⟩)
  have k5':Keeps Z w5:=k5
  go_wp2_with (go_at_call 194;refine (WA.out _ (by first | assumption | exact Keeps.refl _ | exact (Keeps.refl _).drew | exact Keeps.drew (by assumption))).mono ?_;rintro e w6 ⟨rfl,k6⟩)
  go_meet
  exact ⟨by rw [hr],k5.trans k6⟩
 case rest =>
 obtain ⟨rfl,kx⟩:=hcut
 generalize wc=wx at *
 clear OA WA Hbad Hz Hoa
 cases bad
 rotate_left
 ·have HN:Hid (qdd s c t=5):=HN0.out
  have AE:=A0.out.keeps kx
  obtain ⟨_,o1,o2⟩:=AE.g.var.box
  dsimp only [syc] at o1
  obtain ⟨_,r1,r2⟩:=AE.r
  go_wp2
  exact AE.ret HN.out (fun h=>absurd h (by decide)) rfl (fun Q D=>by simp [results,Tryz.results220,go_sem,D])
 cases c2:inB c.cpu 0 (s.cpus - 1)
 ·have HN:Hid (qdd s c t=1):=by show _=_;rw [HN0.out,c2];rfl
  go_wp2_with fail
  refine (qaf _ _ _ _).mono ?_
  rintro e w' ⟨rfl,hw'⟩
  have hw2:=hw'.symm
  subst hw2
  rw [c2]
  have AE:=A0.out.keeps kx
  obtain ⟨_,o1,o2⟩:=AE.g.var.box
  dsimp only [syc] at o1
  obtain ⟨_,r1,r2⟩:=AE.r
  go_wp2
  exact AE.ret HN.out (fun h=>absurd h (by decide)) rfl (fun Q D=>by simp [results,Tryz.results220,go_sem,D])
 have HN:Hid (qdd s c t=0):=by show _=_;rw [HN0.out,c2];rfl
 obtain ⟨q0,q1⟩:=qap.1 c2
 obtain ⟨ck,cn,cp,ca,cb⟩:=c
 dsimp only at q0 q1 c2
 obtain ⟨q,rfl⟩:∃ q:Nat,cp=(q:Int):=⟨cp.toNat,by omega⟩
 obtain ⟨p,hp⟩:∃ p:Nat,t.cpu=(p:Int):=⟨t.cpu.toNat,by omega⟩
 obtain ⟨u,rfl⟩:∃ u:Tsk,t={ u with cpu:=(p:Int) }:=⟨t,by rw [<- hp]⟩
 dsimp only at hcpu
 obtain ⟨x1,hx1⟩:=qai (xs:=s.floors) (k:=p) (by omega)
 obtain ⟨x2,hx2⟩:=qai (xs:=s.floors) (k:=q) (by omega)
 obtain ⟨fb,hfb⟩:=A0.out.g.var.own.floorsAt (k:=p) (by omega)
 dsimp only at hfb
 subst hfb
 have hfn:=(A0.out.g.var.own.f.row qaZ).1
 dsimp only at hfn
 have hpn:(p:Int) < (fn:Int):=by omega
 have hqn:(q:Int) < (fn:Int):=by omega
 have F1:∀ w',Keeps Z w'->w'.cell? ⟨fb,p,none⟩=some (.int .i64 x1):=fun w' kk=>by
  obtain ⟨f1,-,f3,-⟩:=A0.out.g.var.own.floorCell (fb:=fb) rfl hx1
  exact (kk.cells fb _ f3).trans f1
 have F2:∀ w',Keeps Z w'->w'.cell? ⟨fb,q,none⟩=some (.int .i64 x2):=fun w' kk=>by
  obtain ⟨f1,-,f3,-⟩:=A0.out.g.var.own.floorCell (fb:=fb) rfl hx2
  exact (kk.cells fb _ f3).trans f1
 obtain ⟨NT,HNT⟩:∃ N,Hid (qbT { u with cpu:=(p:Int) } q x1 x2=N):=⟨_,rfl⟩
 have HC:Hid ({ (s:Sy) with tasks:=s.tasks.set k NT }=qeQ s ⟨ck,cn,q,ca,cb⟩ k { u with cpu:=(p:Int) }):=by
  show _=_
  unfold qeQ
  dsimp only
  rw [Int.toNat_natCast,Int.toNat_natCast,List.getD_eq_getElem?_getD,List.getD_eq_getElem?_getD,hx1,hx2,Option.getD_some,Option.getD_some,HNT.out]
 clear hx1 hx2 hfn hp hcpu hfl
 go_upto_region 6 with (go_at_call 64;refine (qaf _ _ _ _).mono ?_;rintro e w' ⟨rfl,hw'⟩;have hw2:=hw'.symm;subst hw2;rw [c2])
 refine qc1 20 (S:=(fun w'=>Keeps Z w')) (by kernel_rfl) ?_ (fun hHeld => ?_)
 ·exact kx.drew
 refine Plan.go [0,1,2,3,4,5,6,7,8,9,10,11,12,13,14,15,16,17] ?_
 iterate 18 (refine qbv (by simp only [qab];rfl) (by kernel_rfl) (by exact fun _ _ _ h=>h) (by rfl) (by assumption) (fun w _=>by go_simp;try (with_reducible rfl)) ?_;try simp only [qaa])
 refine Plan.nil ?_
 refine qbq (i:=18) (by kernel_rfl) (by simp only [List.getElem?_toArray,List.getElem?_cons_succ,List.getElem?_cons_zero];rfl) (fun K hK => ?_)
 go_simp
 (go_at_call 243;refine (qkB { u with cpu:=(p:Int) } q x1 x2 _).mono ?_;rintro e w8 ⟨rfl,k8⟩;rw [HNT.out])
 try go_wp2_with fail
 refine hK.out _ _ ?_ (fun hHeld => ?_)
 ·first | assumption | exact Keeps.trans (by assumption) (by assumption)
 clear hK K
 try simp only [qaa]
 refine Plan.go [19] ?_
 iterate 1 (refine qbv (by simp only [qab];rfl) (by kernel_rfl) (by exact fun _ _ _ h=>h) (by rfl) (by assumption) (fun w _=>by go_simp;try (with_reducible rfl)) ?_;try simp only [qaa])
 refine Plan.nil ?_
 refine qc0 (by kernel_rfl) (by simp only [List.getElem?_toArray,List.getElem?_cons_succ,List.getElem?_cons_zero];rfl) (by kernel_rfl) (fun K hK => ?_)
 have K8:Keeps Z w8:=(by assumption);have A8:=A0.out.keeps K8;obtain ⟨z1,z2⟩:=A8.g.var.own.taskCells (rb:=tb) rfl (k:=k) HK.out;have y0:w8.cell? ⟨tb,k*14,none⟩=some (.int .i64 u.no):=z1 0 (by omega)
 go_simp
 try go_wp2_with fail
 refine hK.out _ _ ?_
 clear hK K
 try simp only [qaa]
 have AN:Hid (AskR w lo ⟨⟨some ⟨tb,0,none⟩,tn,tcap⟩,⟨la,ln,lcap⟩,⟨ga,gn,gcap⟩,⟨some ⟨fb,0,none⟩,fn,fcap⟩,⟨ra,rn,rcap⟩⟩ vs (putC w8 tb (k*14) (tc NT).toList) w.heap.size (w.heap.size+2) ⟨⟨some ⟨tb,0,none⟩,tn,tcap⟩,⟨la,ln,lcap⟩,⟨ga,gn,gcap⟩,⟨some ⟨fb,0,none⟩,fn,fcap⟩,⟨ra,rn,rcap⟩⟩ vs { (s:Sy) with tasks:=s.tasks.set k NT }):=A8.task (tb:=tb) rfl Hk.out NT
 clear z1 z2 y0 A8 K8 hb0 hc0 ht0 F1 F2 hHeld
 change Exit.then _ _ _ _ (putC w8 tb (k*14) (tc NT).toList)
 generalize putC w8 tb (k*14) (tc NT).toList=X9 at *
 have AE:=AN.out
 obtain ⟨_,o1,o2⟩:=AE.g.var.box
 dsimp only [syc] at o1
 obtain ⟨_,r1,r2⟩:=AE.r
 go_wp2
 exact AE.ret HN.out (fun _=>HC.out) rfl (fun Q D=>by simp [results,Tryz.results220,go_sem,D])
set_option linter.unusedSimpArgs false in
set_option maxHeartbeats 8000000 in
theorem qj9 {w:World} {lo:Nat} {v:Sv} {vs:List Lv} {s:Sy} (h:OwnS w lo v vs s) (hl:lo <= w.heap.size) (R:SysR s) (cn cp ca cb:Int) (hth:qag s.tasks cn=true) :
  Calls Tryz.prog 183 #[.agg (syc s v),ck ⟨6,cn,cp,ca,cb⟩] w (Did w lo v vs (doN s ⟨6,cn,cp,ca,cb⟩) (doC s ⟨6,cn,cp,ca,cb⟩)):=by
 obtain ⟨⟨ta,tn,tcap⟩,⟨la,ln,lcap⟩,⟨ga,gn,gcap⟩,⟨fa,fn,fcap⟩,⟨ra,rn,rcap⟩⟩:=v
 obtain ⟨k,ek,ht,Hta⟩:=qdI hth
 have Hpa:Hid (qar s.tasks cn=(k:Int)):=ek
 obtain ⟨t,ht⟩:=ht
 have Htt:tAt s.tasks cn=t:=Hta t ht
 have HNt:doN s ⟨6,cn,cp,ca,cb⟩=qde s ⟨6,cn,cp,ca,cb⟩ t:=by rw [qdJ (by rfl) (by rfl) hth,Htt]
 have HCt:doC s ⟨6,cn,cp,ca,cb⟩=qcR s ⟨6,cn,cp,ca,cb⟩ k t:=by rw [qdK (by rfl) (by rfl),ek,Htt,Int.toNat_natCast]
 have hk:k < s.tasks.length:=qas ht
 obtain ⟨tb,htb⟩:=h.tasksAt hk
 dsimp only at htb
 subst htb
 have HK:Hid (s.tasks[k]?=some t):=ht
 have Hk:Hid (k < s.tasks.length):=hk
 have hkn:(k:Int) < (tn:Int):=by have:=(h.t.row qaw).1;dsimp only at this;omega
 have T0:∀ w',Keeps w w'->∀ i,i < 14->w'.cell? ⟨tb,k*14+i,none⟩=(tc t)[i]?:=fun w' kk i hi=>(kk.cells tb _ (h.blkLt (i:=0) (b:=tb) rfl).2).trans ((h.taskCells (rb:=tb) rfl ht).1 i hi)
 clear ek Hta Htt hth
 obtain ⟨A0',C0',kZ⟩:=ask3 h hl ⟨6,cn,cp,ca,cb⟩
 have C0:Hid (Blk _ (w.heap.size+1) (cc ⟨6,cn,cp,ca,cb⟩)):=C0'
 have A0:Hid (AskR w lo _ vs _ w.heap.size (w.heap.size+2) _ vs s):=A0'
 have HS:Hid (SysOn _ _ s):=(h.on (by have:=R.small;omega)).keeps kZ
 clear A0' C0' h
 have TC:∀ w',Keeps _ w'->∀ i,i < 14->w'.cell? ⟨tb,k*14+i,none⟩=(tc t)[i]?:=fun w' kk=>T0 w' (kZ.trans kk)
 have TC0:∀ w',Keeps _ w'->w'.cell? ⟨tb,k*14,none⟩=some (.int .i64 t.no):=fun w' kk=>T0 w' (kZ.trans kk) 0 (by omega)
 clear T0
 go_enter Tryz.func183,Tryz.ntmps183
 go_wp2_with fail
 change Calls _ _ _ (qau w ⟨⟨some ⟨tb,0,none⟩,tn,tcap⟩,⟨la,ln,lcap⟩,⟨ga,gn,gcap⟩,⟨fa,fn,fcap⟩,⟨ra,rn,rcap⟩⟩ s ⟨6,cn,cp,ca,cb⟩) _
 generalize qau w ⟨⟨some ⟨tb,0,none⟩,tn,tcap⟩,⟨la,ln,lcap⟩,⟨ga,gn,gcap⟩,⟨fa,fn,fcap⟩,⟨ra,rn,rcap⟩⟩ s ⟨6,cn,cp,ca,cb⟩=Z at *
 have hb0:∀ w',Keeps Z w'->∀ q,w'.cell? ⟨w.heap.size,q,none⟩=(syc s ⟨⟨some ⟨tb,0,none⟩,tn,tcap⟩,⟨la,ln,lcap⟩,⟨ga,gn,gcap⟩,⟨fa,fn,fcap⟩,⟨ra,rn,rcap⟩⟩)[q]?:=fun w' k=>(A0.out.g.var.box.keeps k).cells
 dsimp only [syc] at hb0
 have hc0:∀ w',Keeps Z w'->∀ q,w'.cell? ⟨w.heap.size+1,q,none⟩=(cc ⟨6,cn,cp,ca,cb⟩)[q]?:=fun w' k=>(C0.out.keeps k).cells
 refine (HS.out.onT.sTaskAt cn Hpa.out (Keeps.refl _)).mono ?_
 rintro e w1 ⟨rfl,k1⟩
 go_upto_region 14 with fail
 have KY:Keeps Z (w1.alloc (.cells (tc t) 47)):=k1.alloc _
 have TB:Hid (Blk (w1.alloc (.cells (tc t) 47)) w1.heap.size (tc t)):=Blk.new _ _ _
 have AY:Hid (AskR w lo _ vs _ w.heap.size (w.heap.size+2) _ vs s):=A0.out.keeps KY
 have SY:Hid (SysOn _ _ s):=HS.out.keeps KY
 change Code.wp _ _ _ _ (w1.alloc (.cells (tc t) 47))
 generalize w1.alloc (.cells (tc t) 47)=Y at *
 generalize w1.heap.size=tbx at *
 have hbY:∀ w',Keeps Y w'->∀ q,w'.cell? ⟨w.heap.size,q,none⟩=_:=fun w' kk=>hb0 w' (KY.trans kk)
 have hcY:∀ w',Keeps Y w'->∀ q,w'.cell? ⟨w.heap.size+1,q,none⟩=_:=fun w' kk=>hc0 w' (KY.trans kk)
 have htY:∀ w',Keeps Y w'->∀ q,w'.cell? ⟨tbx,q,none⟩=(tc t)[q]?:=fun w' kk=>(TB.out.keeps kk).cells
 clear hb0 hc0 TC TC0 A0 HS k1
 have HN:Hid (doN s ⟨6,cn,cp,ca,cb⟩=qcP s t):=by show _=_;rw [HNt];rfl
 have HC:Hid (doC s ⟨6,cn,cp,ca,cb⟩=qdE s k t):=by show _=_;rw [HCt];rfl
 clear HNt HCt
 have AP:=AY.out
 go_wp2_with (go_at_call 217;refine (qj5 AY.out.g.var.own (Nat.le_trans hl (Nat.le_trans kZ.size KY.size)) R  HK.out).mono ?_;rintro e w6 ⟨s6,v6,vs6,rfl,hs6,g6⟩;obtain ⟨⟨ta6,tn6,tc6⟩,⟨la6,ln6,lc6⟩,⟨ga6,gn6,gc6⟩,⟨fa6,fn6,fc6⟩,⟨ra6,rn6,rc6⟩⟩:=v6;obtain ⟨P6,D6,G6⟩:=AP.pass g6;obtain ⟨_,r1,r2⟩:=P6)
 change bodyPost _ _ _ _ _ (putC w6 (w.heap.size+2) 0 (syc (s6:Sy) ⟨⟨ta6,tn6,tc6⟩,⟨la6,ln6,lc6⟩,⟨ga6,gn6,gc6⟩,⟨fa6,fn6,fc6⟩,⟨ra6,rn6,rc6⟩⟩).toList)
 generalize putC w6 (w.heap.size+2) 0 (syc (s6:Sy) ⟨⟨ta6,tn6,tc6⟩,⟨la6,ln6,lc6⟩,⟨ga6,gn6,gc6⟩,⟨fa6,fn6,fc6⟩,⟨ra6,rn6,rc6⟩⟩).toList=Q at D6 G6 ⊢
 exact bodyPost_ret (v := .tuple #[.agg (syc (s6:Sy) ⟨⟨ta6,tn6,tc6⟩,⟨la6,ln6,lc6⟩,⟨ga6,gn6,gc6⟩,⟨fa6,fn6,fc6⟩,⟨ra6,rn6,rc6⟩⟩),.int .i64 (qcP s t)]) (by simp [results,Tryz.results183,go_sem,D6.cells]) rfl (Did.of HN.out (fun e=>by rw [HC.out];exact hs6 e) G6)
set_option linter.unusedSimpArgs false in
set_option maxHeartbeats 8000000 in
theorem qka {w:World} {lo:Nat} {v:Sv} {vs:List Lv} {s:Sy} (h:OwnS w lo v vs s) (hl:lo <= w.heap.size) (R:SysR s) (cn cp ca cb:Int) (hth:qag s.tasks cn=true) :
  Calls Tryz.prog 183 #[.agg (syc s v),ck ⟨7,cn,cp,ca,cb⟩] w (Did w lo v vs (doN s ⟨7,cn,cp,ca,cb⟩) (doC s ⟨7,cn,cp,ca,cb⟩)):=by
 obtain ⟨⟨ta,tn,tcap⟩,⟨la,ln,lcap⟩,⟨ga,gn,gcap⟩,⟨fa,fn,fcap⟩,⟨ra,rn,rcap⟩⟩:=v
 obtain ⟨k,ek,ht,Hta⟩:=qdI hth
 have Hpa:Hid (qar s.tasks cn=(k:Int)):=ek
 obtain ⟨t,ht⟩:=ht
 have Htt:tAt s.tasks cn=t:=Hta t ht
 have HNt:doN s ⟨7,cn,cp,ca,cb⟩=qde s ⟨7,cn,cp,ca,cb⟩ t:=by rw [qdJ (by rfl) (by rfl) hth,Htt]
 have HCt:doC s ⟨7,cn,cp,ca,cb⟩=qcR s ⟨7,cn,cp,ca,cb⟩ k t:=by rw [qdK (by rfl) (by rfl),ek,Htt,Int.toNat_natCast]
 have hk:k < s.tasks.length:=qas ht
 obtain ⟨tb,htb⟩:=h.tasksAt hk
 dsimp only at htb
 subst htb
 have HK:Hid (s.tasks[k]?=some t):=ht
 have Hk:Hid (k < s.tasks.length):=hk
 have hkn:(k:Int) < (tn:Int):=by have:=(h.t.row qaw).1;dsimp only at this;omega
 have T0:∀ w',Keeps w w'->∀ i,i < 14->w'.cell? ⟨tb,k*14+i,none⟩=(tc t)[i]?:=fun w' kk i hi=>(kk.cells tb _ (h.blkLt (i:=0) (b:=tb) rfl).2).trans ((h.taskCells (rb:=tb) rfl ht).1 i hi)
 clear ek Hta Htt hth
 obtain ⟨A0',C0',kZ⟩:=ask3 h hl ⟨7,cn,cp,ca,cb⟩
 have C0:Hid (Blk _ (w.heap.size+1) (cc ⟨7,cn,cp,ca,cb⟩)):=C0'
 have A0:Hid (AskR w lo _ vs _ w.heap.size (w.heap.size+2) _ vs s):=A0'
 have HS:Hid (SysOn _ _ s):=(h.on (by have:=R.small;omega)).keeps kZ
 clear A0' C0' h
 have TC:∀ w',Keeps _ w'->∀ i,i < 14->w'.cell? ⟨tb,k*14+i,none⟩=(tc t)[i]?:=fun w' kk=>T0 w' (kZ.trans kk)
 have TC0:∀ w',Keeps _ w'->w'.cell? ⟨tb,k*14,none⟩=some (.int .i64 t.no):=fun w' kk=>T0 w' (kZ.trans kk) 0 (by omega)
 clear T0
 go_enter Tryz.func183,Tryz.ntmps183
 go_wp2_with fail
 change Calls _ _ _ (qau w ⟨⟨some ⟨tb,0,none⟩,tn,tcap⟩,⟨la,ln,lcap⟩,⟨ga,gn,gcap⟩,⟨fa,fn,fcap⟩,⟨ra,rn,rcap⟩⟩ s ⟨7,cn,cp,ca,cb⟩) _
 generalize qau w ⟨⟨some ⟨tb,0,none⟩,tn,tcap⟩,⟨la,ln,lcap⟩,⟨ga,gn,gcap⟩,⟨fa,fn,fcap⟩,⟨ra,rn,rcap⟩⟩ s ⟨7,cn,cp,ca,cb⟩=Z at *
 have hb0:∀ w',Keeps Z w'->∀ q,w'.cell? ⟨w.heap.size,q,none⟩=(syc s ⟨⟨some ⟨tb,0,none⟩,tn,tcap⟩,⟨la,ln,lcap⟩,⟨ga,gn,gcap⟩,⟨fa,fn,fcap⟩,⟨ra,rn,rcap⟩⟩)[q]?:=fun w' k=>(A0.out.g.var.box.keeps k).cells
 dsimp only [syc] at hb0
 have hc0:∀ w',Keeps Z w'->∀ q,w'.cell? ⟨w.heap.size+1,q,none⟩=(cc ⟨7,cn,cp,ca,cb⟩)[q]?:=fun w' k=>(C0.out.keeps k).cells
 refine (HS.out.onT.sTaskAt cn Hpa.out (Keeps.refl _)).mono ?_
 rintro e w1 ⟨rfl,k1⟩
 go_upto_region 14 with fail
 have KY:Keeps Z (w1.alloc (.cells (tc t) 47)):=k1.alloc _
 have TB:Hid (Blk (w1.alloc (.cells (tc t) 47)) w1.heap.size (tc t)):=Blk.new _ _ _
 have AY:Hid (AskR w lo _ vs _ w.heap.size (w.heap.size+2) _ vs s):=A0.out.keeps KY
 have SY:Hid (SysOn _ _ s):=HS.out.keeps KY
 change Code.wp _ _ _ _ (w1.alloc (.cells (tc t) 47))
 generalize w1.alloc (.cells (tc t) 47)=Y at *
 generalize w1.heap.size=tbx at *
 have hbY:∀ w',Keeps Y w'->∀ q,w'.cell? ⟨w.heap.size,q,none⟩=_:=fun w' kk=>hb0 w' (KY.trans kk)
 have hcY:∀ w',Keeps Y w'->∀ q,w'.cell? ⟨w.heap.size+1,q,none⟩=_:=fun w' kk=>hc0 w' (KY.trans kk)
 have htY:∀ w',Keeps Y w'->∀ q,w'.cell? ⟨tbx,q,none⟩=(tc t)[q]?:=fun w' kk=>(TB.out.keeps kk).cells
 clear hb0 hc0 TC TC0 A0 HS k1
 have HN:Hid (doN s ⟨7,cn,cp,ca,cb⟩=qcF s ⟨7,cn,cp,ca,cb⟩ t):=by show _=_;rw [HNt];rfl
 have HC:Hid (doC s ⟨7,cn,cp,ca,cb⟩=qgj s ⟨7,cn,cp,ca,cb⟩):=by show _=_;rw [HCt];rfl
 clear HNt HCt
 have AP:=AY.out
 go_wp2_with (go_at_call 218;refine (qj6 AY.out.g.var.own (Nat.le_trans hl (Nat.le_trans kZ.size KY.size)) R ⟨7,cn,cp,ca,cb⟩ HK.out).mono ?_;rintro e w6 ⟨s6,v6,vs6,rfl,hs6,g6⟩;obtain ⟨⟨ta6,tn6,tc6⟩,⟨la6,ln6,lc6⟩,⟨ga6,gn6,gc6⟩,⟨fa6,fn6,fc6⟩,⟨ra6,rn6,rc6⟩⟩:=v6;obtain ⟨P6,D6,G6⟩:=AP.pass g6;obtain ⟨_,r1,r2⟩:=P6)
 change bodyPost _ _ _ _ _ (putC w6 (w.heap.size+2) 0 (syc (s6:Sy) ⟨⟨ta6,tn6,tc6⟩,⟨la6,ln6,lc6⟩,⟨ga6,gn6,gc6⟩,⟨fa6,fn6,fc6⟩,⟨ra6,rn6,rc6⟩⟩).toList)
 generalize putC w6 (w.heap.size+2) 0 (syc (s6:Sy) ⟨⟨ta6,tn6,tc6⟩,⟨la6,ln6,lc6⟩,⟨ga6,gn6,gc6⟩,⟨fa6,fn6,fc6⟩,⟨ra6,rn6,rc6⟩⟩).toList=Q at D6 G6 ⊢
 exact bodyPost_ret (v := .tuple #[.agg (syc (s6:Sy) ⟨⟨ta6,tn6,tc6⟩,⟨la6,ln6,lc6⟩,⟨ga6,gn6,gc6⟩,⟨fa6,fn6,fc6⟩,⟨ra6,rn6,rc6⟩⟩),.int .i64 (qcF s ⟨7,cn,cp,ca,cb⟩ t)]) (by simp [results,Tryz.results183,go_sem,D6.cells]) rfl (Did.of HN.out (fun e=>by rw [HC.out];exact hs6 e) G6)
set_option linter.unusedSimpArgs false in
set_option maxHeartbeats 8000000 in
theorem qkb {w:World} {lo:Nat} {v:Sv} {vs:List Lv} {s:Sy} (h:OwnS w lo v vs s) (hl:lo <= w.heap.size) (R:SysR s) (cn cp ca cb:Int) (hth:qag s.tasks cn=true) :
  Calls Tryz.prog 183 #[.agg (syc s v),ck ⟨8,cn,cp,ca,cb⟩] w (Did w lo v vs (doN s ⟨8,cn,cp,ca,cb⟩) (doC s ⟨8,cn,cp,ca,cb⟩)):=by
 obtain ⟨⟨ta,tn,tcap⟩,⟨la,ln,lcap⟩,⟨ga,gn,gcap⟩,⟨fa,fn,fcap⟩,⟨ra,rn,rcap⟩⟩:=v
 obtain ⟨k,ek,ht,Hta⟩:=qdI hth
 have Hpa:Hid (qar s.tasks cn=(k:Int)):=ek
 obtain ⟨t,ht⟩:=ht
 have Htt:tAt s.tasks cn=t:=Hta t ht
 have HNt:doN s ⟨8,cn,cp,ca,cb⟩=qde s ⟨8,cn,cp,ca,cb⟩ t:=by rw [qdJ (by rfl) (by rfl) hth,Htt]
 have HCt:doC s ⟨8,cn,cp,ca,cb⟩=qcR s ⟨8,cn,cp,ca,cb⟩ k t:=by rw [qdK (by rfl) (by rfl),ek,Htt,Int.toNat_natCast]
 have hk:k < s.tasks.length:=qas ht
 obtain ⟨tb,htb⟩:=h.tasksAt hk
 dsimp only at htb
 subst htb
 have HK:Hid (s.tasks[k]?=some t):=ht
 have Hk:Hid (k < s.tasks.length):=hk
 have hkn:(k:Int) < (tn:Int):=by have:=(h.t.row qaw).1;dsimp only at this;omega
 have T0:∀ w',Keeps w w'->∀ i,i < 14->w'.cell? ⟨tb,k*14+i,none⟩=(tc t)[i]?:=fun w' kk i hi=>(kk.cells tb _ (h.blkLt (i:=0) (b:=tb) rfl).2).trans ((h.taskCells (rb:=tb) rfl ht).1 i hi)
 clear ek Hta Htt hth
 obtain ⟨A0',C0',kZ⟩:=ask3 h hl ⟨8,cn,cp,ca,cb⟩
 have C0:Hid (Blk _ (w.heap.size+1) (cc ⟨8,cn,cp,ca,cb⟩)):=C0'
 have A0:Hid (AskR w lo _ vs _ w.heap.size (w.heap.size+2) _ vs s):=A0'
 have HS:Hid (SysOn _ _ s):=(h.on (by have:=R.small;omega)).keeps kZ
 clear A0' C0' h
 have TC:∀ w',Keeps _ w'->∀ i,i < 14->w'.cell? ⟨tb,k*14+i,none⟩=(tc t)[i]?:=fun w' kk=>T0 w' (kZ.trans kk)
 have TC0:∀ w',Keeps _ w'->w'.cell? ⟨tb,k*14,none⟩=some (.int .i64 t.no):=fun w' kk=>T0 w' (kZ.trans kk) 0 (by omega)
 clear T0
 go_enter Tryz.func183,Tryz.ntmps183
 go_wp2_with fail
 change Calls _ _ _ (qau w ⟨⟨some ⟨tb,0,none⟩,tn,tcap⟩,⟨la,ln,lcap⟩,⟨ga,gn,gcap⟩,⟨fa,fn,fcap⟩,⟨ra,rn,rcap⟩⟩ s ⟨8,cn,cp,ca,cb⟩) _
 generalize qau w ⟨⟨some ⟨tb,0,none⟩,tn,tcap⟩,⟨la,ln,lcap⟩,⟨ga,gn,gcap⟩,⟨fa,fn,fcap⟩,⟨ra,rn,rcap⟩⟩ s ⟨8,cn,cp,ca,cb⟩=Z at *
 have hb0:∀ w',Keeps Z w'->∀ q,w'.cell? ⟨w.heap.size,q,none⟩=(syc s ⟨⟨some ⟨tb,0,none⟩,tn,tcap⟩,⟨la,ln,lcap⟩,⟨ga,gn,gcap⟩,⟨fa,fn,fcap⟩,⟨ra,rn,rcap⟩⟩)[q]?:=fun w' k=>(A0.out.g.var.box.keeps k).cells
 dsimp only [syc] at hb0
 have hc0:∀ w',Keeps Z w'->∀ q,w'.cell? ⟨w.heap.size+1,q,none⟩=(cc ⟨8,cn,cp,ca,cb⟩)[q]?:=fun w' k=>(C0.out.keeps k).cells
 refine (HS.out.onT.sTaskAt cn Hpa.out (Keeps.refl _)).mono ?_
 rintro e w1 ⟨rfl,k1⟩
 go_upto_region 14 with fail
 have KY:Keeps Z (w1.alloc (.cells (tc t) 47)):=k1.alloc _
 have TB:Hid (Blk (w1.alloc (.cells (tc t) 47)) w1.heap.size (tc t)):=Blk.new _ _ _
 have AY:Hid (AskR w lo _ vs _ w.heap.size (w.heap.size+2) _ vs s):=A0.out.keeps KY
 have SY:Hid (SysOn _ _ s):=HS.out.keeps KY
 change Code.wp _ _ _ _ (w1.alloc (.cells (tc t) 47))
 generalize w1.alloc (.cells (tc t) 47)=Y at *
 generalize w1.heap.size=tbx at *
 have hbY:∀ w',Keeps Y w'->∀ q,w'.cell? ⟨w.heap.size,q,none⟩=_:=fun w' kk=>hb0 w' (KY.trans kk)
 have hcY:∀ w',Keeps Y w'->∀ q,w'.cell? ⟨w.heap.size+1,q,none⟩=_:=fun w' kk=>hc0 w' (KY.trans kk)
 have htY:∀ w',Keeps Y w'->∀ q,w'.cell? ⟨tbx,q,none⟩=(tc t)[q]?:=fun w' kk=>(TB.out.keeps kk).cells
 clear hb0 hc0 TC TC0 A0 HS k1
 have HN:Hid (doN s ⟨8,cn,cp,ca,cb⟩=qcQ s ⟨8,cn,cp,ca,cb⟩ t):=by show _=_;rw [HNt];rfl
 have HC:Hid (doC s ⟨8,cn,cp,ca,cb⟩=qeP s ⟨8,cn,cp,ca,cb⟩):=by show _=_;rw [HCt];rfl
 clear HNt HCt
 have AP:=AY.out
 go_wp2_with (go_at_call 219;refine (qj7 AY.out.g.var.own (Nat.le_trans hl (Nat.le_trans kZ.size KY.size)) R ⟨8,cn,cp,ca,cb⟩ HK.out).mono ?_;rintro e w6 ⟨s6,v6,vs6,rfl,hs6,g6⟩;obtain ⟨⟨ta6,tn6,tc6⟩,⟨la6,ln6,lc6⟩,⟨ga6,gn6,gc6⟩,⟨fa6,fn6,fc6⟩,⟨ra6,rn6,rc6⟩⟩:=v6;obtain ⟨P6,D6,G6⟩:=AP.pass g6;obtain ⟨_,r1,r2⟩:=P6)
 change bodyPost _ _ _ _ _ (putC w6 (w.heap.size+2) 0 (syc (s6:Sy) ⟨⟨ta6,tn6,tc6⟩,⟨la6,ln6,lc6⟩,⟨ga6,gn6,gc6⟩,⟨fa6,fn6,fc6⟩,⟨ra6,rn6,rc6⟩⟩).toList)
 generalize putC w6 (w.heap.size+2) 0 (syc (s6:Sy) ⟨⟨ta6,tn6,tc6⟩,⟨la6,ln6,lc6⟩,⟨ga6,gn6,gc6⟩,⟨fa6,fn6,fc6⟩,⟨ra6,rn6,rc6⟩⟩).toList=Q at D6 G6 ⊢
 exact bodyPost_ret (v := .tuple #[.agg (syc (s6:Sy) ⟨⟨ta6,tn6,tc6⟩,⟨la6,ln6,lc6⟩,⟨ga6,gn6,gc6⟩,⟨fa6,fn6,fc6⟩,⟨ra6,rn6,rc6⟩⟩),.int .i64 (qcQ s ⟨8,cn,cp,ca,cb⟩ t)]) (by simp [results,Tryz.results183,go_sem,D6.cells]) rfl (Did.of HN.out (fun e=>by rw [HC.out];exact hs6 e) G6)
set_option linter.unusedSimpArgs false in
set_option maxHeartbeats 8000000 in
theorem qkc {w:World} {lo:Nat} {v:Sv} {vs:List Lv} {s:Sy} (h:OwnS w lo v vs s) (hl:lo <= w.heap.size) (R:SysR s) (cn cp ca cb:Int) (hth:qag s.tasks cn=true) :
  Calls Tryz.prog 183 #[.agg (syc s v),ck ⟨10,cn,cp,ca,cb⟩] w (Did w lo v vs (doN s ⟨10,cn,cp,ca,cb⟩) (doC s ⟨10,cn,cp,ca,cb⟩)):=by
 obtain ⟨⟨ta,tn,tcap⟩,⟨la,ln,lcap⟩,⟨ga,gn,gcap⟩,⟨fa,fn,fcap⟩,⟨ra,rn,rcap⟩⟩:=v
 obtain ⟨k,ek,ht,Hta⟩:=qdI hth
 have Hpa:Hid (qar s.tasks cn=(k:Int)):=ek
 obtain ⟨t,ht⟩:=ht
 have Htt:tAt s.tasks cn=t:=Hta t ht
 have HNt:doN s ⟨10,cn,cp,ca,cb⟩=qde s ⟨10,cn,cp,ca,cb⟩ t:=by rw [qdJ (by rfl) (by rfl) hth,Htt]
 have HCt:doC s ⟨10,cn,cp,ca,cb⟩=qcR s ⟨10,cn,cp,ca,cb⟩ k t:=by rw [qdK (by rfl) (by rfl),ek,Htt,Int.toNat_natCast]
 have hk:k < s.tasks.length:=qas ht
 obtain ⟨tb,htb⟩:=h.tasksAt hk
 dsimp only at htb
 subst htb
 have HK:Hid (s.tasks[k]?=some t):=ht
 have Hk:Hid (k < s.tasks.length):=hk
 have hkn:(k:Int) < (tn:Int):=by have:=(h.t.row qaw).1;dsimp only at this;omega
 have T0:∀ w',Keeps w w'->∀ i,i < 14->w'.cell? ⟨tb,k*14+i,none⟩=(tc t)[i]?:=fun w' kk i hi=>(kk.cells tb _ (h.blkLt (i:=0) (b:=tb) rfl).2).trans ((h.taskCells (rb:=tb) rfl ht).1 i hi)
 clear ek Hta Htt hth
 obtain ⟨A0',C0',kZ⟩:=ask3 h hl ⟨10,cn,cp,ca,cb⟩
 have C0:Hid (Blk _ (w.heap.size+1) (cc ⟨10,cn,cp,ca,cb⟩)):=C0'
 have A0:Hid (AskR w lo _ vs _ w.heap.size (w.heap.size+2) _ vs s):=A0'
 have HS:Hid (SysOn _ _ s):=(h.on (by have:=R.small;omega)).keeps kZ
 clear A0' C0' h
 have TC:∀ w',Keeps _ w'->∀ i,i < 14->w'.cell? ⟨tb,k*14+i,none⟩=(tc t)[i]?:=fun w' kk=>T0 w' (kZ.trans kk)
 have TC0:∀ w',Keeps _ w'->w'.cell? ⟨tb,k*14,none⟩=some (.int .i64 t.no):=fun w' kk=>T0 w' (kZ.trans kk) 0 (by omega)
 clear T0
 go_enter Tryz.func183,Tryz.ntmps183
 go_wp2_with fail
 change Calls _ _ _ (qau w ⟨⟨some ⟨tb,0,none⟩,tn,tcap⟩,⟨la,ln,lcap⟩,⟨ga,gn,gcap⟩,⟨fa,fn,fcap⟩,⟨ra,rn,rcap⟩⟩ s ⟨10,cn,cp,ca,cb⟩) _
 generalize qau w ⟨⟨some ⟨tb,0,none⟩,tn,tcap⟩,⟨la,ln,lcap⟩,⟨ga,gn,gcap⟩,⟨fa,fn,fcap⟩,⟨ra,rn,rcap⟩⟩ s ⟨10,cn,cp,ca,cb⟩=Z at *
 have hb0:∀ w',Keeps Z w'->∀ q,w'.cell? ⟨w.heap.size,q,none⟩=(syc s ⟨⟨some ⟨tb,0,none⟩,tn,tcap⟩,⟨la,ln,lcap⟩,⟨ga,gn,gcap⟩,⟨fa,fn,fcap⟩,⟨ra,rn,rcap⟩⟩)[q]?:=fun w' k=>(A0.out.g.var.box.keeps k).cells
 dsimp only [syc] at hb0
 have hc0:∀ w',Keeps Z w'->∀ q,w'.cell? ⟨w.heap.size+1,q,none⟩=(cc ⟨10,cn,cp,ca,cb⟩)[q]?:=fun w' k=>(C0.out.keeps k).cells
 refine (HS.out.onT.sTaskAt cn Hpa.out (Keeps.refl _)).mono ?_
 rintro e w1 ⟨rfl,k1⟩
 go_upto_region 14 with fail
 have KY:Keeps Z (w1.alloc (.cells (tc t) 47)):=k1.alloc _
 have TB:Hid (Blk (w1.alloc (.cells (tc t) 47)) w1.heap.size (tc t)):=Blk.new _ _ _
 have AY:Hid (AskR w lo _ vs _ w.heap.size (w.heap.size+2) _ vs s):=A0.out.keeps KY
 have SY:Hid (SysOn _ _ s):=HS.out.keeps KY
 change Code.wp _ _ _ _ (w1.alloc (.cells (tc t) 47))
 generalize w1.alloc (.cells (tc t) 47)=Y at *
 generalize w1.heap.size=tbx at *
 have hbY:∀ w',Keeps Y w'->∀ q,w'.cell? ⟨w.heap.size,q,none⟩=_:=fun w' kk=>hb0 w' (KY.trans kk)
 have hcY:∀ w',Keeps Y w'->∀ q,w'.cell? ⟨w.heap.size+1,q,none⟩=_:=fun w' kk=>hc0 w' (KY.trans kk)
 have htY:∀ w',Keeps Y w'->∀ q,w'.cell? ⟨tbx,q,none⟩=(tc t)[q]?:=fun w' kk=>(TB.out.keeps kk).cells
 clear hb0 hc0 TC TC0 A0 HS k1
 have HN:Hid (doN s ⟨10,cn,cp,ca,cb⟩=qdd s ⟨10,cn,cp,ca,cb⟩ t):=by show _=_;rw [HNt];rfl
 have HC:Hid (doC s ⟨10,cn,cp,ca,cb⟩=qeQ s ⟨10,cn,cp,ca,cb⟩ k t):=by show _=_;rw [HCt];rfl
 clear HNt HCt
 have AP:=AY.out
 go_wp2_with (go_at_call 220;refine (qj8 AY.out.g.var.own (Nat.le_trans hl (Nat.le_trans kZ.size KY.size)) R ⟨10,cn,cp,ca,cb⟩ HK.out).mono ?_;rintro e w6 ⟨s6,v6,vs6,rfl,hs6,g6⟩;obtain ⟨⟨ta6,tn6,tc6⟩,⟨la6,ln6,lc6⟩,⟨ga6,gn6,gc6⟩,⟨fa6,fn6,fc6⟩,⟨ra6,rn6,rc6⟩⟩:=v6;obtain ⟨P6,D6,G6⟩:=AP.pass g6;obtain ⟨_,r1,r2⟩:=P6)
 change bodyPost _ _ _ _ _ (putC w6 (w.heap.size+2) 0 (syc (s6:Sy) ⟨⟨ta6,tn6,tc6⟩,⟨la6,ln6,lc6⟩,⟨ga6,gn6,gc6⟩,⟨fa6,fn6,fc6⟩,⟨ra6,rn6,rc6⟩⟩).toList)
 generalize putC w6 (w.heap.size+2) 0 (syc (s6:Sy) ⟨⟨ta6,tn6,tc6⟩,⟨la6,ln6,lc6⟩,⟨ga6,gn6,gc6⟩,⟨fa6,fn6,fc6⟩,⟨ra6,rn6,rc6⟩⟩).toList=Q at D6 G6 ⊢
 exact bodyPost_ret (v := .tuple #[.agg (syc (s6:Sy) ⟨⟨ta6,tn6,tc6⟩,⟨la6,ln6,lc6⟩,⟨ga6,gn6,gc6⟩,⟨fa6,fn6,fc6⟩,⟨ra6,rn6,rc6⟩⟩),.int .i64 (qdd s ⟨10,cn,cp,ca,cb⟩ t)]) (by simp [results,Tryz.results183,go_sem,D6.cells]) rfl (Did.of HN.out (fun e=>by rw [HC.out];exact hs6 e) G6)
end Go.Proofs.YthpdlbcdbncnhaaGreatDoor
