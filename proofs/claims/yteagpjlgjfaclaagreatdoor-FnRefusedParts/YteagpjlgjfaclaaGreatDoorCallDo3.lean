/-
  Calls: what is done of a right call: an end, locks, a move.
-/
import Derived.Test.YteagpjlgjfaclaaGreatDoorDraw1
import Derived.Test.YteagpjlgjfaclaaGreatDoorCallExit
import Derived.Test.YteagpjlgjfaclaaGreatDoorCallLock
import Derived.Test.YteagpjlgjfaclaaGreatDoorCallMove
import Derived.Deep.Cut
namespace Go.Proofs.YteagpjlgjfaclaaGreatDoor
set_option maxRecDepth 100000
open Go.RowKit
attribute [local go_sem] Keeps.refl Keeps.alloc Keeps.drew Keeps.drewN
set_option linter.unusedSimpArgs false in
set_option maxHeartbeats 8000000 in
theorem qh4 {w:World} {lo:Nat} {v:Sv} {vs:List Lv} {s:Sy} (h:OwnS w lo v vs s) (hl:lo <= w.heap.size) (R:SysR s) (cn cp ca cb:Int) (hth:qak s.tasks cn=true) :
  Calls Tryz.prog 39 #[.agg (syc s v),ck ⟨6,cn,cp,ca,cb⟩] w (Did w lo v vs (doN s ⟨6,cn,cp,ca,cb⟩) (doC s ⟨6,cn,cp,ca,cb⟩)):=by
 obtain ⟨⟨ta,tn,tcap⟩,⟨la,ln,lcap⟩,⟨ga,gn,gcap⟩,⟨fa,fn,fcap⟩,⟨ra,rn,rcap⟩⟩:=v
 obtain ⟨k,ek,ht,Hta⟩:=qdl hth
 have Hpa:Hid (qau s.tasks cn=(k:Int)):=ek
 obtain ⟨t,ht⟩:=ht
 have Htt:tAt s.tasks cn=t:=Hta t ht
 have HNt:doN s ⟨6,cn,cp,ca,cb⟩=qcR s ⟨6,cn,cp,ca,cb⟩ t:=by rw [qdm (by rfl) (by rfl) hth,Htt]
 have HCt:doC s ⟨6,cn,cp,ca,cb⟩=qcz s ⟨6,cn,cp,ca,cb⟩ k t:=by rw [qdn (by rfl) (by rfl),ek,Htt,Int.toNat_natCast]
 have hk:k < s.tasks.length:=qaw ht
 obtain ⟨tb,htb⟩:=h.tasksAt hk
 dsimp only at htb
 subst htb
 have HK:Hid (s.tasks[k]?=some t):=ht
 have Hk:Hid (k < s.tasks.length):=hk
 have hkn:(k:Int) < (tn:Int):=by have:=(h.t.row qao).1;dsimp only at this;omega
 have T0:∀ w',Keeps w w'->∀ i,i < 14->w'.cell? ⟨tb,k*14+i,none⟩=(tc t)[i]?:=fun w' kk i hi=>(kk.cells tb _ (h.blkLt (i:=0) (b:=tb) rfl).2).trans ((h.taskCells (rb:=tb) rfl ht).1 i hi)
 clear ek Hta Htt hth
 obtain ⟨A0',C0',kZ⟩:=ask3 h hl ⟨6,cn,cp,ca,cb⟩
 have C0:Hid (Blk _ (w.heap.size+1) (cc ⟨6,cn,cp,ca,cb⟩)):=C0'
 have A0:Hid (AskR w lo _ vs _ w.heap.size (w.heap.size+2) _ vs s):=A0'
 have HS:Hid (SysOn _ _ s):=(h.on (by have:=R.small;omega)).keeps kZ
 clear A0' C0' h
 have TC:∀ w',Keeps _ w'->∀ i,i < 14->w'.cell? ⟨tb,k*14+i,none⟩=(tc t)[i]?:=fun w' kk=>T0 w' (kZ.trans kk)
 have TC0:∀ w',Keeps _ w'->w'.cell? ⟨tb,k*14,none⟩=some (.int .i64 t.no):=fun w' kk=>T0 w' (kZ.trans kk) 0 (by omega)
 clear T0
 go_enter Tryz.func39,Tryz.ntmps39
 go_wp2_with fail
 change Calls _ _ _ (qat w ⟨⟨some ⟨tb,0,none⟩,tn,tcap⟩,⟨la,ln,lcap⟩,⟨ga,gn,gcap⟩,⟨fa,fn,fcap⟩,⟨ra,rn,rcap⟩⟩ s ⟨6,cn,cp,ca,cb⟩) _
 generalize qat w ⟨⟨some ⟨tb,0,none⟩,tn,tcap⟩,⟨la,ln,lcap⟩,⟨ga,gn,gcap⟩,⟨fa,fn,fcap⟩,⟨ra,rn,rcap⟩⟩ s ⟨6,cn,cp,ca,cb⟩=Z at *
 have hb0:∀ w',Keeps Z w'->∀ q,w'.cell? ⟨w.heap.size,q,none⟩=(syc s ⟨⟨some ⟨tb,0,none⟩,tn,tcap⟩,⟨la,ln,lcap⟩,⟨ga,gn,gcap⟩,⟨fa,fn,fcap⟩,⟨ra,rn,rcap⟩⟩)[q]?:=fun w' k=>(A0.out.g.var.box.keeps k).cells
 dsimp only [syc] at hb0
 have hc0:∀ w',Keeps Z w'->∀ q,w'.cell? ⟨w.heap.size+1,q,none⟩=(cc ⟨6,cn,cp,ca,cb⟩)[q]?:=fun w' k=>(C0.out.keeps k).cells
 refine (HS.out.onT.sTaskAt cn Hpa.out (Keeps.refl _)).mono ?_
 rintro e w1 ⟨rfl,k1⟩
 go_upto_region 14 with fail
 have KY:Keeps Z (w1.alloc (.cells (tc t) 43)):=k1.alloc _
 have TB:Hid (Blk (w1.alloc (.cells (tc t) 43)) w1.heap.size (tc t)):=Blk.new _ _ _
 have AY:Hid (AskR w lo _ vs _ w.heap.size (w.heap.size+2) _ vs s):=A0.out.keeps KY
 have SY:Hid (SysOn _ _ s):=HS.out.keeps KY
 change Code.wp _ _ _ _ (w1.alloc (.cells (tc t) 43))
 generalize w1.alloc (.cells (tc t) 43)=Y at *
 generalize w1.heap.size=tbx at *
 have hbY:∀ w',Keeps Y w'->∀ q,w'.cell? ⟨w.heap.size,q,none⟩=_:=fun w' kk=>hb0 w' (KY.trans kk)
 have hcY:∀ w',Keeps Y w'->∀ q,w'.cell? ⟨w.heap.size+1,q,none⟩=_:=fun w' kk=>hc0 w' (KY.trans kk)
 have htY:∀ w',Keeps Y w'->∀ q,w'.cell? ⟨tbx,q,none⟩=(tc t)[q]?:=fun w' kk=>(TB.out.keeps kk).cells
 clear hb0 hc0 TC TC0 A0 HS k1
 have HN:Hid (doN s ⟨6,cn,cp,ca,cb⟩=qcx s t):=by show _=_;rw [HNt];rfl
 have HC:Hid (doC s ⟨6,cn,cp,ca,cb⟩=qdi s k t):=by show _=_;rw [HCt];rfl
 clear HNt HCt
 have AP:=AY.out
 go_wp2_with (go_at_call 85;refine (qii AY.out.g.var.own (Nat.le_trans hl (Nat.le_trans kZ.size KY.size)) R  HK.out).mono ?_;rintro e w6 ⟨s6,v6,vs6,rfl,hs6,g6⟩;obtain ⟨⟨ta6,tn6,tc6⟩,⟨la6,ln6,lc6⟩,⟨ga6,gn6,gc6⟩,⟨fa6,fn6,fc6⟩,⟨ra6,rn6,rc6⟩⟩:=v6;obtain ⟨P6,D6,G6⟩:=AP.pass g6;obtain ⟨_,r1,r2⟩:=P6)
 change bodyPost _ _ _ _ _ (putC w6 (w.heap.size+2) 0 (syc (s6:Sy) ⟨⟨ta6,tn6,tc6⟩,⟨la6,ln6,lc6⟩,⟨ga6,gn6,gc6⟩,⟨fa6,fn6,fc6⟩,⟨ra6,rn6,rc6⟩⟩).toList)
 generalize putC w6 (w.heap.size+2) 0 (syc (s6:Sy) ⟨⟨ta6,tn6,tc6⟩,⟨la6,ln6,lc6⟩,⟨ga6,gn6,gc6⟩,⟨fa6,fn6,fc6⟩,⟨ra6,rn6,rc6⟩⟩).toList=Q at D6 G6 ⊢
 exact bodyPost_ret (v := .tuple #[.agg (syc (s6:Sy) ⟨⟨ta6,tn6,tc6⟩,⟨la6,ln6,lc6⟩,⟨ga6,gn6,gc6⟩,⟨fa6,fn6,fc6⟩,⟨ra6,rn6,rc6⟩⟩),.int .i64 (qcx s t)]) (by simp [results,Tryz.results39,go_sem,D6.cells]) rfl (Did.of HN.out (fun e=>by rw [HC.out];exact hs6 e) G6)
set_option linter.unusedSimpArgs false in
set_option maxHeartbeats 8000000 in
theorem qh5 {w:World} {lo:Nat} {v:Sv} {vs:List Lv} {s:Sy} (h:OwnS w lo v vs s) (hl:lo <= w.heap.size) (R:SysR s) (cn cp ca cb:Int) (hth:qak s.tasks cn=true) :
  Calls Tryz.prog 39 #[.agg (syc s v),ck ⟨7,cn,cp,ca,cb⟩] w (Did w lo v vs (doN s ⟨7,cn,cp,ca,cb⟩) (doC s ⟨7,cn,cp,ca,cb⟩)):=by
 obtain ⟨⟨ta,tn,tcap⟩,⟨la,ln,lcap⟩,⟨ga,gn,gcap⟩,⟨fa,fn,fcap⟩,⟨ra,rn,rcap⟩⟩:=v
 obtain ⟨k,ek,ht,Hta⟩:=qdl hth
 have Hpa:Hid (qau s.tasks cn=(k:Int)):=ek
 obtain ⟨t,ht⟩:=ht
 have Htt:tAt s.tasks cn=t:=Hta t ht
 have HNt:doN s ⟨7,cn,cp,ca,cb⟩=qcR s ⟨7,cn,cp,ca,cb⟩ t:=by rw [qdm (by rfl) (by rfl) hth,Htt]
 have HCt:doC s ⟨7,cn,cp,ca,cb⟩=qcz s ⟨7,cn,cp,ca,cb⟩ k t:=by rw [qdn (by rfl) (by rfl),ek,Htt,Int.toNat_natCast]
 have hk:k < s.tasks.length:=qaw ht
 obtain ⟨tb,htb⟩:=h.tasksAt hk
 dsimp only at htb
 subst htb
 have HK:Hid (s.tasks[k]?=some t):=ht
 have Hk:Hid (k < s.tasks.length):=hk
 have hkn:(k:Int) < (tn:Int):=by have:=(h.t.row qao).1;dsimp only at this;omega
 have T0:∀ w',Keeps w w'->∀ i,i < 14->w'.cell? ⟨tb,k*14+i,none⟩=(tc t)[i]?:=fun w' kk i hi=>(kk.cells tb _ (h.blkLt (i:=0) (b:=tb) rfl).2).trans ((h.taskCells (rb:=tb) rfl ht).1 i hi)
 clear ek Hta Htt hth
 obtain ⟨A0',C0',kZ⟩:=ask3 h hl ⟨7,cn,cp,ca,cb⟩
 have C0:Hid (Blk _ (w.heap.size+1) (cc ⟨7,cn,cp,ca,cb⟩)):=C0'
 have A0:Hid (AskR w lo _ vs _ w.heap.size (w.heap.size+2) _ vs s):=A0'
 have HS:Hid (SysOn _ _ s):=(h.on (by have:=R.small;omega)).keeps kZ
 clear A0' C0' h
 have TC:∀ w',Keeps _ w'->∀ i,i < 14->w'.cell? ⟨tb,k*14+i,none⟩=(tc t)[i]?:=fun w' kk=>T0 w' (kZ.trans kk)
 have TC0:∀ w',Keeps _ w'->w'.cell? ⟨tb,k*14,none⟩=some (.int .i64 t.no):=fun w' kk=>T0 w' (kZ.trans kk) 0 (by omega)
 clear T0
 go_enter Tryz.func39,Tryz.ntmps39
 go_wp2_with fail
 change Calls _ _ _ (qat w ⟨⟨some ⟨tb,0,none⟩,tn,tcap⟩,⟨la,ln,lcap⟩,⟨ga,gn,gcap⟩,⟨fa,fn,fcap⟩,⟨ra,rn,rcap⟩⟩ s ⟨7,cn,cp,ca,cb⟩) _
 generalize qat w ⟨⟨some ⟨tb,0,none⟩,tn,tcap⟩,⟨la,ln,lcap⟩,⟨ga,gn,gcap⟩,⟨fa,fn,fcap⟩,⟨ra,rn,rcap⟩⟩ s ⟨7,cn,cp,ca,cb⟩=Z at *
 have hb0:∀ w',Keeps Z w'->∀ q,w'.cell? ⟨w.heap.size,q,none⟩=(syc s ⟨⟨some ⟨tb,0,none⟩,tn,tcap⟩,⟨la,ln,lcap⟩,⟨ga,gn,gcap⟩,⟨fa,fn,fcap⟩,⟨ra,rn,rcap⟩⟩)[q]?:=fun w' k=>(A0.out.g.var.box.keeps k).cells
 dsimp only [syc] at hb0
 have hc0:∀ w',Keeps Z w'->∀ q,w'.cell? ⟨w.heap.size+1,q,none⟩=(cc ⟨7,cn,cp,ca,cb⟩)[q]?:=fun w' k=>(C0.out.keeps k).cells
 refine (HS.out.onT.sTaskAt cn Hpa.out (Keeps.refl _)).mono ?_
 rintro e w1 ⟨rfl,k1⟩
 go_upto_region 14 with fail
 have KY:Keeps Z (w1.alloc (.cells (tc t) 43)):=k1.alloc _
 have TB:Hid (Blk (w1.alloc (.cells (tc t) 43)) w1.heap.size (tc t)):=Blk.new _ _ _
 have AY:Hid (AskR w lo _ vs _ w.heap.size (w.heap.size+2) _ vs s):=A0.out.keeps KY
 have SY:Hid (SysOn _ _ s):=HS.out.keeps KY
 change Code.wp _ _ _ _ (w1.alloc (.cells (tc t) 43))
 generalize w1.alloc (.cells (tc t) 43)=Y at *
 generalize w1.heap.size=tbx at *
 have hbY:∀ w',Keeps Y w'->∀ q,w'.cell? ⟨w.heap.size,q,none⟩=_:=fun w' kk=>hb0 w' (KY.trans kk)
 have hcY:∀ w',Keeps Y w'->∀ q,w'.cell? ⟨w.heap.size+1,q,none⟩=_:=fun w' kk=>hc0 w' (KY.trans kk)
 have htY:∀ w',Keeps Y w'->∀ q,w'.cell? ⟨tbx,q,none⟩=(tc t)[q]?:=fun w' kk=>(TB.out.keeps kk).cells
 clear hb0 hc0 TC TC0 A0 HS k1
 have HN:Hid (doN s ⟨7,cn,cp,ca,cb⟩=qcn s ⟨7,cn,cp,ca,cb⟩ t):=by show _=_;rw [HNt];rfl
 have HC:Hid (doC s ⟨7,cn,cp,ca,cb⟩=qfE s ⟨7,cn,cp,ca,cb⟩):=by show _=_;rw [HCt];rfl
 clear HNt HCt
 have AP:=AY.out
 go_wp2_with (go_at_call 86;refine (qil AY.out.g.var.own (Nat.le_trans hl (Nat.le_trans kZ.size KY.size)) R ⟨7,cn,cp,ca,cb⟩ HK.out).mono ?_;rintro e w6 ⟨s6,v6,vs6,rfl,hs6,g6⟩;obtain ⟨⟨ta6,tn6,tc6⟩,⟨la6,ln6,lc6⟩,⟨ga6,gn6,gc6⟩,⟨fa6,fn6,fc6⟩,⟨ra6,rn6,rc6⟩⟩:=v6;obtain ⟨P6,D6,G6⟩:=AP.pass g6;obtain ⟨_,r1,r2⟩:=P6)
 change bodyPost _ _ _ _ _ (putC w6 (w.heap.size+2) 0 (syc (s6:Sy) ⟨⟨ta6,tn6,tc6⟩,⟨la6,ln6,lc6⟩,⟨ga6,gn6,gc6⟩,⟨fa6,fn6,fc6⟩,⟨ra6,rn6,rc6⟩⟩).toList)
 generalize putC w6 (w.heap.size+2) 0 (syc (s6:Sy) ⟨⟨ta6,tn6,tc6⟩,⟨la6,ln6,lc6⟩,⟨ga6,gn6,gc6⟩,⟨fa6,fn6,fc6⟩,⟨ra6,rn6,rc6⟩⟩).toList=Q at D6 G6 ⊢
 exact bodyPost_ret (v := .tuple #[.agg (syc (s6:Sy) ⟨⟨ta6,tn6,tc6⟩,⟨la6,ln6,lc6⟩,⟨ga6,gn6,gc6⟩,⟨fa6,fn6,fc6⟩,⟨ra6,rn6,rc6⟩⟩),.int .i64 (qcn s ⟨7,cn,cp,ca,cb⟩ t)]) (by simp [results,Tryz.results39,go_sem,D6.cells]) rfl (Did.of HN.out (fun e=>by rw [HC.out];exact hs6 e) G6)
set_option linter.unusedSimpArgs false in
set_option maxHeartbeats 8000000 in
theorem qh6 {w:World} {lo:Nat} {v:Sv} {vs:List Lv} {s:Sy} (h:OwnS w lo v vs s) (hl:lo <= w.heap.size) (R:SysR s) (cn cp ca cb:Int) (hth:qak s.tasks cn=true) :
  Calls Tryz.prog 39 #[.agg (syc s v),ck ⟨8,cn,cp,ca,cb⟩] w (Did w lo v vs (doN s ⟨8,cn,cp,ca,cb⟩) (doC s ⟨8,cn,cp,ca,cb⟩)):=by
 obtain ⟨⟨ta,tn,tcap⟩,⟨la,ln,lcap⟩,⟨ga,gn,gcap⟩,⟨fa,fn,fcap⟩,⟨ra,rn,rcap⟩⟩:=v
 obtain ⟨k,ek,ht,Hta⟩:=qdl hth
 have Hpa:Hid (qau s.tasks cn=(k:Int)):=ek
 obtain ⟨t,ht⟩:=ht
 have Htt:tAt s.tasks cn=t:=Hta t ht
 have HNt:doN s ⟨8,cn,cp,ca,cb⟩=qcR s ⟨8,cn,cp,ca,cb⟩ t:=by rw [qdm (by rfl) (by rfl) hth,Htt]
 have HCt:doC s ⟨8,cn,cp,ca,cb⟩=qcz s ⟨8,cn,cp,ca,cb⟩ k t:=by rw [qdn (by rfl) (by rfl),ek,Htt,Int.toNat_natCast]
 have hk:k < s.tasks.length:=qaw ht
 obtain ⟨tb,htb⟩:=h.tasksAt hk
 dsimp only at htb
 subst htb
 have HK:Hid (s.tasks[k]?=some t):=ht
 have Hk:Hid (k < s.tasks.length):=hk
 have hkn:(k:Int) < (tn:Int):=by have:=(h.t.row qao).1;dsimp only at this;omega
 have T0:∀ w',Keeps w w'->∀ i,i < 14->w'.cell? ⟨tb,k*14+i,none⟩=(tc t)[i]?:=fun w' kk i hi=>(kk.cells tb _ (h.blkLt (i:=0) (b:=tb) rfl).2).trans ((h.taskCells (rb:=tb) rfl ht).1 i hi)
 clear ek Hta Htt hth
 obtain ⟨A0',C0',kZ⟩:=ask3 h hl ⟨8,cn,cp,ca,cb⟩
 have C0:Hid (Blk _ (w.heap.size+1) (cc ⟨8,cn,cp,ca,cb⟩)):=C0'
 have A0:Hid (AskR w lo _ vs _ w.heap.size (w.heap.size+2) _ vs s):=A0'
 have HS:Hid (SysOn _ _ s):=(h.on (by have:=R.small;omega)).keeps kZ
 clear A0' C0' h
 have TC:∀ w',Keeps _ w'->∀ i,i < 14->w'.cell? ⟨tb,k*14+i,none⟩=(tc t)[i]?:=fun w' kk=>T0 w' (kZ.trans kk)
 have TC0:∀ w',Keeps _ w'->w'.cell? ⟨tb,k*14,none⟩=some (.int .i64 t.no):=fun w' kk=>T0 w' (kZ.trans kk) 0 (by omega)
 clear T0
 go_enter Tryz.func39,Tryz.ntmps39
 go_wp2_with fail
 change Calls _ _ _ (qat w ⟨⟨some ⟨tb,0,none⟩,tn,tcap⟩,⟨la,ln,lcap⟩,⟨ga,gn,gcap⟩,⟨fa,fn,fcap⟩,⟨ra,rn,rcap⟩⟩ s ⟨8,cn,cp,ca,cb⟩) _
 generalize qat w ⟨⟨some ⟨tb,0,none⟩,tn,tcap⟩,⟨la,ln,lcap⟩,⟨ga,gn,gcap⟩,⟨fa,fn,fcap⟩,⟨ra,rn,rcap⟩⟩ s ⟨8,cn,cp,ca,cb⟩=Z at *
 have hb0:∀ w',Keeps Z w'->∀ q,w'.cell? ⟨w.heap.size,q,none⟩=(syc s ⟨⟨some ⟨tb,0,none⟩,tn,tcap⟩,⟨la,ln,lcap⟩,⟨ga,gn,gcap⟩,⟨fa,fn,fcap⟩,⟨ra,rn,rcap⟩⟩)[q]?:=fun w' k=>(A0.out.g.var.box.keeps k).cells
 dsimp only [syc] at hb0
 have hc0:∀ w',Keeps Z w'->∀ q,w'.cell? ⟨w.heap.size+1,q,none⟩=(cc ⟨8,cn,cp,ca,cb⟩)[q]?:=fun w' k=>(C0.out.keeps k).cells
 refine (HS.out.onT.sTaskAt cn Hpa.out (Keeps.refl _)).mono ?_
 rintro e w1 ⟨rfl,k1⟩
 go_upto_region 14 with fail
 have KY:Keeps Z (w1.alloc (.cells (tc t) 43)):=k1.alloc _
 have TB:Hid (Blk (w1.alloc (.cells (tc t) 43)) w1.heap.size (tc t)):=Blk.new _ _ _
 have AY:Hid (AskR w lo _ vs _ w.heap.size (w.heap.size+2) _ vs s):=A0.out.keeps KY
 have SY:Hid (SysOn _ _ s):=HS.out.keeps KY
 change Code.wp _ _ _ _ (w1.alloc (.cells (tc t) 43))
 generalize w1.alloc (.cells (tc t) 43)=Y at *
 generalize w1.heap.size=tbx at *
 have hbY:∀ w',Keeps Y w'->∀ q,w'.cell? ⟨w.heap.size,q,none⟩=_:=fun w' kk=>hb0 w' (KY.trans kk)
 have hcY:∀ w',Keeps Y w'->∀ q,w'.cell? ⟨w.heap.size+1,q,none⟩=_:=fun w' kk=>hc0 w' (KY.trans kk)
 have htY:∀ w',Keeps Y w'->∀ q,w'.cell? ⟨tbx,q,none⟩=(tc t)[q]?:=fun w' kk=>(TB.out.keeps kk).cells
 clear hb0 hc0 TC TC0 A0 HS k1
 have HN:Hid (doN s ⟨8,cn,cp,ca,cb⟩=qcy s ⟨8,cn,cp,ca,cb⟩ t):=by show _=_;rw [HNt];rfl
 have HC:Hid (doC s ⟨8,cn,cp,ca,cb⟩=qej s ⟨8,cn,cp,ca,cb⟩):=by show _=_;rw [HCt];rfl
 clear HNt HCt
 have AP:=AY.out
 go_wp2_with (go_at_call 87;refine (qix AY.out.g.var.own (Nat.le_trans hl (Nat.le_trans kZ.size KY.size)) R ⟨8,cn,cp,ca,cb⟩ HK.out).mono ?_;rintro e w6 ⟨s6,v6,vs6,rfl,hs6,g6⟩;obtain ⟨⟨ta6,tn6,tc6⟩,⟨la6,ln6,lc6⟩,⟨ga6,gn6,gc6⟩,⟨fa6,fn6,fc6⟩,⟨ra6,rn6,rc6⟩⟩:=v6;obtain ⟨P6,D6,G6⟩:=AP.pass g6;obtain ⟨_,r1,r2⟩:=P6)
 change bodyPost _ _ _ _ _ (putC w6 (w.heap.size+2) 0 (syc (s6:Sy) ⟨⟨ta6,tn6,tc6⟩,⟨la6,ln6,lc6⟩,⟨ga6,gn6,gc6⟩,⟨fa6,fn6,fc6⟩,⟨ra6,rn6,rc6⟩⟩).toList)
 generalize putC w6 (w.heap.size+2) 0 (syc (s6:Sy) ⟨⟨ta6,tn6,tc6⟩,⟨la6,ln6,lc6⟩,⟨ga6,gn6,gc6⟩,⟨fa6,fn6,fc6⟩,⟨ra6,rn6,rc6⟩⟩).toList=Q at D6 G6 ⊢
 exact bodyPost_ret (v := .tuple #[.agg (syc (s6:Sy) ⟨⟨ta6,tn6,tc6⟩,⟨la6,ln6,lc6⟩,⟨ga6,gn6,gc6⟩,⟨fa6,fn6,fc6⟩,⟨ra6,rn6,rc6⟩⟩),.int .i64 (qcy s ⟨8,cn,cp,ca,cb⟩ t)]) (by simp [results,Tryz.results39,go_sem,D6.cells]) rfl (Did.of HN.out (fun e=>by rw [HC.out];exact hs6 e) G6)
set_option linter.unusedSimpArgs false in
set_option maxHeartbeats 8000000 in
theorem qh7 {w:World} {lo:Nat} {v:Sv} {vs:List Lv} {s:Sy} (h:OwnS w lo v vs s) (hl:lo <= w.heap.size) (R:SysR s) (cn cp ca cb:Int) (hth:qak s.tasks cn=true) :
  Calls Tryz.prog 39 #[.agg (syc s v),ck ⟨10,cn,cp,ca,cb⟩] w (Did w lo v vs (doN s ⟨10,cn,cp,ca,cb⟩) (doC s ⟨10,cn,cp,ca,cb⟩)):=by
 obtain ⟨⟨ta,tn,tcap⟩,⟨la,ln,lcap⟩,⟨ga,gn,gcap⟩,⟨fa,fn,fcap⟩,⟨ra,rn,rcap⟩⟩:=v
 obtain ⟨k,ek,ht,Hta⟩:=qdl hth
 have Hpa:Hid (qau s.tasks cn=(k:Int)):=ek
 obtain ⟨t,ht⟩:=ht
 have Htt:tAt s.tasks cn=t:=Hta t ht
 have HNt:doN s ⟨10,cn,cp,ca,cb⟩=qcR s ⟨10,cn,cp,ca,cb⟩ t:=by rw [qdm (by rfl) (by rfl) hth,Htt]
 have HCt:doC s ⟨10,cn,cp,ca,cb⟩=qcz s ⟨10,cn,cp,ca,cb⟩ k t:=by rw [qdn (by rfl) (by rfl),ek,Htt,Int.toNat_natCast]
 have hk:k < s.tasks.length:=qaw ht
 obtain ⟨tb,htb⟩:=h.tasksAt hk
 dsimp only at htb
 subst htb
 have HK:Hid (s.tasks[k]?=some t):=ht
 have Hk:Hid (k < s.tasks.length):=hk
 have hkn:(k:Int) < (tn:Int):=by have:=(h.t.row qao).1;dsimp only at this;omega
 have T0:∀ w',Keeps w w'->∀ i,i < 14->w'.cell? ⟨tb,k*14+i,none⟩=(tc t)[i]?:=fun w' kk i hi=>(kk.cells tb _ (h.blkLt (i:=0) (b:=tb) rfl).2).trans ((h.taskCells (rb:=tb) rfl ht).1 i hi)
 clear ek Hta Htt hth
 obtain ⟨A0',C0',kZ⟩:=ask3 h hl ⟨10,cn,cp,ca,cb⟩
 have C0:Hid (Blk _ (w.heap.size+1) (cc ⟨10,cn,cp,ca,cb⟩)):=C0'
 have A0:Hid (AskR w lo _ vs _ w.heap.size (w.heap.size+2) _ vs s):=A0'
 have HS:Hid (SysOn _ _ s):=(h.on (by have:=R.small;omega)).keeps kZ
 clear A0' C0' h
 have TC:∀ w',Keeps _ w'->∀ i,i < 14->w'.cell? ⟨tb,k*14+i,none⟩=(tc t)[i]?:=fun w' kk=>T0 w' (kZ.trans kk)
 have TC0:∀ w',Keeps _ w'->w'.cell? ⟨tb,k*14,none⟩=some (.int .i64 t.no):=fun w' kk=>T0 w' (kZ.trans kk) 0 (by omega)
 clear T0
 go_enter Tryz.func39,Tryz.ntmps39
 go_wp2_with fail
 change Calls _ _ _ (qat w ⟨⟨some ⟨tb,0,none⟩,tn,tcap⟩,⟨la,ln,lcap⟩,⟨ga,gn,gcap⟩,⟨fa,fn,fcap⟩,⟨ra,rn,rcap⟩⟩ s ⟨10,cn,cp,ca,cb⟩) _
 generalize qat w ⟨⟨some ⟨tb,0,none⟩,tn,tcap⟩,⟨la,ln,lcap⟩,⟨ga,gn,gcap⟩,⟨fa,fn,fcap⟩,⟨ra,rn,rcap⟩⟩ s ⟨10,cn,cp,ca,cb⟩=Z at *
 have hb0:∀ w',Keeps Z w'->∀ q,w'.cell? ⟨w.heap.size,q,none⟩=(syc s ⟨⟨some ⟨tb,0,none⟩,tn,tcap⟩,⟨la,ln,lcap⟩,⟨ga,gn,gcap⟩,⟨fa,fn,fcap⟩,⟨ra,rn,rcap⟩⟩)[q]?:=fun w' k=>(A0.out.g.var.box.keeps k).cells
 dsimp only [syc] at hb0
 have hc0:∀ w',Keeps Z w'->∀ q,w'.cell? ⟨w.heap.size+1,q,none⟩=(cc ⟨10,cn,cp,ca,cb⟩)[q]?:=fun w' k=>(C0.out.keeps k).cells
 refine (HS.out.onT.sTaskAt cn Hpa.out (Keeps.refl _)).mono ?_
 rintro e w1 ⟨rfl,k1⟩
 go_upto_region 14 with fail
 have KY:Keeps Z (w1.alloc (.cells (tc t) 43)):=k1.alloc _
 have TB:Hid (Blk (w1.alloc (.cells (tc t) 43)) w1.heap.size (tc t)):=Blk.new _ _ _
 have AY:Hid (AskR w lo _ vs _ w.heap.size (w.heap.size+2) _ vs s):=A0.out.keeps KY
 have SY:Hid (SysOn _ _ s):=HS.out.keeps KY
 change Code.wp _ _ _ _ (w1.alloc (.cells (tc t) 43))
 generalize w1.alloc (.cells (tc t) 43)=Y at *
 generalize w1.heap.size=tbx at *
 have hbY:∀ w',Keeps Y w'->∀ q,w'.cell? ⟨w.heap.size,q,none⟩=_:=fun w' kk=>hb0 w' (KY.trans kk)
 have hcY:∀ w',Keeps Y w'->∀ q,w'.cell? ⟨w.heap.size+1,q,none⟩=_:=fun w' kk=>hc0 w' (KY.trans kk)
 have htY:∀ w',Keeps Y w'->∀ q,w'.cell? ⟨tbx,q,none⟩=(tc t)[q]?:=fun w' kk=>(TB.out.keeps kk).cells
 clear hb0 hc0 TC TC0 A0 HS k1
 have HN:Hid (doN s ⟨10,cn,cp,ca,cb⟩=qcQ s ⟨10,cn,cp,ca,cb⟩ t):=by show _=_;rw [HNt];rfl
 have HC:Hid (doC s ⟨10,cn,cp,ca,cb⟩=qek s ⟨10,cn,cp,ca,cb⟩ k t):=by show _=_;rw [HCt];rfl
 clear HNt HCt
 have AP:=AY.out
 go_wp2_with (go_at_call 89;refine (qin AY.out.g.var.own (Nat.le_trans hl (Nat.le_trans kZ.size KY.size)) R ⟨10,cn,cp,ca,cb⟩ HK.out).mono ?_;rintro e w6 ⟨s6,v6,vs6,rfl,hs6,g6⟩;obtain ⟨⟨ta6,tn6,tc6⟩,⟨la6,ln6,lc6⟩,⟨ga6,gn6,gc6⟩,⟨fa6,fn6,fc6⟩,⟨ra6,rn6,rc6⟩⟩:=v6;obtain ⟨P6,D6,G6⟩:=AP.pass g6;obtain ⟨_,r1,r2⟩:=P6)
 change bodyPost _ _ _ _ _ (putC w6 (w.heap.size+2) 0 (syc (s6:Sy) ⟨⟨ta6,tn6,tc6⟩,⟨la6,ln6,lc6⟩,⟨ga6,gn6,gc6⟩,⟨fa6,fn6,fc6⟩,⟨ra6,rn6,rc6⟩⟩).toList)
 generalize putC w6 (w.heap.size+2) 0 (syc (s6:Sy) ⟨⟨ta6,tn6,tc6⟩,⟨la6,ln6,lc6⟩,⟨ga6,gn6,gc6⟩,⟨fa6,fn6,fc6⟩,⟨ra6,rn6,rc6⟩⟩).toList=Q at D6 G6 ⊢
 exact bodyPost_ret (v := .tuple #[.agg (syc (s6:Sy) ⟨⟨ta6,tn6,tc6⟩,⟨la6,ln6,lc6⟩,⟨ga6,gn6,gc6⟩,⟨fa6,fn6,fc6⟩,⟨ra6,rn6,rc6⟩⟩),.int .i64 (qcQ s ⟨10,cn,cp,ca,cb⟩ t)]) (by simp [results,Tryz.results39,go_sem,D6.cells]) rfl (Did.of HN.out (fun e=>by rw [HC.out];exact hs6 e) G6)
end Go.Proofs.YteagpjlgjfaclaaGreatDoor
