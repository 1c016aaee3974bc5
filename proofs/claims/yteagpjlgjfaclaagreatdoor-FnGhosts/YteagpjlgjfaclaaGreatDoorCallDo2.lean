/-
  Calls: what is done of a right call: sleep, waking, a new n
-/
import Derived.Test.YteagpjlgjfaclaaGreatDoorCallMove
import Derived.Test.YteagpjlgjfaclaaGreatDoorPlain1
import Derived.Deep.Cut
namespace Go.Proofs.YteagpjlgjfaclaaGreatDoor
set_option maxRecDepth 100000
open Go.RowKit
attribute [local go_sem] aa.refl aa.alloc aa.drew aa.drewN
set_option linter.unusedSimpArgs false in
set_option maxHeartbeats 8000000 in
theorem Bh {w:World} {lo:Nat} {v:Sv} {vs:List Lv} {s:Sy} (h:ay w lo v vs s) (hl:lo <= w.heap.size) (R:cx s) (cn cp ca cb:Int) (hth:ct s.tasks cn=true) :
  Calls Tryz.prog 39 #[.agg (ae s v),ck ⟨4,cn,cp,ca,cb⟩] w (eQ w lo v vs (dv s ⟨4,cn,cp,ca,cb⟩) (ee s ⟨4,cn,cp,ca,cb⟩)):=by
 obtain ⟨⟨ta,tn,ag⟩,⟨la,ln,ah⟩,⟨ga,gn,ai⟩,⟨fa,fn,aj⟩,⟨ra,rn,ao⟩⟩:=v
 obtain ⟨k,ek,ht,fg⟩:=mj hth
 have eB:Hid (dc s.tasks cn=(k:Int)):=ek
 obtain ⟨t,ht⟩:=ht
 have eR:dB s.tasks cn=t:=fg t ht
 have gv:dv s ⟨4,cn,cp,ca,cb⟩=kS s ⟨4,cn,cp,ca,cb⟩ t:=by rw [ml (by rfl) (by rfl) hth,eR]
 have gw:ee s ⟨4,cn,cp,ca,cb⟩=kq s ⟨4,cn,cp,ca,cb⟩ k t:=by rw [mn (by rfl) (by rfl),ek,eR,Int.toNat_natCast]
 have hk:k < s.tasks.length:=cZ ht
 obtain ⟨tb,htb⟩:=h.aW hk
 dsimp only at htb
 subst htb
 have HK:Hid (s.tasks[k]?=some t):=ht
 have Hk:Hid (k < s.tasks.length):=hk
 have hkn:(k:Int) < (tn:Int):=by have:=(h.t.row cF).1;dsimp only at this;omega
 have T0:∀ w',aa w w'->∀ i,i < 14->w'.cell? ⟨tb,k*14+i,none⟩=(tc t)[i]?:=fun w' kk i hi=>(kk.cells tb _ (h.aG (i:=0) (b:=tb) rfl).2).trans ((h.aJ (rb:=tb) rfl ht).1 i hi)
 clear ek fg eR hth
 obtain ⟨dj,dx,kZ⟩:=et h hl ⟨4,cn,cp,ca,cb⟩
 have C0:Hid (aq _ (w.heap.size+1) (cc ⟨4,cn,cp,ca,cb⟩)):=dx
 have A0:Hid (aQ w lo _ vs _ w.heap.size (w.heap.size+2) _ vs s):=dj
 have HS:Hid (aA _ _ s):=(h.on (by have:=R.small;omega)).keeps kZ
 clear dj dx h
 have TC:∀ w',aa _ w'->∀ i,i < 14->w'.cell? ⟨tb,k*14+i,none⟩=(tc t)[i]?:=fun w' kk=>T0 w' (kZ.trans kk)
 have i9:∀ w',aa _ w'->w'.cell? ⟨tb,k*14,none⟩=some (.int .i64 t.no):=fun w' kk=>T0 w' (kZ.trans kk) 0 (by omega)
 clear T0
 go_enter Tryz.func39,Tryz.ntmps39
 go_wp2_with fail
 change Calls _ _ _ (cO w ⟨⟨some ⟨tb,0,none⟩,tn,ag⟩,⟨la,ln,ah⟩,⟨ga,gn,ai⟩,⟨fa,fn,aj⟩,⟨ra,rn,ao⟩⟩ s ⟨4,cn,cp,ca,cb⟩) _
 generalize cO w ⟨⟨some ⟨tb,0,none⟩,tn,ag⟩,⟨la,ln,ah⟩,⟨ga,gn,ai⟩,⟨fa,fn,aj⟩,⟨ra,rn,ao⟩⟩ s ⟨4,cn,cp,ca,cb⟩=Z at *
 have hb0:∀ w',aa Z w'->∀ q,w'.cell? ⟨w.heap.size,q,none⟩=(ae s ⟨⟨some ⟨tb,0,none⟩,tn,ag⟩,⟨la,ln,ah⟩,⟨ga,gn,ai⟩,⟨fa,fn,aj⟩,⟨ra,rn,ao⟩⟩)[q]?:=fun w' k=>(A0.out.g.var.box.keeps k).cells
 dsimp only [ae] at hb0
 have hc0:∀ w',aa Z w'->∀ q,w'.cell? ⟨w.heap.size+1,q,none⟩=(cc ⟨4,cn,cp,ca,cb⟩)[q]?:=fun w' k=>(C0.out.keeps k).cells
 refine (HS.out.gF.aU cn eB.out (aa.refl _)).mono ?_
 rintro e w1 ⟨rfl,k1⟩
 go_upto_region 14 with fail
 have KY:aa Z (w1.alloc (.cells (tc t) 43)):=k1.alloc _
 have TB:Hid (aq (w1.alloc (.cells (tc t) 43)) w1.heap.size (tc t)):=aq.new _ _ _
 have AY:Hid (aQ w lo _ vs _ w.heap.size (w.heap.size+2) _ vs s):=A0.out.keeps KY
 have SY:Hid (aA _ _ s):=HS.out.keeps KY
 change Code.wp _ _ _ _ (w1.alloc (.cells (tc t) 43))
 generalize w1.alloc (.cells (tc t) 43)=Y at *
 generalize w1.heap.size=eC at *
 have nL:∀ w',aa Y w'->∀ q,w'.cell? ⟨w.heap.size,q,none⟩=_:=fun w' kk=>hb0 w' (KY.trans kk)
 have nM:∀ w',aa Y w'->∀ q,w'.cell? ⟨w.heap.size+1,q,none⟩=_:=fun w' kk=>hc0 w' (KY.trans kk)
 have nN:∀ w',aa Y w'->∀ q,w'.cell? ⟨eC,q,none⟩=(tc t)[q]?:=fun w' kk=>(TB.out.keeps kk).cells
 clear hb0 hc0 TC i9 A0 HS k1
 obtain ⟨za,Hz⟩:∃ z,Hid (dS s.ak cn=z):=⟨_,rfl⟩
 have e1:(!decide (za < 0))=decide (0 <= za):=by rw [Bool.eq_iff_iff];simp
 have dJ:Hid (dv s ⟨4,cn,cp,ca,cb⟩=if t.st==2||decide (0 <= za) then 5 else 0):=by
  show _=_
  rw [gv,<- e1,<- Hz.out]
  rfl
 have HC:Hid ({ (s:Sy) with tasks:=s.tasks.set k { t with st:=2 } }=ee s ⟨4,cn,cp,ca,cb⟩):=by show _=_;rw [gw];rfl
 clear gv gw e1
 have WA:Hid (∀ w',aa Y w'->Calls Tryz.prog 84 #[.slice la ln ah,.int .i64 cn] w' fun e w''=>e = .returned (.int .i64 za) /\ aa w' w''):=fun w' kk=>SY.out.gx.eK cn Hz.out kk
 cases d1:(t.st==2)
 rotate_left
 ·have HN:Hid (dv s ⟨4,cn,cp,ca,cb⟩=5):=by show _=_;rw [dJ.out,d1];rfl
  have AE:=AY.out
  obtain ⟨_,o1,o2⟩:=AE.g.var.box
  dsimp only [ae] at o1
  obtain ⟨_,r1,r2⟩:=AE.r
  go_wp2
  exact AE.ret HN.out (fun h=>absurd h (by decide)) rfl (fun Q D=>by simp [results,Tryz.results39,go_sem,D])
 go_upto_if 66 with (go_at_call 84;refine (WA.out _ (aa.refl _)).mono ?_;rintro e w6 ⟨rfl,k6⟩)
 cases d2:decide (0 <= za)
 rotate_left
 ·have HN:Hid (dv s ⟨4,cn,cp,ca,cb⟩=5):=by show _=_;rw [dJ.out,d1,d2];rfl
  have AE:=AY.out.keeps k6
  obtain ⟨_,o1,o2⟩:=AE.g.var.box
  dsimp only [ae] at o1
  obtain ⟨_,r1,r2⟩:=AE.r
  go_wp2
  exact AE.ret HN.out (fun h=>absurd h (by decide)) rfl (fun Q D=>by simp [results,Tryz.results39,go_sem,D])
 have HN:Hid (dv s ⟨4,cn,cp,ca,cb⟩=0):=by show _=_;rw [dJ.out,d1,d2];rfl
 have AS:=AY.out.keeps k6
 obtain ⟨z1,z2⟩:=AS.g.var.own.aJ (rb:=tb) rfl (k:=k) HK.out
 have vq:w6.cell? ⟨tb,k*14+3,none⟩=(tc t)[3]?:=z1 3 (by omega)
 have hor:tb≠w.heap.size:=AS.qH rfl
 have hrr:tb≠w.heap.size+2:=AS.qI rfl
 obtain ⟨_,p1,p2⟩:=AS.g.var.box
 dsimp only [ae] at p1
 obtain ⟨_,q1,q2⟩:=AS.r
 have AN:Hid (aQ w lo _ vs (w6.setCell ⟨tb,k*14+3,none⟩ (.int .i64 2)) w.heap.size (w.heap.size+2) _ vs { (s:Sy) with tasks:=s.tasks.set k { t with st:=2 } }):=AS.fL (tb:=tb) rfl HK.out (y:={ t with st:=2 }) (j:=3) (by omega) rfl
 clear z1
 have AE:=AN.out
 obtain ⟨_,o1,o2⟩:=AE.g.var.box
 dsimp only [ae] at o1
 obtain ⟨_,r1,r2⟩:=AE.r
 go_wp2
 exact AE.ret HN.out (fun _=>HC.out) rfl (fun Q D=>by simp [results,Tryz.results39,go_sem,D])
set_option linter.unusedSimpArgs false in
set_option maxHeartbeats 8000000 in
theorem Bi {w:World} {lo:Nat} {v:Sv} {vs:List Lv} {s:Sy} (h:ay w lo v vs s) (hl:lo <= w.heap.size) (R:cx s) (cn cp ca cb:Int) (hth:ct s.tasks cn=true) :
  Calls Tryz.prog 39 #[.agg (ae s v),ck ⟨5,cn,cp,ca,cb⟩] w (eQ w lo v vs (dv s ⟨5,cn,cp,ca,cb⟩) (ee s ⟨5,cn,cp,ca,cb⟩)):=by
 obtain ⟨⟨ta,tn,ag⟩,⟨la,ln,ah⟩,⟨ga,gn,ai⟩,⟨fa,fn,aj⟩,⟨ra,rn,ao⟩⟩:=v
 obtain ⟨k,ek,ht,fg⟩:=mj hth
 have eB:Hid (dc s.tasks cn=(k:Int)):=ek
 obtain ⟨t,ht⟩:=ht
 have eR:dB s.tasks cn=t:=fg t ht
 have gv:dv s ⟨5,cn,cp,ca,cb⟩=kS s ⟨5,cn,cp,ca,cb⟩ t:=by rw [ml (by rfl) (by rfl) hth,eR]
 have gw:ee s ⟨5,cn,cp,ca,cb⟩=kq s ⟨5,cn,cp,ca,cb⟩ k t:=by rw [mn (by rfl) (by rfl),ek,eR,Int.toNat_natCast]
 have hk:k < s.tasks.length:=cZ ht
 obtain ⟨tb,htb⟩:=h.aW hk
 dsimp only at htb
 subst htb
 have HK:Hid (s.tasks[k]?=some t):=ht
 have Hk:Hid (k < s.tasks.length):=hk
 have hkn:(k:Int) < (tn:Int):=by have:=(h.t.row cF).1;dsimp only at this;omega
 have T0:∀ w',aa w w'->∀ i,i < 14->w'.cell? ⟨tb,k*14+i,none⟩=(tc t)[i]?:=fun w' kk i hi=>(kk.cells tb _ (h.aG (i:=0) (b:=tb) rfl).2).trans ((h.aJ (rb:=tb) rfl ht).1 i hi)
 clear ek fg eR hth
 obtain ⟨dj,dx,kZ⟩:=et h hl ⟨5,cn,cp,ca,cb⟩
 have C0:Hid (aq _ (w.heap.size+1) (cc ⟨5,cn,cp,ca,cb⟩)):=dx
 have A0:Hid (aQ w lo _ vs _ w.heap.size (w.heap.size+2) _ vs s):=dj
 have HS:Hid (aA _ _ s):=(h.on (by have:=R.small;omega)).keeps kZ
 clear dj dx h
 have TC:∀ w',aa _ w'->∀ i,i < 14->w'.cell? ⟨tb,k*14+i,none⟩=(tc t)[i]?:=fun w' kk=>T0 w' (kZ.trans kk)
 have i9:∀ w',aa _ w'->w'.cell? ⟨tb,k*14,none⟩=some (.int .i64 t.no):=fun w' kk=>T0 w' (kZ.trans kk) 0 (by omega)
 clear T0
 go_enter Tryz.func39,Tryz.ntmps39
 go_wp2_with fail
 change Calls _ _ _ (cO w ⟨⟨some ⟨tb,0,none⟩,tn,ag⟩,⟨la,ln,ah⟩,⟨ga,gn,ai⟩,⟨fa,fn,aj⟩,⟨ra,rn,ao⟩⟩ s ⟨5,cn,cp,ca,cb⟩) _
 generalize cO w ⟨⟨some ⟨tb,0,none⟩,tn,ag⟩,⟨la,ln,ah⟩,⟨ga,gn,ai⟩,⟨fa,fn,aj⟩,⟨ra,rn,ao⟩⟩ s ⟨5,cn,cp,ca,cb⟩=Z at *
 have hb0:∀ w',aa Z w'->∀ q,w'.cell? ⟨w.heap.size,q,none⟩=(ae s ⟨⟨some ⟨tb,0,none⟩,tn,ag⟩,⟨la,ln,ah⟩,⟨ga,gn,ai⟩,⟨fa,fn,aj⟩,⟨ra,rn,ao⟩⟩)[q]?:=fun w' k=>(A0.out.g.var.box.keeps k).cells
 dsimp only [ae] at hb0
 have hc0:∀ w',aa Z w'->∀ q,w'.cell? ⟨w.heap.size+1,q,none⟩=(cc ⟨5,cn,cp,ca,cb⟩)[q]?:=fun w' k=>(C0.out.keeps k).cells
 refine (HS.out.gF.aU cn eB.out (aa.refl _)).mono ?_
 rintro e w1 ⟨rfl,k1⟩
 go_upto_region 14 with fail
 have KY:aa Z (w1.alloc (.cells (tc t) 43)):=k1.alloc _
 have TB:Hid (aq (w1.alloc (.cells (tc t) 43)) w1.heap.size (tc t)):=aq.new _ _ _
 have AY:Hid (aQ w lo _ vs _ w.heap.size (w.heap.size+2) _ vs s):=A0.out.keeps KY
 have SY:Hid (aA _ _ s):=HS.out.keeps KY
 change Code.wp _ _ _ _ (w1.alloc (.cells (tc t) 43))
 generalize w1.alloc (.cells (tc t) 43)=Y at *
 generalize w1.heap.size=eC at *
 have nL:∀ w',aa Y w'->∀ q,w'.cell? ⟨w.heap.size,q,none⟩=_:=fun w' kk=>hb0 w' (KY.trans kk)
 have nM:∀ w',aa Y w'->∀ q,w'.cell? ⟨w.heap.size+1,q,none⟩=_:=fun w' kk=>hc0 w' (KY.trans kk)
 have nN:∀ w',aa Y w'->∀ q,w'.cell? ⟨eC,q,none⟩=(tc t)[q]?:=fun w' kk=>(TB.out.keeps kk).cells
 clear hb0 hc0 TC i9 A0 HS k1
 have dJ:Hid (dv s ⟨5,cn,cp,ca,cb⟩=if t.st != 2 then 5 else 0):=by show _=_;rw [gv];rfl
 have HC:Hid ({ (s:Sy) with tasks:=s.tasks.set k { t with st:=1 } }=ee s ⟨5,cn,cp,ca,cb⟩):=by show _=_;rw [gw];rfl
 clear gv gw
 cases d1:(t.st != 2)
 rotate_left
 ·have HN:Hid (dv s ⟨5,cn,cp,ca,cb⟩=5):=by show _=_;rw [dJ.out,d1];rfl
  have AE:=AY.out
  obtain ⟨_,o1,o2⟩:=AE.g.var.box
  dsimp only [ae] at o1
  obtain ⟨_,r1,r2⟩:=AE.r
  go_wp2
  exact AE.ret HN.out (fun h=>absurd h (by decide)) rfl (fun Q D=>by simp [results,Tryz.results39,go_sem,D])
 have HN:Hid (dv s ⟨5,cn,cp,ca,cb⟩=0):=by show _=_;rw [dJ.out,d1];rfl
 have AS:=AY.out
 obtain ⟨z1,z2⟩:=AS.g.var.own.aJ (rb:=tb) rfl (k:=k) HK.out
 have vq:Y.cell? ⟨tb,k*14+3,none⟩=(tc t)[3]?:=z1 3 (by omega)
 have hor:tb≠w.heap.size:=AS.qH rfl
 have hrr:tb≠w.heap.size+2:=AS.qI rfl
 obtain ⟨_,p1,p2⟩:=AS.g.var.box
 dsimp only [ae] at p1
 obtain ⟨_,q1,q2⟩:=AS.r
 have AN:Hid (aQ w lo _ vs (Y.setCell ⟨tb,k*14+3,none⟩ (.int .i64 1)) w.heap.size (w.heap.size+2) _ vs { (s:Sy) with tasks:=s.tasks.set k { t with st:=1 } }):=AS.fL (tb:=tb) rfl HK.out (y:={ t with st:=1 }) (j:=3) (by omega) rfl
 clear z1
 have AE:=AN.out
 obtain ⟨_,o1,o2⟩:=AE.g.var.box
 dsimp only [ae] at o1
 obtain ⟨_,r1,r2⟩:=AE.r
 go_wp2
 exact AE.ret HN.out (fun _=>HC.out) rfl (fun Q D=>by simp [results,Tryz.results39,go_sem,D])
set_option linter.unusedSimpArgs false in
set_option maxHeartbeats 8000000 in
theorem Bj {w:World} {lo:Nat} {v:Sv} {vs:List Lv} {s:Sy} (h:ay w lo v vs s) (hl:lo <= w.heap.size) (R:cx s) (cn cp ca cb:Int) (hth:ct s.tasks cn=true) :
  Calls Tryz.prog 39 #[.agg (ae s v),ck ⟨9,cn,cp,ca,cb⟩] w (eQ w lo v vs (dv s ⟨9,cn,cp,ca,cb⟩) (ee s ⟨9,cn,cp,ca,cb⟩)):=by
 obtain ⟨⟨ta,tn,ag⟩,⟨la,ln,ah⟩,⟨ga,gn,ai⟩,⟨fa,fn,aj⟩,⟨ra,rn,ao⟩⟩:=v
 obtain ⟨k,ek,ht,fg⟩:=mj hth
 have eB:Hid (dc s.tasks cn=(k:Int)):=ek
 obtain ⟨t,ht⟩:=ht
 have eR:dB s.tasks cn=t:=fg t ht
 have gv:dv s ⟨9,cn,cp,ca,cb⟩=kS s ⟨9,cn,cp,ca,cb⟩ t:=by rw [ml (by rfl) (by rfl) hth,eR]
 have gw:ee s ⟨9,cn,cp,ca,cb⟩=kq s ⟨9,cn,cp,ca,cb⟩ k t:=by rw [mn (by rfl) (by rfl),ek,eR,Int.toNat_natCast]
 have hk:k < s.tasks.length:=cZ ht
 obtain ⟨tb,htb⟩:=h.aW hk
 dsimp only at htb
 subst htb
 have HK:Hid (s.tasks[k]?=some t):=ht
 have Hk:Hid (k < s.tasks.length):=hk
 have hkn:(k:Int) < (tn:Int):=by have:=(h.t.row cF).1;dsimp only at this;omega
 have T0:∀ w',aa w w'->∀ i,i < 14->w'.cell? ⟨tb,k*14+i,none⟩=(tc t)[i]?:=fun w' kk i hi=>(kk.cells tb _ (h.aG (i:=0) (b:=tb) rfl).2).trans ((h.aJ (rb:=tb) rfl ht).1 i hi)
 clear ek fg eR hth
 obtain ⟨dj,dx,kZ⟩:=et h hl ⟨9,cn,cp,ca,cb⟩
 have C0:Hid (aq _ (w.heap.size+1) (cc ⟨9,cn,cp,ca,cb⟩)):=dx
 have A0:Hid (aQ w lo _ vs _ w.heap.size (w.heap.size+2) _ vs s):=dj
 have HS:Hid (aA _ _ s):=(h.on (by have:=R.small;omega)).keeps kZ
 clear dj dx h
 have TC:∀ w',aa _ w'->∀ i,i < 14->w'.cell? ⟨tb,k*14+i,none⟩=(tc t)[i]?:=fun w' kk=>T0 w' (kZ.trans kk)
 have i9:∀ w',aa _ w'->w'.cell? ⟨tb,k*14,none⟩=some (.int .i64 t.no):=fun w' kk=>T0 w' (kZ.trans kk) 0 (by omega)
 clear T0
 go_enter Tryz.func39,Tryz.ntmps39
 go_wp2_with fail
 change Calls _ _ _ (cO w ⟨⟨some ⟨tb,0,none⟩,tn,ag⟩,⟨la,ln,ah⟩,⟨ga,gn,ai⟩,⟨fa,fn,aj⟩,⟨ra,rn,ao⟩⟩ s ⟨9,cn,cp,ca,cb⟩) _
 generalize cO w ⟨⟨some ⟨tb,0,none⟩,tn,ag⟩,⟨la,ln,ah⟩,⟨ga,gn,ai⟩,⟨fa,fn,aj⟩,⟨ra,rn,ao⟩⟩ s ⟨9,cn,cp,ca,cb⟩=Z at *
 have hb0:∀ w',aa Z w'->∀ q,w'.cell? ⟨w.heap.size,q,none⟩=(ae s ⟨⟨some ⟨tb,0,none⟩,tn,ag⟩,⟨la,ln,ah⟩,⟨ga,gn,ai⟩,⟨fa,fn,aj⟩,⟨ra,rn,ao⟩⟩)[q]?:=fun w' k=>(A0.out.g.var.box.keeps k).cells
 dsimp only [ae] at hb0
 have hc0:∀ w',aa Z w'->∀ q,w'.cell? ⟨w.heap.size+1,q,none⟩=(cc ⟨9,cn,cp,ca,cb⟩)[q]?:=fun w' k=>(C0.out.keeps k).cells
 refine (HS.out.gF.aU cn eB.out (aa.refl _)).mono ?_
 rintro e w1 ⟨rfl,k1⟩
 go_upto_region 14 with fail
 have KY:aa Z (w1.alloc (.cells (tc t) 43)):=k1.alloc _
 have TB:Hid (aq (w1.alloc (.cells (tc t) 43)) w1.heap.size (tc t)):=aq.new _ _ _
 have AY:Hid (aQ w lo _ vs _ w.heap.size (w.heap.size+2) _ vs s):=A0.out.keeps KY
 have SY:Hid (aA _ _ s):=HS.out.keeps KY
 change Code.wp _ _ _ _ (w1.alloc (.cells (tc t) 43))
 generalize w1.alloc (.cells (tc t) 43)=Y at *
 generalize w1.heap.size=eC at *
 have nL:∀ w',aa Y w'->∀ q,w'.cell? ⟨w.heap.size,q,none⟩=_:=fun w' kk=>hb0 w' (KY.trans kk)
 have nM:∀ w',aa Y w'->∀ q,w'.cell? ⟨w.heap.size+1,q,none⟩=_:=fun w' kk=>hc0 w' (KY.trans kk)
 have nN:∀ w',aa Y w'->∀ q,w'.cell? ⟨eC,q,none⟩=(tc t)[q]?:=fun w' kk=>(TB.out.keeps kk).cells
 clear hb0 hc0 TC i9 A0 HS k1
 have dJ:Hid (dv s ⟨9,cn,cp,ca,cb⟩=if t.cls != 3 then 5 else if !aH ca (-4) 4 then 1 else 0):=by show _=_;rw [gv];rfl
 have HC:Hid ({ (s:Sy) with tasks:=s.tasks.set k { t with nice:=ca } }=ee s ⟨9,cn,cp,ca,cb⟩):=by show _=_;rw [gw];rfl
 clear gv gw
 cases d1:(t.cls != 3)
 rotate_left
 ·have HN:Hid (dv s ⟨9,cn,cp,ca,cb⟩=5):=by show _=_;rw [dJ.out,d1];rfl
  have AE:=AY.out
  obtain ⟨_,o1,o2⟩:=AE.g.var.box
  dsimp only [ae] at o1
  obtain ⟨_,r1,r2⟩:=AE.r
  go_wp2
  exact AE.ret HN.out (fun h=>absurd h (by decide)) rfl (fun Q D=>by simp [results,Tryz.results39,go_sem,D])
 go_upto_if 116 with (go_at_call 88;refine (iq _ _).mono ?_;rintro e w' ⟨rfl,hw'⟩;have hw2:=hw'.symm;subst hw2)
 cases d2:aH ca (-4) 4
 ·have HN:Hid (dv s ⟨9,cn,cp,ca,cb⟩=1):=by show _=_;rw [dJ.out,d1,d2];rfl
  have AE:=AY.out
  obtain ⟨_,o1,o2⟩:=AE.g.var.box
  dsimp only [ae] at o1
  obtain ⟨_,r1,r2⟩:=AE.r
  go_wp2
  exact AE.ret HN.out (fun h=>absurd h (by decide)) rfl (fun Q D=>by simp [results,Tryz.results39,go_sem,D])
 have HN:Hid (dv s ⟨9,cn,cp,ca,cb⟩=0):=by show _=_;rw [dJ.out,d1,d2];rfl
 have AS:=AY.out
 obtain ⟨z1,z2⟩:=AS.g.var.own.aJ (rb:=tb) rfl (k:=k) HK.out
 have vq:Y.cell? ⟨tb,k*14+12,none⟩=(tc t)[12]?:=z1 12 (by omega)
 have hor:tb≠w.heap.size:=AS.qH rfl
 have hrr:tb≠w.heap.size+2:=AS.qI rfl
 obtain ⟨_,p1,p2⟩:=AS.g.var.box
 dsimp only [ae] at p1
 obtain ⟨_,q1,q2⟩:=AS.r
 have AN:Hid (aQ w lo _ vs (Y.setCell ⟨tb,k*14+12,none⟩ (.int .i64 ca)) w.heap.size (w.heap.size+2) _ vs { (s:Sy) with tasks:=s.tasks.set k { t with nice:=ca } }):=AS.fL (tb:=tb) rfl HK.out (y:={ t with nice:=ca }) (j:=12) (by omega) rfl
 clear z1
 have AE:=AN.out
 obtain ⟨_,o1,o2⟩:=AE.g.var.box
 dsimp only [ae] at o1
 obtain ⟨_,r1,r2⟩:=AE.r
 go_wp2
 exact AE.ret HN.out (fun _=>HC.out) rfl (fun Q D=>by simp [results,Tryz.results39,go_sem,D])
end Go.Proofs.YteagpjlgjfaclaaGreatDoor
