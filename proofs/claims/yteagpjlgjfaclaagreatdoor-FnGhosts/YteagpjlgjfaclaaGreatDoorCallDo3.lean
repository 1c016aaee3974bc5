/-
  Calls: what is done of a right call: an end, locks, a move.
-/
import Derived.Test.YteagpjlgjfaclaaGreatDoorCallMove
import Derived.Test.YteagpjlgjfaclaaGreatDoorCallExit
import Derived.Test.YteagpjlgjfaclaaGreatDoorCallLock
import Derived.Test.YteagpjlgjfaclaaGreatDoorCallUnlock
import Derived.Deep.Cut
namespace Go.Proofs.YteagpjlgjfaclaaGreatDoor
set_option maxRecDepth 100000
open Go.RowKit
attribute [local go_sem] aa.refl aa.alloc aa.drew aa.drewN
set_option linter.unusedSimpArgs false in
set_option maxHeartbeats 8000000 in
theorem Bk {w:World} {lo:Nat} {v:Sv} {vs:List Lv} {s:Sy} (h:ay w lo v vs s) (hl:lo <= w.heap.size) (R:cx s) (cn cp ca cb:Int) (hth:ct s.tasks cn=true) :
  Calls Tryz.prog 39 #[.agg (ae s v),ck ⟨6,cn,cp,ca,cb⟩] w (eQ w lo v vs (dv s ⟨6,cn,cp,ca,cb⟩) (ee s ⟨6,cn,cp,ca,cb⟩)):=by
 obtain ⟨⟨ta,tn,ag⟩,⟨la,ln,ah⟩,⟨ga,gn,ai⟩,⟨fa,fn,aj⟩,⟨ra,rn,ao⟩⟩:=v
 obtain ⟨k,ek,ht,fg⟩:=mj hth
 have eB:Hid (dc s.tasks cn=(k:Int)):=ek
 obtain ⟨t,ht⟩:=ht
 have eR:dB s.tasks cn=t:=fg t ht
 have gv:dv s ⟨6,cn,cp,ca,cb⟩=kS s ⟨6,cn,cp,ca,cb⟩ t:=by rw [ml (by rfl) (by rfl) hth,eR]
 have gw:ee s ⟨6,cn,cp,ca,cb⟩=kq s ⟨6,cn,cp,ca,cb⟩ k t:=by rw [mn (by rfl) (by rfl),ek,eR,Int.toNat_natCast]
 have hk:k < s.tasks.length:=cZ ht
 obtain ⟨tb,htb⟩:=h.aW hk
 dsimp only at htb
 subst htb
 have HK:Hid (s.tasks[k]?=some t):=ht
 have Hk:Hid (k < s.tasks.length):=hk
 have hkn:(k:Int) < (tn:Int):=by have:=(h.t.row cF).1;dsimp only at this;omega
 have T0:∀ w',aa w w'->∀ i,i < 14->w'.cell? ⟨tb,k*14+i,none⟩=(tc t)[i]?:=fun w' kk i hi=>(kk.cells tb _ (h.aG (i:=0) (b:=tb) rfl).2).trans ((h.aJ (rb:=tb) rfl ht).1 i hi)
 clear ek fg eR hth
 obtain ⟨dj,dx,kZ⟩:=et h hl ⟨6,cn,cp,ca,cb⟩
 have C0:Hid (aq _ (w.heap.size+1) (cc ⟨6,cn,cp,ca,cb⟩)):=dx
 have A0:Hid (aQ w lo _ vs _ w.heap.size (w.heap.size+2) _ vs s):=dj
 have HS:Hid (aA _ _ s):=(h.on (by have:=R.small;omega)).keeps kZ
 clear dj dx h
 have TC:∀ w',aa _ w'->∀ i,i < 14->w'.cell? ⟨tb,k*14+i,none⟩=(tc t)[i]?:=fun w' kk=>T0 w' (kZ.trans kk)
 have i9:∀ w',aa _ w'->w'.cell? ⟨tb,k*14,none⟩=some (.int .i64 t.no):=fun w' kk=>T0 w' (kZ.trans kk) 0 (by omega)
 clear T0
 go_enter Tryz.func39,Tryz.ntmps39
 go_wp2_with fail
 change Calls _ _ _ (cO w ⟨⟨some ⟨tb,0,none⟩,tn,ag⟩,⟨la,ln,ah⟩,⟨ga,gn,ai⟩,⟨fa,fn,aj⟩,⟨ra,rn,ao⟩⟩ s ⟨6,cn,cp,ca,cb⟩) _
 generalize cO w ⟨⟨some ⟨tb,0,none⟩,tn,ag⟩,⟨la,ln,ah⟩,⟨ga,gn,ai⟩,⟨fa,fn,aj⟩,⟨ra,rn,ao⟩⟩ s ⟨6,cn,cp,ca,cb⟩=Z at *
 have hb0:∀ w',aa Z w'->∀ q,w'.cell? ⟨w.heap.size,q,none⟩=(ae s ⟨⟨some ⟨tb,0,none⟩,tn,ag⟩,⟨la,ln,ah⟩,⟨ga,gn,ai⟩,⟨fa,fn,aj⟩,⟨ra,rn,ao⟩⟩)[q]?:=fun w' k=>(A0.out.g.var.box.keeps k).cells
 dsimp only [ae] at hb0
 have hc0:∀ w',aa Z w'->∀ q,w'.cell? ⟨w.heap.size+1,q,none⟩=(cc ⟨6,cn,cp,ca,cb⟩)[q]?:=fun w' k=>(C0.out.keeps k).cells
 refine (HS.out.gF.aU cn eB.out (aa.refl _)).mono ?_
 rintro e w1 ⟨rfl,k1⟩
 go_upto_region 14 with fail
 have KY:aa Z (w1.alloc (.cells (tc t) 43)):=k1.alloc _
 have TB:Hid (aq (w1.alloc (.cells (tc t) 43)) w1.heap.size (tc t)):=aq.new _ _ _
 have AY:Hid (aQ w lo _ vs _ w.heap.size (w.heap.size+2) _ vs s):=A0.out.keeps KY
 have SY:Hid (aA _ _ s):=HS.out.keeps KY
 change Code.wp _ _ _ _ (w1.alloc (.cells (tc t) 43))
 generalize w1.alloc (.cells (tc t) 43)=Y at *
 generalize w1.heap.size=eC at *
 have nL:∀ w',aa Y w'->∀ q,w'.cell? ⟨w.heap.size,q,none⟩=_:=fun w' kk=>hb0 w' (KY.trans kk)
 have nM:∀ w',aa Y w'->∀ q,w'.cell? ⟨w.heap.size+1,q,none⟩=_:=fun w' kk=>hc0 w' (KY.trans kk)
 have nN:∀ w',aa Y w'->∀ q,w'.cell? ⟨eC,q,none⟩=(tc t)[q]?:=fun w' kk=>(TB.out.keeps kk).cells
 clear hb0 hc0 TC i9 A0 HS k1
 have HN:Hid (dv s ⟨6,cn,cp,ca,cb⟩=eH s t):=by show _=_;rw [gv];rfl
 have HC:Hid (ee s ⟨6,cn,cp,ca,cb⟩=fk s k t):=by show _=_;rw [gw];rfl
 clear gv gw
 have AP:=AY.out
 go_wp2_with (go_at_call 85;refine (Bl AY.out.g.var.own (Nat.le_trans hl (Nat.le_trans kZ.size KY.size)) R  HK.out).mono ?_;rintro e w6 ⟨s6,v6,eD,rfl,hs6,g6⟩;obtain ⟨⟨aZ,bd,bS⟩,⟨bg,bh,bT⟩,⟨bj,bk,bU⟩,⟨fa6,bm,bV⟩,⟨bn,bp,bW⟩⟩:=v6;obtain ⟨P6,D6,G6⟩:=AP.pass g6;obtain ⟨_,r1,r2⟩:=P6)
 change bodyPost _ _ _ _ _ (putC w6 (w.heap.size+2) 0 (ae (s6:Sy) ⟨⟨aZ,bd,bS⟩,⟨bg,bh,bT⟩,⟨bj,bk,bU⟩,⟨fa6,bm,bV⟩,⟨bn,bp,bW⟩⟩).toList)
 generalize putC w6 (w.heap.size+2) 0 (ae (s6:Sy) ⟨⟨aZ,bd,bS⟩,⟨bg,bh,bT⟩,⟨bj,bk,bU⟩,⟨fa6,bm,bV⟩,⟨bn,bp,bW⟩⟩).toList=Q at D6 G6 ⊢
 exact bodyPost_ret (v := .tuple #[.agg (ae (s6:Sy) ⟨⟨aZ,bd,bS⟩,⟨bg,bh,bT⟩,⟨bj,bk,bU⟩,⟨fa6,bm,bV⟩,⟨bn,bp,bW⟩⟩),.int .i64 (eH s t)]) (by simp [results,Tryz.results39,go_sem,D6.cells]) rfl (eQ.of HN.out (fun e=>by rw [HC.out];exact hs6 e) G6)
set_option linter.unusedSimpArgs false in
set_option maxHeartbeats 8000000 in
theorem Bm {w:World} {lo:Nat} {v:Sv} {vs:List Lv} {s:Sy} (h:ay w lo v vs s) (hl:lo <= w.heap.size) (R:cx s) (cn cp ca cb:Int) (hth:ct s.tasks cn=true) :
  Calls Tryz.prog 39 #[.agg (ae s v),ck ⟨7,cn,cp,ca,cb⟩] w (eQ w lo v vs (dv s ⟨7,cn,cp,ca,cb⟩) (ee s ⟨7,cn,cp,ca,cb⟩)):=by
 obtain ⟨⟨ta,tn,ag⟩,⟨la,ln,ah⟩,⟨ga,gn,ai⟩,⟨fa,fn,aj⟩,⟨ra,rn,ao⟩⟩:=v
 obtain ⟨k,ek,ht,fg⟩:=mj hth
 have eB:Hid (dc s.tasks cn=(k:Int)):=ek
 obtain ⟨t,ht⟩:=ht
 have eR:dB s.tasks cn=t:=fg t ht
 have gv:dv s ⟨7,cn,cp,ca,cb⟩=kS s ⟨7,cn,cp,ca,cb⟩ t:=by rw [ml (by rfl) (by rfl) hth,eR]
 have gw:ee s ⟨7,cn,cp,ca,cb⟩=kq s ⟨7,cn,cp,ca,cb⟩ k t:=by rw [mn (by rfl) (by rfl),ek,eR,Int.toNat_natCast]
 have hk:k < s.tasks.length:=cZ ht
 obtain ⟨tb,htb⟩:=h.aW hk
 dsimp only at htb
 subst htb
 have HK:Hid (s.tasks[k]?=some t):=ht
 have Hk:Hid (k < s.tasks.length):=hk
 have hkn:(k:Int) < (tn:Int):=by have:=(h.t.row cF).1;dsimp only at this;omega
 have T0:∀ w',aa w w'->∀ i,i < 14->w'.cell? ⟨tb,k*14+i,none⟩=(tc t)[i]?:=fun w' kk i hi=>(kk.cells tb _ (h.aG (i:=0) (b:=tb) rfl).2).trans ((h.aJ (rb:=tb) rfl ht).1 i hi)
 clear ek fg eR hth
 obtain ⟨dj,dx,kZ⟩:=et h hl ⟨7,cn,cp,ca,cb⟩
 have C0:Hid (aq _ (w.heap.size+1) (cc ⟨7,cn,cp,ca,cb⟩)):=dx
 have A0:Hid (aQ w lo _ vs _ w.heap.size (w.heap.size+2) _ vs s):=dj
 have HS:Hid (aA _ _ s):=(h.on (by have:=R.small;omega)).keeps kZ
 clear dj dx h
 have TC:∀ w',aa _ w'->∀ i,i < 14->w'.cell? ⟨tb,k*14+i,none⟩=(tc t)[i]?:=fun w' kk=>T0 w' (kZ.trans kk)
 have i9:∀ w',aa _ w'->w'.cell? ⟨tb,k*14,none⟩=some (.int .i64 t.no):=fun w' kk=>T0 w' (kZ.trans kk) 0 (by omega)
 clear T0
 go_enter Tryz.func39,Tryz.ntmps39
 go_wp2_with fail
 change Calls _ _ _ (cO w ⟨⟨some ⟨tb,0,none⟩,tn,ag⟩,⟨la,ln,ah⟩,⟨ga,gn,ai⟩,⟨fa,fn,aj⟩,⟨ra,rn,ao⟩⟩ s ⟨7,cn,cp,ca,cb⟩) _
 generalize cO w ⟨⟨some ⟨tb,0,none⟩,tn,ag⟩,⟨la,ln,ah⟩,⟨ga,gn,ai⟩,⟨fa,fn,aj⟩,⟨ra,rn,ao⟩⟩ s ⟨7,cn,cp,ca,cb⟩=Z at *
 have hb0:∀ w',aa Z w'->∀ q,w'.cell? ⟨w.heap.size,q,none⟩=(ae s ⟨⟨some ⟨tb,0,none⟩,tn,ag⟩,⟨la,ln,ah⟩,⟨ga,gn,ai⟩,⟨fa,fn,aj⟩,⟨ra,rn,ao⟩⟩)[q]?:=fun w' k=>(A0.out.g.var.box.keeps k).cells
 dsimp only [ae] at hb0
 have hc0:∀ w',aa Z w'->∀ q,w'.cell? ⟨w.heap.size+1,q,none⟩=(cc ⟨7,cn,cp,ca,cb⟩)[q]?:=fun w' k=>(C0.out.keeps k).cells
 refine (HS.out.gF.aU cn eB.out (aa.refl _)).mono ?_
 rintro e w1 ⟨rfl,k1⟩
 go_upto_region 14 with fail
 have KY:aa Z (w1.alloc (.cells (tc t) 43)):=k1.alloc _
 have TB:Hid (aq (w1.alloc (.cells (tc t) 43)) w1.heap.size (tc t)):=aq.new _ _ _
 have AY:Hid (aQ w lo _ vs _ w.heap.size (w.heap.size+2) _ vs s):=A0.out.keeps KY
 have SY:Hid (aA _ _ s):=HS.out.keeps KY
 change Code.wp _ _ _ _ (w1.alloc (.cells (tc t) 43))
 generalize w1.alloc (.cells (tc t) 43)=Y at *
 generalize w1.heap.size=eC at *
 have nL:∀ w',aa Y w'->∀ q,w'.cell? ⟨w.heap.size,q,none⟩=_:=fun w' kk=>hb0 w' (KY.trans kk)
 have nM:∀ w',aa Y w'->∀ q,w'.cell? ⟨w.heap.size+1,q,none⟩=_:=fun w' kk=>hc0 w' (KY.trans kk)
 have nN:∀ w',aa Y w'->∀ q,w'.cell? ⟨eC,q,none⟩=(tc t)[q]?:=fun w' kk=>(TB.out.keeps kk).cells
 clear hb0 hc0 TC i9 A0 HS k1
 have HN:Hid (dv s ⟨7,cn,cp,ca,cb⟩=jS s ⟨7,cn,cp,ca,cb⟩ t):=by show _=_;rw [gv];rfl
 have HC:Hid (ee s ⟨7,cn,cp,ca,cb⟩=sc s ⟨7,cn,cp,ca,cb⟩):=by show _=_;rw [gw];rfl
 clear gv gw
 have AP:=AY.out
 go_wp2_with (go_at_call 86;refine (Bn AY.out.g.var.own (Nat.le_trans hl (Nat.le_trans kZ.size KY.size)) R ⟨7,cn,cp,ca,cb⟩ HK.out).mono ?_;rintro e w6 ⟨s6,v6,eD,rfl,hs6,g6⟩;obtain ⟨⟨aZ,bd,bS⟩,⟨bg,bh,bT⟩,⟨bj,bk,bU⟩,⟨fa6,bm,bV⟩,⟨bn,bp,bW⟩⟩:=v6;obtain ⟨P6,D6,G6⟩:=AP.pass g6;obtain ⟨_,r1,r2⟩:=P6)
 change bodyPost _ _ _ _ _ (putC w6 (w.heap.size+2) 0 (ae (s6:Sy) ⟨⟨aZ,bd,bS⟩,⟨bg,bh,bT⟩,⟨bj,bk,bU⟩,⟨fa6,bm,bV⟩,⟨bn,bp,bW⟩⟩).toList)
 generalize putC w6 (w.heap.size+2) 0 (ae (s6:Sy) ⟨⟨aZ,bd,bS⟩,⟨bg,bh,bT⟩,⟨bj,bk,bU⟩,⟨fa6,bm,bV⟩,⟨bn,bp,bW⟩⟩).toList=Q at D6 G6 ⊢
 exact bodyPost_ret (v := .tuple #[.agg (ae (s6:Sy) ⟨⟨aZ,bd,bS⟩,⟨bg,bh,bT⟩,⟨bj,bk,bU⟩,⟨fa6,bm,bV⟩,⟨bn,bp,bW⟩⟩),.int .i64 (jS s ⟨7,cn,cp,ca,cb⟩ t)]) (by simp [results,Tryz.results39,go_sem,D6.cells]) rfl (eQ.of HN.out (fun e=>by rw [HC.out];exact hs6 e) G6)
set_option linter.unusedSimpArgs false in
set_option maxHeartbeats 8000000 in
theorem Bo {w:World} {lo:Nat} {v:Sv} {vs:List Lv} {s:Sy} (h:ay w lo v vs s) (hl:lo <= w.heap.size) (R:cx s) (cn cp ca cb:Int) (hth:ct s.tasks cn=true) :
  Calls Tryz.prog 39 #[.agg (ae s v),ck ⟨8,cn,cp,ca,cb⟩] w (eQ w lo v vs (dv s ⟨8,cn,cp,ca,cb⟩) (ee s ⟨8,cn,cp,ca,cb⟩)):=by
 obtain ⟨⟨ta,tn,ag⟩,⟨la,ln,ah⟩,⟨ga,gn,ai⟩,⟨fa,fn,aj⟩,⟨ra,rn,ao⟩⟩:=v
 obtain ⟨k,ek,ht,fg⟩:=mj hth
 have eB:Hid (dc s.tasks cn=(k:Int)):=ek
 obtain ⟨t,ht⟩:=ht
 have eR:dB s.tasks cn=t:=fg t ht
 have gv:dv s ⟨8,cn,cp,ca,cb⟩=kS s ⟨8,cn,cp,ca,cb⟩ t:=by rw [ml (by rfl) (by rfl) hth,eR]
 have gw:ee s ⟨8,cn,cp,ca,cb⟩=kq s ⟨8,cn,cp,ca,cb⟩ k t:=by rw [mn (by rfl) (by rfl),ek,eR,Int.toNat_natCast]
 have hk:k < s.tasks.length:=cZ ht
 obtain ⟨tb,htb⟩:=h.aW hk
 dsimp only at htb
 subst htb
 have HK:Hid (s.tasks[k]?=some t):=ht
 have Hk:Hid (k < s.tasks.length):=hk
 have hkn:(k:Int) < (tn:Int):=by have:=(h.t.row cF).1;dsimp only at this;omega
 have T0:∀ w',aa w w'->∀ i,i < 14->w'.cell? ⟨tb,k*14+i,none⟩=(tc t)[i]?:=fun w' kk i hi=>(kk.cells tb _ (h.aG (i:=0) (b:=tb) rfl).2).trans ((h.aJ (rb:=tb) rfl ht).1 i hi)
 clear ek fg eR hth
 obtain ⟨dj,dx,kZ⟩:=et h hl ⟨8,cn,cp,ca,cb⟩
 have C0:Hid (aq _ (w.heap.size+1) (cc ⟨8,cn,cp,ca,cb⟩)):=dx
 have A0:Hid (aQ w lo _ vs _ w.heap.size (w.heap.size+2) _ vs s):=dj
 have HS:Hid (aA _ _ s):=(h.on (by have:=R.small;omega)).keeps kZ
 clear dj dx h
 have TC:∀ w',aa _ w'->∀ i,i < 14->w'.cell? ⟨tb,k*14+i,none⟩=(tc t)[i]?:=fun w' kk=>T0 w' (kZ.trans kk)
 have i9:∀ w',aa _ w'->w'.cell? ⟨tb,k*14,none⟩=some (.int .i64 t.no):=fun w' kk=>T0 w' (kZ.trans kk) 0 (by omega)
 clear T0
 go_enter Tryz.func39,Tryz.ntmps39
 go_wp2_with fail
 change Calls _ _ _ (cO w ⟨⟨some ⟨tb,0,none⟩,tn,ag⟩,⟨la,ln,ah⟩,⟨ga,gn,ai⟩,⟨fa,fn,aj⟩,⟨ra,rn,ao⟩⟩ s ⟨8,cn,cp,ca,cb⟩) _
 generalize cO w ⟨⟨some ⟨tb,0,none⟩,tn,ag⟩,⟨la,ln,ah⟩,⟨ga,gn,ai⟩,⟨fa,fn,aj⟩,⟨ra,rn,ao⟩⟩ s ⟨8,cn,cp,ca,cb⟩=Z at *
 have hb0:∀ w',aa Z w'->∀ q,w'.cell? ⟨w.heap.size,q,none⟩=(ae s ⟨⟨some ⟨tb,0,none⟩,tn,ag⟩,⟨la,ln,ah⟩,⟨ga,gn,ai⟩,⟨fa,fn,aj⟩,⟨ra,rn,ao⟩⟩)[q]?:=fun w' k=>(A0.out.g.var.box.keeps k).cells
 dsimp only [ae] at hb0
 have hc0:∀ w',aa Z w'->∀ q,w'.cell? ⟨w.heap.size+1,q,none⟩=(cc ⟨8,cn,cp,ca,cb⟩)[q]?:=fun w' k=>(C0.out.keeps k).cells
 refine (HS.out.gF.aU cn eB.out (aa.refl _)).mono ?_
 rintro e w1 ⟨rfl,k1⟩
 go_upto_region 14 with fail
 have KY:aa Z (w1.alloc (.cells (tc t) 43)):=k1.alloc _
 have TB:Hid (aq (w1.alloc (.cells (tc t) 43)) w1.heap.size (tc t)):=aq.new _ _ _
 have AY:Hid (aQ w lo _ vs _ w.heap.size (w.heap.size+2) _ vs s):=A0.out.keeps KY
 have SY:Hid (aA _ _ s):=HS.out.keeps KY
 change Code.wp _ _ _ _ (w1.alloc (.cells (tc t) 43))
 generalize w1.alloc (.cells (tc t) 43)=Y at *
 generalize w1.heap.size=eC at *
 have nL:∀ w',aa Y w'->∀ q,w'.cell? ⟨w.heap.size,q,none⟩=_:=fun w' kk=>hb0 w' (KY.trans kk)
 have nM:∀ w',aa Y w'->∀ q,w'.cell? ⟨w.heap.size+1,q,none⟩=_:=fun w' kk=>hc0 w' (KY.trans kk)
 have nN:∀ w',aa Y w'->∀ q,w'.cell? ⟨eC,q,none⟩=(tc t)[q]?:=fun w' kk=>(TB.out.keeps kk).cells
 clear hb0 hc0 TC i9 A0 HS k1
 have HN:Hid (dv s ⟨8,cn,cp,ca,cb⟩=kr s ⟨8,cn,cp,ca,cb⟩ t):=by show _=_;rw [gv];rfl
 have HC:Hid (ee s ⟨8,cn,cp,ca,cb⟩=oU s ⟨8,cn,cp,ca,cb⟩):=by show _=_;rw [gw];rfl
 clear gv gw
 have AP:=AY.out
 go_wp2_with (go_at_call 87;refine (Bp AY.out.g.var.own (Nat.le_trans hl (Nat.le_trans kZ.size KY.size)) R ⟨8,cn,cp,ca,cb⟩ HK.out).mono ?_;rintro e w6 ⟨s6,v6,eD,rfl,hs6,g6⟩;obtain ⟨⟨aZ,bd,bS⟩,⟨bg,bh,bT⟩,⟨bj,bk,bU⟩,⟨fa6,bm,bV⟩,⟨bn,bp,bW⟩⟩:=v6;obtain ⟨P6,D6,G6⟩:=AP.pass g6;obtain ⟨_,r1,r2⟩:=P6)
 change bodyPost _ _ _ _ _ (putC w6 (w.heap.size+2) 0 (ae (s6:Sy) ⟨⟨aZ,bd,bS⟩,⟨bg,bh,bT⟩,⟨bj,bk,bU⟩,⟨fa6,bm,bV⟩,⟨bn,bp,bW⟩⟩).toList)
 generalize putC w6 (w.heap.size+2) 0 (ae (s6:Sy) ⟨⟨aZ,bd,bS⟩,⟨bg,bh,bT⟩,⟨bj,bk,bU⟩,⟨fa6,bm,bV⟩,⟨bn,bp,bW⟩⟩).toList=Q at D6 G6 ⊢
 exact bodyPost_ret (v := .tuple #[.agg (ae (s6:Sy) ⟨⟨aZ,bd,bS⟩,⟨bg,bh,bT⟩,⟨bj,bk,bU⟩,⟨fa6,bm,bV⟩,⟨bn,bp,bW⟩⟩),.int .i64 (kr s ⟨8,cn,cp,ca,cb⟩ t)]) (by simp [results,Tryz.results39,go_sem,D6.cells]) rfl (eQ.of HN.out (fun e=>by rw [HC.out];exact hs6 e) G6)
set_option linter.unusedSimpArgs false in
set_option maxHeartbeats 8000000 in
theorem Bq {w:World} {lo:Nat} {v:Sv} {vs:List Lv} {s:Sy} (h:ay w lo v vs s) (hl:lo <= w.heap.size) (R:cx s) (cn cp ca cb:Int) (hth:ct s.tasks cn=true) :
  Calls Tryz.prog 39 #[.agg (ae s v),ck ⟨10,cn,cp,ca,cb⟩] w (eQ w lo v vs (dv s ⟨10,cn,cp,ca,cb⟩) (ee s ⟨10,cn,cp,ca,cb⟩)):=by
 obtain ⟨⟨ta,tn,ag⟩,⟨la,ln,ah⟩,⟨ga,gn,ai⟩,⟨fa,fn,aj⟩,⟨ra,rn,ao⟩⟩:=v
 obtain ⟨k,ek,ht,fg⟩:=mj hth
 have eB:Hid (dc s.tasks cn=(k:Int)):=ek
 obtain ⟨t,ht⟩:=ht
 have eR:dB s.tasks cn=t:=fg t ht
 have gv:dv s ⟨10,cn,cp,ca,cb⟩=kS s ⟨10,cn,cp,ca,cb⟩ t:=by rw [ml (by rfl) (by rfl) hth,eR]
 have gw:ee s ⟨10,cn,cp,ca,cb⟩=kq s ⟨10,cn,cp,ca,cb⟩ k t:=by rw [mn (by rfl) (by rfl),ek,eR,Int.toNat_natCast]
 have hk:k < s.tasks.length:=cZ ht
 obtain ⟨tb,htb⟩:=h.aW hk
 dsimp only at htb
 subst htb
 have HK:Hid (s.tasks[k]?=some t):=ht
 have Hk:Hid (k < s.tasks.length):=hk
 have hkn:(k:Int) < (tn:Int):=by have:=(h.t.row cF).1;dsimp only at this;omega
 have T0:∀ w',aa w w'->∀ i,i < 14->w'.cell? ⟨tb,k*14+i,none⟩=(tc t)[i]?:=fun w' kk i hi=>(kk.cells tb _ (h.aG (i:=0) (b:=tb) rfl).2).trans ((h.aJ (rb:=tb) rfl ht).1 i hi)
 clear ek fg eR hth
 obtain ⟨dj,dx,kZ⟩:=et h hl ⟨10,cn,cp,ca,cb⟩
 have C0:Hid (aq _ (w.heap.size+1) (cc ⟨10,cn,cp,ca,cb⟩)):=dx
 have A0:Hid (aQ w lo _ vs _ w.heap.size (w.heap.size+2) _ vs s):=dj
 have HS:Hid (aA _ _ s):=(h.on (by have:=R.small;omega)).keeps kZ
 clear dj dx h
 have TC:∀ w',aa _ w'->∀ i,i < 14->w'.cell? ⟨tb,k*14+i,none⟩=(tc t)[i]?:=fun w' kk=>T0 w' (kZ.trans kk)
 have i9:∀ w',aa _ w'->w'.cell? ⟨tb,k*14,none⟩=some (.int .i64 t.no):=fun w' kk=>T0 w' (kZ.trans kk) 0 (by omega)
 clear T0
 go_enter Tryz.func39,Tryz.ntmps39
 go_wp2_with fail
 change Calls _ _ _ (cO w ⟨⟨some ⟨tb,0,none⟩,tn,ag⟩,⟨la,ln,ah⟩,⟨ga,gn,ai⟩,⟨fa,fn,aj⟩,⟨ra,rn,ao⟩⟩ s ⟨10,cn,cp,ca,cb⟩) _
 generalize cO w ⟨⟨some ⟨tb,0,none⟩,tn,ag⟩,⟨la,ln,ah⟩,⟨ga,gn,ai⟩,⟨fa,fn,aj⟩,⟨ra,rn,ao⟩⟩ s ⟨10,cn,cp,ca,cb⟩=Z at *
 have hb0:∀ w',aa Z w'->∀ q,w'.cell? ⟨w.heap.size,q,none⟩=(ae s ⟨⟨some ⟨tb,0,none⟩,tn,ag⟩,⟨la,ln,ah⟩,⟨ga,gn,ai⟩,⟨fa,fn,aj⟩,⟨ra,rn,ao⟩⟩)[q]?:=fun w' k=>(A0.out.g.var.box.keeps k).cells
 dsimp only [ae] at hb0
 have hc0:∀ w',aa Z w'->∀ q,w'.cell? ⟨w.heap.size+1,q,none⟩=(cc ⟨10,cn,cp,ca,cb⟩)[q]?:=fun w' k=>(C0.out.keeps k).cells
 refine (HS.out.gF.aU cn eB.out (aa.refl _)).mono ?_
 rintro e w1 ⟨rfl,k1⟩
 go_upto_region 14 with fail
 have KY:aa Z (w1.alloc (.cells (tc t) 43)):=k1.alloc _
 have TB:Hid (aq (w1.alloc (.cells (tc t) 43)) w1.heap.size (tc t)):=aq.new _ _ _
 have AY:Hid (aQ w lo _ vs _ w.heap.size (w.heap.size+2) _ vs s):=A0.out.keeps KY
 have SY:Hid (aA _ _ s):=HS.out.keeps KY
 change Code.wp _ _ _ _ (w1.alloc (.cells (tc t) 43))
 generalize w1.alloc (.cells (tc t) 43)=Y at *
 generalize w1.heap.size=eC at *
 have nL:∀ w',aa Y w'->∀ q,w'.cell? ⟨w.heap.size,q,none⟩=_:=fun w' kk=>hb0 w' (KY.trans kk)
 have nM:∀ w',aa Y w'->∀ q,w'.cell? ⟨w.heap.size+1,q,none⟩=_:=fun w' kk=>hc0 w' (KY.trans kk)
 have nN:∀ w',aa Y w'->∀ q,w'.cell? ⟨eC,q,none⟩=(tc t)[q]?:=fun w' kk=>(TB.out.keeps kk).cells
 clear hb0 hc0 TC i9 A0 HS k1
 have HN:Hid (dv s ⟨10,cn,cp,ca,cb⟩=kT s ⟨10,cn,cp,ca,cb⟩ t):=by show _=_;rw [gv];rfl
 have HC:Hid (ee s ⟨10,cn,cp,ca,cb⟩=oV s ⟨10,cn,cp,ca,cb⟩ k t):=by show _=_;rw [gw];rfl
 clear gv gw
 have AP:=AY.out
 go_wp2_with (go_at_call 89;refine (Br AY.out.g.var.own (Nat.le_trans hl (Nat.le_trans kZ.size KY.size)) R ⟨10,cn,cp,ca,cb⟩ HK.out).mono ?_;rintro e w6 ⟨s6,v6,eD,rfl,hs6,g6⟩;obtain ⟨⟨aZ,bd,bS⟩,⟨bg,bh,bT⟩,⟨bj,bk,bU⟩,⟨fa6,bm,bV⟩,⟨bn,bp,bW⟩⟩:=v6;obtain ⟨P6,D6,G6⟩:=AP.pass g6;obtain ⟨_,r1,r2⟩:=P6)
 change bodyPost _ _ _ _ _ (putC w6 (w.heap.size+2) 0 (ae (s6:Sy) ⟨⟨aZ,bd,bS⟩,⟨bg,bh,bT⟩,⟨bj,bk,bU⟩,⟨fa6,bm,bV⟩,⟨bn,bp,bW⟩⟩).toList)
 generalize putC w6 (w.heap.size+2) 0 (ae (s6:Sy) ⟨⟨aZ,bd,bS⟩,⟨bg,bh,bT⟩,⟨bj,bk,bU⟩,⟨fa6,bm,bV⟩,⟨bn,bp,bW⟩⟩).toList=Q at D6 G6 ⊢
 exact bodyPost_ret (v := .tuple #[.agg (ae (s6:Sy) ⟨⟨aZ,bd,bS⟩,⟨bg,bh,bT⟩,⟨bj,bk,bU⟩,⟨fa6,bm,bV⟩,⟨bn,bp,bW⟩⟩),.int .i64 (kT s ⟨10,cn,cp,ca,cb⟩ t)]) (by simp [results,Tryz.results39,go_sem,D6.cells]) rfl (eQ.of HN.out (fun e=>by rw [HC.out];exact hs6 e) G6)
end Go.Proofs.YteagpjlgjfaclaaGreatDoor
