/-
  Calls: what is done of a right call: tasks that are made, t
  Calls: the model's l11Do and SysCall.
-/
import Derived.Test.YteagpjlgjfaclaaGreatDoorDraw1
import Derived.Test.YteagpjlgjfaclaaGreatDoorCallNew
import Derived.Test.YteagpjlgjfaclaaGreatDoorSysTick
import Derived.Test.YteagpjlgjfaclaaGreatDoorCallExit
import Derived.Test.YteagpjlgjfaclaaGreatDoorCallDo3
import Derived.Test.YteagpjlgjfaclaaGreatDoorImplLockB
import Derived.Test.YteagpjlgjfaclaaGreatDoorSysLocks
import Derived.Test.YteagpjlgjfaclaaGreatDoorSysCopy
import Derived.Deep.Cut
namespace Go.Proofs.YteagpjlgjfaclaaGreatDoor
set_option maxRecDepth 100000
open Go.RowKit
attribute [local go_sem] Keeps.refl Keeps.alloc Keeps.drew Keeps.drewN
set_option linter.unusedSimpArgs false in
set_option maxHeartbeats 8000000 in
theorem qhY {w:World} {lo:Nat} {v:Sv} {vs:List Lv} {s:Sy} (h:OwnS w lo v vs s) (hl:lo <= w.heap.size) (R:SysR s) (c:Cl) (h3:c.kind <= 3) :
  Calls Tryz.prog 39 #[.agg (syc s v),ck c] w (Did w lo v vs (doN s c) (doC s c)):=by
 obtain ⟨⟨ta,tn,tcap⟩,⟨la,ln,lcap⟩,⟨ga,gn,gcap⟩,⟨fa,fn,fcap⟩,⟨ra,rn,rcap⟩⟩:=v
 have HN:Hid (doN s c=newN s c):=by show _=_;unfold doN;rw [if_pos h3]
 have HC:Hid (doC s c=newC s c):=by show _=_;unfold doC;rw [if_pos h3]
 have hd3:decide (c.kind <= 3)=true:=by simpa using h3
 obtain ⟨A0',C0',kZ⟩:=ask3 h hl c
 have C0:Hid (Blk _ (w.heap.size+1) (cc c)):=C0'
 have A0:Hid (AskR w lo _ vs _ w.heap.size (w.heap.size+2) _ vs s):=A0'
 have HS:Hid (SysOn _ _ s):=(h.on (by have:=R.small;omega)).keeps kZ
 clear A0' C0' h
 go_enter Tryz.func39,Tryz.ntmps39
 go_upto_region 2 with fail
 change Code.wp _ _ _ _ (qat w ⟨⟨ta,tn,tcap⟩,⟨la,ln,lcap⟩,⟨ga,gn,gcap⟩,⟨fa,fn,fcap⟩,⟨ra,rn,rcap⟩⟩ s c)
 generalize qat w ⟨⟨ta,tn,tcap⟩,⟨la,ln,lcap⟩,⟨ga,gn,gcap⟩,⟨fa,fn,fcap⟩,⟨ra,rn,rcap⟩⟩ s c=Z at *
 have hb0:∀ w',Keeps Z w'->∀ q,w'.cell? ⟨w.heap.size,q,none⟩=(syc s ⟨⟨ta,tn,tcap⟩,⟨la,ln,lcap⟩,⟨ga,gn,gcap⟩,⟨fa,fn,fcap⟩,⟨ra,rn,rcap⟩⟩)[q]?:=fun w' k=>(A0.out.g.var.box.keeps k).cells
 dsimp only [syc] at hb0
 have hc0:∀ w',Keeps Z w'->∀ q,w'.cell? ⟨w.heap.size+1,q,none⟩=(cc c)[q]?:=fun w' k=>(C0.out.keeps k).cells
 have AP:=A0.out
 go_wp2_with (go_at_call 82;refine (qio A0.out.g.var.own (Nat.le_trans hl kZ.size) R c).mono ?_;rintro e w6 ⟨s6,v6,vs6,rfl,hs6,g6⟩;obtain ⟨⟨ta6,tn6,tc6⟩,⟨la6,ln6,lc6⟩,⟨ga6,gn6,gc6⟩,⟨fa6,fn6,fc6⟩,⟨ra6,rn6,rc6⟩⟩:=v6;obtain ⟨P6,D6,G6⟩:=AP.pass g6;obtain ⟨_,r1,r2⟩:=P6)
 change bodyPost _ _ _ _ _ (putC w6 (w.heap.size+2) 0 (syc (s6:Sy) ⟨⟨ta6,tn6,tc6⟩,⟨la6,ln6,lc6⟩,⟨ga6,gn6,gc6⟩,⟨fa6,fn6,fc6⟩,⟨ra6,rn6,rc6⟩⟩).toList)
 generalize putC w6 (w.heap.size+2) 0 (syc (s6:Sy) ⟨⟨ta6,tn6,tc6⟩,⟨la6,ln6,lc6⟩,⟨ga6,gn6,gc6⟩,⟨fa6,fn6,fc6⟩,⟨ra6,rn6,rc6⟩⟩).toList=Q at D6 G6 ⊢
 exact bodyPost_ret (v := .tuple #[.agg (syc (s6:Sy) ⟨⟨ta6,tn6,tc6⟩,⟨la6,ln6,lc6⟩,⟨ga6,gn6,gc6⟩,⟨fa6,fn6,fc6⟩,⟨ra6,rn6,rc6⟩⟩),.int .i64 (newN s c)]) (by simp [results,Tryz.results39,go_sem,D6.cells]) rfl (Did.of HN.out (fun e=>by rw [HC.out];exact hs6 e) G6)
set_option linter.unusedSimpArgs false in
set_option maxHeartbeats 8000000 in
theorem qhZ {w:World} {lo:Nat} {v:Sv} {vs:List Lv} {s:Sy} (h:OwnS w lo v vs s) (hl:lo <= w.heap.size) (R:SysR s) (c:Cl) (h4:decide (c.kind <= 3)=false) (h11:(c.kind==11)=false) (hth:qak s.tasks c.no=false) :
  Calls Tryz.prog 39 #[.agg (syc s v),ck c] w (Did w lo v vs (doN s c) (doC s c)):=by
 obtain ⟨⟨ta,tn,tcap⟩,⟨la,ln,lcap⟩,⟨ga,gn,gcap⟩,⟨fa,fn,fcap⟩,⟨ra,rn,rcap⟩⟩:=v
 have HN:Hid (doN s c=2):=qhX h4 h11 hth
 obtain ⟨pa,Hpa⟩:∃ z,Hid (qau s.tasks c.no=z):=⟨_,rfl⟩
 have hpa:pa < 0:=by unfold qak at hth;rw [Hpa.out] at hth;simpa using hth
 obtain ⟨A0',C0',kZ⟩:=ask3 h hl c
 have C0:Hid (Blk _ (w.heap.size+1) (cc c)):=C0'
 have A0:Hid (AskR w lo _ vs _ w.heap.size (w.heap.size+2) _ vs s):=A0'
 have HS:Hid (SysOn _ _ s):=(h.on (by have:=R.small;omega)).keeps kZ
 clear A0' C0' h
 go_enter Tryz.func39,Tryz.ntmps39
 go_wp2_with fail
 change Calls _ _ _ (qat w ⟨⟨ta,tn,tcap⟩,⟨la,ln,lcap⟩,⟨ga,gn,gcap⟩,⟨fa,fn,fcap⟩,⟨ra,rn,rcap⟩⟩ s c) _
 generalize qat w ⟨⟨ta,tn,tcap⟩,⟨la,ln,lcap⟩,⟨ga,gn,gcap⟩,⟨fa,fn,fcap⟩,⟨ra,rn,rcap⟩⟩ s c=Z at *
 have hb0:∀ w',Keeps Z w'->∀ q,w'.cell? ⟨w.heap.size,q,none⟩=(syc s ⟨⟨ta,tn,tcap⟩,⟨la,ln,lcap⟩,⟨ga,gn,gcap⟩,⟨fa,fn,fcap⟩,⟨ra,rn,rcap⟩⟩)[q]?:=fun w' k=>(A0.out.g.var.box.keeps k).cells
 dsimp only [syc] at hb0
 have hc0:∀ w',Keeps Z w'->∀ q,w'.cell? ⟨w.heap.size+1,q,none⟩=(cc c)[q]?:=fun w' k=>(C0.out.keeps k).cells
 refine (HS.out.onT.sTaskAt c.no Hpa.out (Keeps.refl _)).mono ?_
 rintro e w1 ⟨rfl,k1⟩
 have AE:=A0.out.keeps k1
 obtain ⟨_,o1,o2⟩:=AE.g.var.box
 dsimp only [syc] at o1
 obtain ⟨_,r1,r2⟩:=AE.r
 go_wp2
 exact AE.ret HN.out (fun h=>absurd h (by decide)) rfl (fun Q D=>by simp [results,Tryz.results39,go_sem,D])
set_option linter.unusedSimpArgs false in
set_option maxHeartbeats 8000000 in
theorem qh0 {w:World} {lo:Nat} {v:Sv} {vs:List Lv} {s:Sy} (h:OwnS w lo v vs s) (hl:lo <= w.heap.size) (R:SysR s) (cn cp ca cb:Int) :
  Calls Tryz.prog 39 #[.agg (syc s v),ck ⟨11,cn,cp,ca,cb⟩] w (Did w lo v vs (doN s ⟨11,cn,cp,ca,cb⟩) (doC s ⟨11,cn,cp,ca,cb⟩)):=by
 obtain ⟨⟨ta,tn,tcap⟩,⟨la,ln,lcap⟩,⟨ga,gn,gcap⟩,⟨fa,fn,fcap⟩,⟨ra,rn,rcap⟩⟩:=v
 obtain ⟨tn2,Htn⟩:∃ z,Hid (qcT s ca=z):=⟨_,rfl⟩
 obtain ⟨ts2,Hts⟩:∃ z,Hid (qcA s ca=z):=⟨_,rfl⟩
 have hsb:=qcP.2 R
 have HN0:Hid (doN s ⟨11,cn,cp,ca,cb⟩=if !inB ca 1 50 then 1 else if tn2 < ca then 4 else 0):=by
  show _=_
  rw [<- Htn.out]
  unfold doN qcT
  rw [hsb]
  rfl
 have HC0:Hid (doC s ⟨11,cn,cp,ca,cb⟩=ts2):=by
  show _=_
  rw [<- Hts.out]
  unfold doC qcA
  rw [hsb]
  rfl
 obtain ⟨A0',C0',kZ⟩:=ask3 h hl ⟨11,cn,cp,ca,cb⟩
 have C0:Hid (Blk _ (w.heap.size+1) (cc ⟨11,cn,cp,ca,cb⟩)):=C0'
 have A0:Hid (AskR w lo _ vs _ w.heap.size (w.heap.size+2) _ vs s):=A0'
 have HS:Hid (SysOn _ _ s):=(h.on (by have:=R.small;omega)).keeps kZ
 clear A0' C0' h
 go_enter Tryz.func39,Tryz.ntmps39
 go_wp2_with fail
 change Calls _ _ _ (qat w ⟨⟨ta,tn,tcap⟩,⟨la,ln,lcap⟩,⟨ga,gn,gcap⟩,⟨fa,fn,fcap⟩,⟨ra,rn,rcap⟩⟩ s ⟨11,cn,cp,ca,cb⟩) _
 generalize qat w ⟨⟨ta,tn,tcap⟩,⟨la,ln,lcap⟩,⟨ga,gn,gcap⟩,⟨fa,fn,fcap⟩,⟨ra,rn,rcap⟩⟩ s ⟨11,cn,cp,ca,cb⟩=Z at *
 have hb0:∀ w',Keeps Z w'->∀ q,w'.cell? ⟨w.heap.size,q,none⟩=(syc s ⟨⟨ta,tn,tcap⟩,⟨la,ln,lcap⟩,⟨ga,gn,gcap⟩,⟨fa,fn,fcap⟩,⟨ra,rn,rcap⟩⟩)[q]?:=fun w' k=>(A0.out.g.var.box.keeps k).cells
 dsimp only [syc] at hb0
 have hc0:∀ w',Keeps Z w'->∀ q,w'.cell? ⟨w.heap.size+1,q,none⟩=(cc ⟨11,cn,cp,ca,cb⟩)[q]?:=fun w' k=>(C0.out.keeps k).cells
 refine (qag _ _ _ _).mono ?_
 rintro e w' ⟨rfl,hw'⟩
 have hw2:=hw'.symm
 subst hw2
 cases c1:inB ca 1 50
 ·have HN:Hid (doN s ⟨11,cn,cp,ca,cb⟩=1):=by show _=_;rw [HN0.out,c1];rfl
  have AE:=A0.out
  obtain ⟨_,o1,o2⟩:=AE.g.var.box
  dsimp only [syc] at o1
  obtain ⟨_,r1,r2⟩:=AE.r
  go_wp2
  exact AE.ret HN.out (fun h=>absurd h (by decide)) rfl (fun Q D=>by simp [results,Tryz.results39,go_sem,D])
 have ST:Hid (Calls Tryz.prog 83 #[.agg (syc s ⟨⟨ta,tn,tcap⟩,⟨la,ln,lcap⟩,⟨ga,gn,gcap⟩,⟨fa,fn,fcap⟩,⟨ra,rn,rcap⟩⟩),.int .i64 ca] Z fun e w'=>∃ v' vs',e = .returned (.tuple #[.agg (syc ts2 v'),.int .i64 tn2]) /\ OwnS w' Z.heap.size v' vs' ts2 /\ Keeps Z w'):=by
  have:=qmo HS.out ca
  rw [Htn.out,Hts.out] at this
  exact this
 go_upto_region 7 with (go_at_call 83;refine ST.out.mono ?_;rintro e w6 ⟨v6,vs6,rfl,o6,k6⟩;obtain ⟨⟨ta6,tn6,tc6⟩,⟨la6,ln6,lc6⟩,⟨ga6,gn6,gc6⟩,⟨fa6,fn6,fc6⟩,⟨ra6,rn6,rc6⟩⟩:=v6)
 have K7:Keeps Z (w6.alloc (.cells (syc (ts2:Sy) ⟨⟨ta6,tn6,tc6⟩,⟨la6,ln6,lc6⟩,⟨ga6,gn6,gc6⟩,⟨fa6,fn6,fc6⟩,⟨ra6,rn6,rc6⟩⟩) 30)):=k6.alloc _
 have B7:Hid (Blk (w6.alloc (.cells (syc (ts2:Sy) ⟨⟨ta6,tn6,tc6⟩,⟨la6,ln6,lc6⟩,⟨ga6,gn6,gc6⟩,⟨fa6,fn6,fc6⟩,⟨ra6,rn6,rc6⟩⟩) 30)) w6.heap.size (syc (ts2:Sy) ⟨⟨ta6,tn6,tc6⟩,⟨la6,ln6,lc6⟩,⟨ga6,gn6,gc6⟩,⟨fa6,fn6,fc6⟩,⟨ra6,rn6,rc6⟩⟩)):=Blk.new _ _ _
 have O7:Hid (OwnS (w6.alloc (.cells (syc (ts2:Sy) ⟨⟨ta6,tn6,tc6⟩,⟨la6,ln6,lc6⟩,⟨ga6,gn6,gc6⟩,⟨fa6,fn6,fc6⟩,⟨ra6,rn6,rc6⟩⟩) 30)) Z.heap.size ⟨⟨ta6,tn6,tc6⟩,⟨la6,ln6,lc6⟩,⟨ga6,gn6,gc6⟩,⟨fa6,fn6,fc6⟩,⟨ra6,rn6,rc6⟩⟩ vs6 ts2):=o6.keeps ((Keeps.refl _).alloc _)
 change Code.wp _ _ _ _ (w6.alloc (.cells (syc (ts2:Sy) ⟨⟨ta6,tn6,tc6⟩,⟨la6,ln6,lc6⟩,⟨ga6,gn6,gc6⟩,⟨fa6,fn6,fc6⟩,⟨ra6,rn6,rc6⟩⟩) 30))
 clear o6 k6
 generalize w6.alloc (.cells (syc (ts2:Sy) ⟨⟨ta6,tn6,tc6⟩,⟨la6,ln6,lc6⟩,⟨ga6,gn6,gc6⟩,⟨fa6,fn6,fc6⟩,⟨ra6,rn6,rc6⟩⟩) 30)=X at *
 generalize w6.heap.size=tob at *
 cases c2:decide (tn2 < ca)
 rotate_left
 ·have c2':tn2 < ca:=of_decide_eq_true c2
  have HN:Hid (doN s ⟨11,cn,cp,ca,cb⟩=4):=by show _=_;rw [HN0.out,c1];simp [c2']
  have AE:=A0.out.keeps K7
  obtain ⟨_,o1,o2⟩:=AE.g.var.box
  dsimp only [syc] at o1
  obtain ⟨_,r1,r2⟩:=AE.r
  go_wp2
  exact AE.ret HN.out (fun h=>absurd h (by decide)) rfl (fun Q D=>by simp [results,Tryz.results39,go_sem,D])
 have c2':¬ tn2 < ca:=of_decide_eq_false c2
 have HN:Hid (doN s ⟨11,cn,cp,ca,cb⟩=0):=by show _=_;rw [HN0.out,c1];simp [c2']
 have GF:Goes Z lo ⟨⟨ta,tn,tcap⟩,⟨la,ln,lcap⟩,⟨ga,gn,gcap⟩,⟨fa,fn,fcap⟩,⟨ra,rn,rcap⟩⟩ vs X ⟨⟨ta6,tn6,tc6⟩,⟨la6,ln6,lc6⟩,⟨ga6,gn6,gc6⟩,⟨fa6,fn6,fc6⟩,⟨ra6,rn6,rc6⟩⟩ vs6 ts2:=Goes.fresh O7.out K7 (Nat.le_trans hl kZ.size)
 obtain ⟨P6,D6,G6⟩:=A0.out.pass GF
 obtain ⟨_,r1,r2⟩:=P6
 obtain ⟨_,b1,b2⟩:=B7.out
 dsimp only [syc] at b1
 go_wp2
 change bodyPost _ _ _ _ _ (putC X (w.heap.size+2) 0 (syc (ts2:Sy) ⟨⟨ta6,tn6,tc6⟩,⟨la6,ln6,lc6⟩,⟨ga6,gn6,gc6⟩,⟨fa6,fn6,fc6⟩,⟨ra6,rn6,rc6⟩⟩).toList)
 generalize putC X (w.heap.size+2) 0 (syc (ts2:Sy) ⟨⟨ta6,tn6,tc6⟩,⟨la6,ln6,lc6⟩,⟨ga6,gn6,gc6⟩,⟨fa6,fn6,fc6⟩,⟨ra6,rn6,rc6⟩⟩).toList=Q at D6 G6 ⊢
 exact bodyPost_ret (v := .tuple #[.agg (syc (ts2:Sy) ⟨⟨ta6,tn6,tc6⟩,⟨la6,ln6,lc6⟩,⟨ga6,gn6,gc6⟩,⟨fa6,fn6,fc6⟩,⟨ra6,rn6,rc6⟩⟩),.int .i64 0]) (by simp [results,Tryz.results39,go_sem,D6.cells]) rfl (Did.of HN.out (fun _=>HC0.out.symm) G6)
end Go.Proofs.YteagpjlgjfaclaaGreatDoor
namespace Go.Proofs.YteagpjlgjfaclaaGreatDoor
set_option maxRecDepth 100000
open Go.RowKit
attribute [local go_sem] Keeps.refl Keeps.alloc Keeps.drew Keeps.drewN
theorem qiv {w:World} {lo:Nat} {v:Sv} {vs:List Lv} {s:Sy} (h:OwnS w lo v vs s) (hl:lo <= w.heap.size) (R:SysR s) (c:Cl) (hc:inB c.kind 1 11=true):Calls Tryz.prog 39 #[.agg (syc s v),ck c] w (Did w lo v vs (doN s c) (doC s c)):=by
 obtain ⟨h1,h2⟩:=qas.1 hc
 by_cases h3:c.kind <= 3
 ·exact qhY h hl R c h3
 obtain ⟨kd,cn,cp,ca,cb⟩:=c
 dsimp only at h1 h2 h3
 by_cases h11:kd=11
 ·subst h11;exact qh0 h hl R cn cp ca cb
 cases hth:qak s.tasks cn
 ·exact qhZ h hl R _ (by simpa using h3) (by simpa using h11) hth
 have:kd=4∨kd=5∨kd=6∨kd=7∨kd=8∨kd=9∨kd=10:=by omega
 rcases this with rfl | rfl | rfl | rfl | rfl | rfl | rfl
 ·exact qh1 h hl R cn cp ca cb hth
 ·exact qh2 h hl R cn cp ca cb hth
 ·exact qh4 h hl R cn cp ca cb hth
 ·exact qh5 h hl R cn cp ca cb hth
 ·exact qh6 h hl R cn cp ca cb hth
 ·exact qh3 h hl R cn cp ca cb hth
 ·exact qh7 h hl R cn cp ca cb hth
def Told (w:World) (s':Sy) (n:Int) (e:Ending) (w':World):Prop:=∃ v' vs',e = .returned (.tuple #[.agg (syc s' v'),.int .i64 n]) /\ OwnS w' w.heap.size v' vs' s' /\ Keeps w w'
theorem Told.of {w w':World} {s s':Sy} {n m:Int} {v':Sv} {vs':List Lv} (hn:n=m) (hs:s=s') (O:OwnS w' w.heap.size v' vs' s') (K:Keeps w w'):Told w s n (.returned (.tuple #[.agg (syc s' v'),.int .i64 m])) w':=by
 subst hn hs
 exact ⟨v',vs',rfl,O,K⟩
set_option linter.unusedSimpArgs false in
set_option maxHeartbeats 20000000 in
theorem qiw {w:World} {v:Sv} {s:Sy} (h:SysOn w v s) (c:Cl) :
  Calls Tryz.prog 12 #[.agg (syc s v),ck c] w (Told w (qaO s c) (qaS s c)):=by
 obtain ⟨⟨ta,tn,tcap⟩,⟨la,ln,lcap⟩,⟨ga,gn,gcap⟩,⟨fa,fn,fcap⟩,⟨ra,rn,rcap⟩⟩:=v
 have kZ:Keeps w (qat w ⟨⟨ta,tn,tcap⟩,⟨la,ln,lcap⟩,⟨ga,gn,gcap⟩,⟨fa,fn,fcap⟩,⟨ra,rn,rcap⟩⟩ s c):=(((Keeps.refl w).alloc _).alloc _).alloc _
 have B0:Hid (Blk (qat w ⟨⟨ta,tn,tcap⟩,⟨la,ln,lcap⟩,⟨ga,gn,gcap⟩,⟨fa,fn,fcap⟩,⟨ra,rn,rcap⟩⟩ s c) w.heap.size (syc s ⟨⟨ta,tn,tcap⟩,⟨la,ln,lcap⟩,⟨ga,gn,gcap⟩,⟨fa,fn,fcap⟩,⟨ra,rn,rcap⟩⟩)):=((Blk.new _ _ _).alloc _).alloc _
 have C0:Hid (Blk (qat w ⟨⟨ta,tn,tcap⟩,⟨la,ln,lcap⟩,⟨ga,gn,gcap⟩,⟨fa,fn,fcap⟩,⟨ra,rn,rcap⟩⟩ s c) (w.heap.size+1) (cc c)):=by
  have:=(Blk.new (w.alloc (.cells (syc s ⟨⟨ta,tn,tcap⟩,⟨la,ln,lcap⟩,⟨ga,gn,gcap⟩,⟨fa,fn,fcap⟩,⟨ra,rn,rcap⟩⟩) 30)) (cc c) 32).alloc (.cells zc 30)
  show Blk _ _ _
  simpa using this
 have R0:Hid (Blk (qat w ⟨⟨ta,tn,tcap⟩,⟨la,ln,lcap⟩,⟨ga,gn,gcap⟩,⟨fa,fn,fcap⟩,⟨ra,rn,rcap⟩⟩ s c) (w.heap.size+2) zc):=by
  have:=Blk.new ((w.alloc (.cells (syc s ⟨⟨ta,tn,tcap⟩,⟨la,ln,lcap⟩,⟨ga,gn,gcap⟩,⟨fa,fn,fcap⟩,⟨ra,rn,rcap⟩⟩) 30)).alloc (.cells (cc c) 32)) zc 30
  show Blk _ _ _
  simpa using this
 have hz:Hid ((qat w ⟨⟨ta,tn,tcap⟩,⟨la,ln,lcap⟩,⟨ga,gn,gcap⟩,⟨fa,fn,fcap⟩,⟨ra,rn,rcap⟩⟩ s c).heap.size=w.heap.size+3):=by show _=_;simp
 have HS:Hid (SysOn (qat w ⟨⟨ta,tn,tcap⟩,⟨la,ln,lcap⟩,⟨ga,gn,gcap⟩,⟨fa,fn,fcap⟩,⟨ra,rn,rcap⟩⟩ s c) ⟨⟨ta,tn,tcap⟩,⟨la,ln,lcap⟩,⟨ga,gn,gcap⟩,⟨fa,fn,fcap⟩,⟨ra,rn,rcap⟩⟩ s):=h.keeps kZ
 clear h
 go_enter Tryz.func12,Tryz.ntmps12
 go_wp2_with fail
 change Calls _ _ _ (qat w ⟨⟨ta,tn,tcap⟩,⟨la,ln,lcap⟩,⟨ga,gn,gcap⟩,⟨fa,fn,fcap⟩,⟨ra,rn,rcap⟩⟩ s c) _
 generalize qat w ⟨⟨ta,tn,tcap⟩,⟨la,ln,lcap⟩,⟨ga,gn,gcap⟩,⟨fa,fn,fcap⟩,⟨ra,rn,rcap⟩⟩ s c=Z at *
 have hb0:∀ w',Keeps Z w'->∀ q,w'.cell? ⟨w.heap.size,q,none⟩=(syc s ⟨⟨ta,tn,tcap⟩,⟨la,ln,lcap⟩,⟨ga,gn,gcap⟩,⟨fa,fn,fcap⟩,⟨ra,rn,rcap⟩⟩)[q]?:=fun w' k=>(B0.out.keeps k).cells
 dsimp only [syc] at hb0
 have hc0:∀ w',Keeps Z w'->∀ q,w'.cell? ⟨w.heap.size+1,q,none⟩=(cc c)[q]?:=fun w' k=>(C0.out.keeps k).cells
 refine (qeM HS.out).mono ?_
 rintro e w1 ⟨rfl,k1⟩
 cases hb:sysB s
 ·have HN:Hid (qaS s c=1):=by show _=_;unfold qaS;rw [hb];rfl
  have HC:Hid (qaO s c=Sy.zero):=by show _=_;unfold qaO;rw [hb];rfl
  obtain ⟨_,r1,r2⟩:=R0.out.keeps k1
  go_wp2
  have D:=(R0.out.keeps k1).putC zc.toList rfl
  have KQ:=Keeps.putC (b:=w.heap.size+2) (by omega) zc.toList 0 (kZ.trans k1)
  change bodyPost _ _ _ _ _ (putC w1 (w.heap.size+2) 0 zc.toList)
  generalize putC w1 (w.heap.size+2) 0 zc.toList=Q at D KQ ⊢
  exact bodyPost_ret (v := .tuple #[.agg zc,.int .i64 1]) (by simp [results,Tryz.results12,go_sem,D.cells]) rfl (Told.of (v':=Sv.zero) (vs':=[]) HN.out HC.out (OwnS.nothing _ _) KQ)
 have R:=qcP.1 hb
 have HR:Hid (SysR s):=R
 clear R
 obtain ⟨cbv,Hcb⟩:∃ z,Hid (qaC c=z):=⟨_,rfl⟩
 have CO:Hid (∀ w',Calls Tryz.prog 38 #[ck c] w' fun e w''=>e = .returned (.bool cbv) /\ Keeps w' w''):=fun w'=>by
  have:=qij c w'
  rw [Hcb.out] at this
  exact this
 cases cbv
 ·have HN:Hid (qaS s c=1):=by show _=_;unfold qaS;rw [hb,Hcb.out];rfl
  have HC:Hid (qaO s c=Sy.zero):=by show _=_;unfold qaO;rw [hb,Hcb.out];rfl
  go_wp2_with (go_at_call 38;refine (CO.out _).mono ?_;rintro e w2 ⟨rfl,k2⟩;obtain ⟨_,r1,r2⟩:=R0.out.keeps (k1.trans k2))
  have D:=(R0.out.keeps (k1.trans k2)).putC zc.toList rfl
  have KQ:=Keeps.putC (b:=w.heap.size+2) (by omega) zc.toList 0 (kZ.trans (k1.trans k2))
  change bodyPost _ _ _ _ _ (putC w2 (w.heap.size+2) 0 zc.toList)
  generalize putC w2 (w.heap.size+2) 0 zc.toList=Q at D KQ ⊢
  exact bodyPost_ret (v := .tuple #[.agg zc,.int .i64 1]) (by simp [results,Tryz.results12,go_sem,D.cells]) rfl (Told.of (v':=Sv.zero) (vs':=[]) HN.out HC.out (OwnS.nothing _ _) KQ)
 go_upto_region 3 with (go_at_call 38;refine (CO.out _).mono ?_;rintro e w2 ⟨rfl,k2⟩)
 have K2:Keeps Z w2:=k1.trans k2
 have HNk:Hid (inB c.kind 1 11=true):=by
  have:=Hcb.out
  unfold qaC at this
  simp only [Bool.and_eq_true] at this
  exact this.1
 obtain ⟨dn,Hdn⟩:∃ z,Hid (doN s c=z):=⟨_,rfl⟩
 have HN:Hid (qaS s c=dn):=by show _=_;unfold qaS;rw [hb,Hcb.out,Hdn.out];rfl
 have HC:Hid (qaO s c=if dn==0 then doC s c else s):=by show _=_;unfold qaO;rw [hb,Hcb.out,Hdn.out];rfl
 have S2:Hid (SysOn w2 ⟨⟨ta,tn,tcap⟩,⟨la,ln,lcap⟩,⟨ga,gn,gcap⟩,⟨fa,fn,fcap⟩,⟨ra,rn,rcap⟩⟩ s):=HS.out.keeps K2
 have kZ2:Keeps w w2:=kZ.trans K2
 have hz2:Hid (w.heap.size+3 <= w2.heap.size):=by show _ <= _;rw [<- hz.out];exact K2.size
 have B2:Hid (Blk w2 w.heap.size (syc s ⟨⟨ta,tn,tcap⟩,⟨la,ln,lcap⟩,⟨ga,gn,gcap⟩,⟨fa,fn,fcap⟩,⟨ra,rn,rcap⟩⟩)):=B0.out.keeps K2
 have C2:Hid (Blk w2 (w.heap.size+1) (cc c)):=C0.out.keeps K2
 have R2:Hid (Blk w2 (w.heap.size+2) zc):=R0.out.keeps K2
 clear hb0 hc0 CO B0 C0 R0 HS kZ hz k1 k2 K2
 have hb2:∀ w',Keeps w2 w'->∀ q,w'.cell? ⟨w.heap.size,q,none⟩=(syc s ⟨⟨ta,tn,tcap⟩,⟨la,ln,lcap⟩,⟨ga,gn,gcap⟩,⟨fa,fn,fcap⟩,⟨ra,rn,rcap⟩⟩)[q]?:=fun w' k=>(B2.out.keeps k).cells
 dsimp only [syc] at hb2
 have hc2:∀ w',Keeps w2 w'->∀ q,w'.cell? ⟨w.heap.size+1,q,none⟩=(cc c)[q]?:=fun w' k=>(C2.out.keeps k).cells
 have DO:Hid (∀ (w':World) (lo:Nat) (v:Sv) (vs:List Lv),OwnS w' lo v vs s->lo <= w'.heap.size->Calls Tryz.prog 39 #[.agg (syc s v),ck c] w' (Did w' lo v vs dn (doC s c))):=fun w' lo v vs o hl=>by
  have:=qiv o hl HR.out c HNk.out
  rw [Hdn.out] at this
  exact this
 go_cut [6,7] (fun p b wx=>∃ nb s' v' vs',p = .pointer (some ⟨nb,0,none⟩) /\ b = .int .i64 dn /\ Hid (Blk wx nb (syc s' v')) /\ Hid (OwnS wx w2.heap.size v' vs' s') /\ Hid (dn=0->s'=doC s c) /\ Keeps w2 wx)
 case first =>
  refine wp_region_held_drew (S:=fun w'=>Keeps w2 w') (by kernel_rfl) ?_ (fun hHeld => ?_)
  ·exact (Keeps.refl w2).drew
  refine Plan.go [0,2] ?_
  iterate 2 (refine qac (by simp only [qab];rfl) (by kernel_rfl) (by exact fun _ _ _ h=>h) (by rfl) (by assumption) (fun w _=>by go_simp;try (with_reducible rfl)) ?_;try simp only [qaa])
  refine Plan.nil ?_
  refine wpAnyH_ready (rs:=[1,7]) (by kernel_rfl) (by simp) ?_
  refine AllReadyH.cons (by simp only [List.getElem?_toArray,List.getElem?_cons_succ,List.getElem?_cons_zero];rfl) (fun K hK => ?_) (AllReadyH.cons (by simp only [List.getElem?_toArray,List.getElem?_cons_succ,List.getElem?_cons_zero];rfl) (fun K hK => ?_) AllReadyH.nil)
  ·go_simp
   (go_at_call 40;refine (qdS (S2.out.keeps (by assumption))).mono ?_;rintro e w3 ⟨v3,vs3,rfl,o3,k3⟩;obtain ⟨⟨xA,xB,xC⟩,⟨xD,xE,xF⟩,⟨xG,xH,xI⟩,⟨xJ,xK,xL⟩,⟨xM,xN,xO⟩⟩:=v3;have K3:Keeps w2 w3:=Keeps.trans (by assumption) k3)
   try go_wp2_with fail
   refine hK.out _ _ ?_ (fun hHeld => ?_)
   ·first | assumption | exact Keeps.alloc (by assumption) _ | exact Keeps.trans (by assumption) (by assumption)
   clear hK K
   try simp only [qaa]
   refine wpAnyH_ready (rs:=[3,7]) (by kernel_rfl) (by simp) ?_
   refine AllReadyH.cons (by simp only [List.getElem?_toArray,List.getElem?_cons_succ,List.getElem?_cons_zero];rfl) (fun K hK => ?_) (AllReadyH.cons (by simp only [List.getElem?_toArray,List.getElem?_cons_succ,List.getElem?_cons_zero];rfl) (fun K hK => ?_) AllReadyH.nil)
   ·go_simp
    (go_at_call 39;refine (DO.out _ _ _ _ o3 (by have:=k3.size;simp at this ⊢;omega)).mono ?_;rintro e w4 ⟨s6,v6,vs6,rfl,hs6,g6⟩;obtain ⟨⟨ta6,tn6,tc6⟩,⟨la6,ln6,lc6⟩,⟨ga6,gn6,gc6⟩,⟨fa6,fn6,fc6⟩,⟨ra6,rn6,rc6⟩⟩:=v6;have K4:Keeps w2 w4:=g6.keeps o3 (by first | assumption | exact K3.alloc _) (by simp))
    try go_wp2_with fail
    refine hK.out _ _ ?_ (fun hHeld => ?_)
    ·first | assumption | exact Keeps.alloc (by assumption) _ | exact Keeps.trans (by assumption) (by assumption)
    clear hK K
    try simp only [qaa]
    refine Plan.go [4,5,6] ?_
    iterate 3 (refine qac (by simp only [qab];rfl) (by kernel_rfl) (by exact fun _ _ _ h=>h) (by rfl) (by assumption) (fun w _=>by go_simp;try (with_reducible rfl)) ?_;try simp only [qaa])
    refine Plan.nil ?_
    refine qad 7 (by kernel_rfl) (by simp only [qab];rfl) (fun K hK => ?_)
    go_simp
    try go_wp2_with fail
    refine hK.out _ _ ?_ (fun hHeld => ?_)
    ·first | assumption | exact Keeps.alloc (by assumption) _ | exact Keeps.trans (by assumption) (by assumption)
    clear hK K
    try simp only [qaa]
    refine qad 8 (by kernel_rfl) (by simp only [qab];rfl) (fun K hK => ?_)
    go_simp
    try go_wp2_with fail
    refine hK.out _ (w4.alloc (.cells (syc (s6:Sy) ⟨⟨ta6,tn6,tc6⟩,⟨la6,ln6,lc6⟩,⟨ga6,gn6,gc6⟩,⟨fa6,fn6,fc6⟩,⟨ra6,rn6,rc6⟩⟩) 30)) ?_ (fun hHeld => ?_)
    ·exact K4.alloc _
    clear hK K
    try simp only [qaa]
    have hBN:Hid (Blk (w4.alloc (.cells (syc (s6:Sy) ⟨⟨ta6,tn6,tc6⟩,⟨la6,ln6,lc6⟩,⟨ga6,gn6,gc6⟩,⟨fa6,fn6,fc6⟩,⟨ra6,rn6,rc6⟩⟩) 30)) w4.heap.size (syc (s6:Sy) ⟨⟨ta6,tn6,tc6⟩,⟨la6,ln6,lc6⟩,⟨ga6,gn6,gc6⟩,⟨fa6,fn6,fc6⟩,⟨ra6,rn6,rc6⟩⟩)):=Blk.new _ _ _
    have hON:Hid (OwnS (w4.alloc (.cells (syc (s6:Sy) ⟨⟨ta6,tn6,tc6⟩,⟨la6,ln6,lc6⟩,⟨ga6,gn6,gc6⟩,⟨fa6,fn6,fc6⟩,⟨ra6,rn6,rc6⟩⟩) 30)) w2.heap.size ⟨⟨ta6,tn6,tc6⟩,⟨la6,ln6,lc6⟩,⟨ga6,gn6,gc6⟩,⟨fa6,fn6,fc6⟩,⟨ra6,rn6,rc6⟩⟩ vs6 s6):=(g6.own.base (by simp)).keeps ((Keeps.refl _).alloc _)
    generalize w4.alloc (.cells (syc (s6:Sy) ⟨⟨ta6,tn6,tc6⟩,⟨la6,ln6,lc6⟩,⟨ga6,gn6,gc6⟩,⟨fa6,fn6,fc6⟩,⟨ra6,rn6,rc6⟩⟩) 30)=XW at *
    refine qar 9 (v := ?_) (by simp only [qab];rfl) (by kernel_rfl) (by exact fun _ _ _ h=>h) (by rfl) (by assumption) ?_ ?_
    rotate_left
    ·(intro w _;go_simp;try (with_reducible rfl))
    try simp only [qaa]
    refine wpAnyH_done (by kernel_rfl) ?_ _
    go_wp2_with fail
    go_meet
    exact ⟨w4.heap.size,s6,⟨⟨ta6,tn6,tc6⟩,⟨la6,ln6,lc6⟩,⟨ga6,gn6,gc6⟩,⟨fa6,fn6,fc6⟩,⟨ra6,rn6,rc6⟩⟩,vs6,rfl,rfl,hBN,hON,hs6,by assumption⟩
   ·go_simp
    try go_wp2_with fail
    refine hK.out _ _ ?_ (fun hHeld => ?_)
    ·first | assumption | exact Keeps.alloc (by assumption) _ | exact Keeps.trans (by assumption) (by assumption)
    clear hK K
    try simp only [qaa]
    have o3':=o3.keeps ((Keeps.refl w3).alloc (.cells zc 30))
    refine qad 3 (by kernel_rfl) (by simp only [qab];rfl) (fun K hK => ?_)
    go_simp
    (go_at_call 39;refine (DO.out _ _ _ _ o3' (by have:=k3.size;simp at this ⊢;omega)).mono ?_;rintro e w4 ⟨s6,v6,vs6,rfl,hs6,g6⟩;obtain ⟨⟨ta6,tn6,tc6⟩,⟨la6,ln6,lc6⟩,⟨ga6,gn6,gc6⟩,⟨fa6,fn6,fc6⟩,⟨ra6,rn6,rc6⟩⟩:=v6;have K4:Keeps w2 w4:=g6.keeps o3' (by first | assumption | exact K3.alloc _) (by simp))
    try go_wp2_with fail
    refine hK.out _ _ ?_ (fun hHeld => ?_)
    ·first | assumption | exact Keeps.alloc (by assumption) _ | exact Keeps.trans (by assumption) (by assumption)
    clear hK K
    try simp only [qaa]
    refine Plan.go [4,5,6] ?_
    iterate 3 (refine qac (by simp only [qab];rfl) (by kernel_rfl) (by exact fun _ _ _ h=>h) (by rfl) (by assumption) (fun w _=>by go_simp;try (with_reducible rfl)) ?_;try simp only [qaa])
    refine Plan.nil ?_
    have BN0:Blk w4 (w3.heap.size) zc:=g6.blk (Blk.new _ _ _) (fun i hi=>by have:=(o3.blkLt hi).2;omega)
    have HBN:Hid (Blk w4 (w3.heap.size) zc):=BN0
    obtain ⟨_,ee1,ee2⟩:=BN0
    have hnb:w2.heap.size <= w3.heap.size:=by first | exact Nat.le_refl _ | exact K3.size
    have FN:∀ i,¬ qaf ⟨⟨ta6,tn6,tc6⟩,⟨la6,ln6,lc6⟩,⟨ga6,gn6,gc6⟩,⟨fa6,fn6,fc6⟩,⟨ra6,rn6,rc6⟩⟩ vs6 i (w3.heap.size):=g6.far (Blk.lt (Blk.new _ _ _)) (fun i hi=>by have:=(o3.blkLt hi).2;omega)
    refine qad 8 (by kernel_rfl) (by simp only [qab];rfl) (fun K hK => ?_)
    go_simp
    try go_wp2_with fail
    refine hK.out _ (putC w4 (w3.heap.size) 0 (syc (s6:Sy) ⟨⟨ta6,tn6,tc6⟩,⟨la6,ln6,lc6⟩,⟨ga6,gn6,gc6⟩,⟨fa6,fn6,fc6⟩,⟨ra6,rn6,rc6⟩⟩).toList) ?_ (fun hHeld => ?_)
    ·exact Keeps.putC (b:=w3.heap.size) hnb (syc (s6:Sy) ⟨⟨ta6,tn6,tc6⟩,⟨la6,ln6,lc6⟩,⟨ga6,gn6,gc6⟩,⟨fa6,fn6,fc6⟩,⟨ra6,rn6,rc6⟩⟩).toList 0 K4
    clear hK K
    try simp only [qaa]
    have hBN:Hid (Blk (putC w4 (w3.heap.size) 0 (syc (s6:Sy) ⟨⟨ta6,tn6,tc6⟩,⟨la6,ln6,lc6⟩,⟨ga6,gn6,gc6⟩,⟨fa6,fn6,fc6⟩,⟨ra6,rn6,rc6⟩⟩).toList) (w3.heap.size) (syc (s6:Sy) ⟨⟨ta6,tn6,tc6⟩,⟨la6,ln6,lc6⟩,⟨ga6,gn6,gc6⟩,⟨fa6,fn6,fc6⟩,⟨ra6,rn6,rc6⟩⟩)):=HBN.out.putC (syc (s6:Sy) ⟨⟨ta6,tn6,tc6⟩,⟨la6,ln6,lc6⟩,⟨ga6,gn6,gc6⟩,⟨fa6,fn6,fc6⟩,⟨ra6,rn6,rc6⟩⟩).toList rfl
    have hON:Hid (OwnS (putC w4 (w3.heap.size) 0 (syc (s6:Sy) ⟨⟨ta6,tn6,tc6⟩,⟨la6,ln6,lc6⟩,⟨ga6,gn6,gc6⟩,⟨fa6,fn6,fc6⟩,⟨ra6,rn6,rc6⟩⟩).toList) w2.heap.size ⟨⟨ta6,tn6,tc6⟩,⟨la6,ln6,lc6⟩,⟨ga6,gn6,gc6⟩,⟨fa6,fn6,fc6⟩,⟨ra6,rn6,rc6⟩⟩ vs6 s6):=OwnS.farC FN _ _ (g6.own.base (by first | exact Nat.le_refl _ | simp))
    clear ee1 ee2 HBN FN
    generalize putC w4 (w3.heap.size) 0 (syc (s6:Sy) ⟨⟨ta6,tn6,tc6⟩,⟨la6,ln6,lc6⟩,⟨ga6,gn6,gc6⟩,⟨fa6,fn6,fc6⟩,⟨ra6,rn6,rc6⟩⟩).toList=XW at *
    refine qar 9 (v := ?_) (by simp only [qab];rfl) (by kernel_rfl) (by exact fun _ _ _ h=>h) (by rfl) (by assumption) ?_ ?_
    rotate_left
    ·(intro w _;go_simp;try (with_reducible rfl))
    try simp only [qaa]
    refine wpAnyH_done (by kernel_rfl) ?_ _
    go_wp2_with fail
    go_meet
    exact ⟨w3.heap.size,s6,⟨⟨ta6,tn6,tc6⟩,⟨la6,ln6,lc6⟩,⟨ga6,gn6,gc6⟩,⟨fa6,fn6,fc6⟩,⟨ra6,rn6,rc6⟩⟩,vs6,rfl,rfl,hBN,hON,hs6,by assumption⟩
  ·go_simp
   try go_wp2_with fail
   refine hK.out _ _ ?_ (fun hHeld => ?_)
   ·first | assumption | exact Keeps.alloc (by assumption) _ | exact Keeps.trans (by assumption) (by assumption)
   clear hK K
   try simp only [qaa]
   refine qad 1 (by kernel_rfl) (by simp only [qab];rfl) (fun K hK => ?_)
   go_simp
   (go_at_call 40;refine (qdS (S2.out.keeps (by assumption))).mono ?_;rintro e w3 ⟨v3,vs3,rfl,o3,k3⟩;obtain ⟨⟨xA,xB,xC⟩,⟨xD,xE,xF⟩,⟨xG,xH,xI⟩,⟨xJ,xK,xL⟩,⟨xM,xN,xO⟩⟩:=v3;have K3:Keeps w2 w3:=Keeps.trans (by assumption) k3)
   try go_wp2_with fail
   refine hK.out _ _ ?_ (fun hHeld => ?_)
   ·first | assumption | exact Keeps.alloc (by assumption) _ | exact Keeps.trans (by assumption) (by assumption)
   clear hK K
   try simp only [qaa]
   refine qad 3 (by kernel_rfl) (by simp only [qab];rfl) (fun K hK => ?_)
   go_simp
   (go_at_call 39;refine (DO.out _ _ _ _ o3 (by have:=k3.size;simp at this ⊢;omega)).mono ?_;rintro e w4 ⟨s6,v6,vs6,rfl,hs6,g6⟩;obtain ⟨⟨ta6,tn6,tc6⟩,⟨la6,ln6,lc6⟩,⟨ga6,gn6,gc6⟩,⟨fa6,fn6,fc6⟩,⟨ra6,rn6,rc6⟩⟩:=v6;have K4:Keeps w2 w4:=g6.keeps o3 (by first | assumption | exact K3.alloc _) (by simp))
   try go_wp2_with fail
   refine hK.out _ _ ?_ (fun hHeld => ?_)
   ·first | assumption | exact Keeps.alloc (by assumption) _ | exact Keeps.trans (by assumption) (by assumption)
   clear hK K
   try simp only [qaa]
   refine Plan.go [4,5,6] ?_
   iterate 3 (refine qac (by simp only [qab];rfl) (by kernel_rfl) (by exact fun _ _ _ h=>h) (by rfl) (by assumption) (fun w _=>by go_simp;try (with_reducible rfl)) ?_;try simp only [qaa])
   refine Plan.nil ?_
   have BN0:Blk w4 (w2.heap.size) zc:=g6.blk (((Blk.new _ _ _).keeps (Keeps.refl _).drew).keeps k3) (fun i hi=>by have:=(o3.blkLt hi).1;simp at this;omega)
   have HBN:Hid (Blk w4 (w2.heap.size) zc):=BN0
   obtain ⟨_,ee1,ee2⟩:=BN0
   have hnb:w2.heap.size <= w2.heap.size:=by first | exact Nat.le_refl _ | exact K3.size
   have FN:∀ i,¬ qaf ⟨⟨ta6,tn6,tc6⟩,⟨la6,ln6,lc6⟩,⟨ga6,gn6,gc6⟩,⟨fa6,fn6,fc6⟩,⟨ra6,rn6,rc6⟩⟩ vs6 i (w2.heap.size):=g6.far (Blk.lt (((Blk.new _ _ _).keeps (Keeps.refl _).drew).keeps k3)) (fun i hi=>by have:=(o3.blkLt hi).1;simp at this;omega)
   refine qad 8 (by kernel_rfl) (by simp only [qab];rfl) (fun K hK => ?_)
   go_simp
   try go_wp2_with fail
   refine hK.out _ (putC w4 (w2.heap.size) 0 (syc (s6:Sy) ⟨⟨ta6,tn6,tc6⟩,⟨la6,ln6,lc6⟩,⟨ga6,gn6,gc6⟩,⟨fa6,fn6,fc6⟩,⟨ra6,rn6,rc6⟩⟩).toList) ?_ (fun hHeld => ?_)
   ·exact Keeps.putC (b:=w2.heap.size) hnb (syc (s6:Sy) ⟨⟨ta6,tn6,tc6⟩,⟨la6,ln6,lc6⟩,⟨ga6,gn6,gc6⟩,⟨fa6,fn6,fc6⟩,⟨ra6,rn6,rc6⟩⟩).toList 0 K4
   clear hK K
   try simp only [qaa]
   have hBN:Hid (Blk (putC w4 (w2.heap.size) 0 (syc (s6:Sy) ⟨⟨ta6,tn6,tc6⟩,⟨la6,ln6,lc6⟩,⟨ga6,gn6,gc6⟩,⟨fa6,fn6,fc6⟩,⟨ra6,rn6,rc6⟩⟩).toList) (w2.heap.size) (syc (s6:Sy) ⟨⟨ta6,tn6,tc6⟩,⟨la6,ln6,lc6⟩,⟨ga6,gn6,gc6⟩,⟨fa6,fn6,fc6⟩,⟨ra6,rn6,rc6⟩⟩)):=HBN.out.putC (syc (s6:Sy) ⟨⟨ta6,tn6,tc6⟩,⟨la6,ln6,lc6⟩,⟨ga6,gn6,gc6⟩,⟨fa6,fn6,fc6⟩,⟨ra6,rn6,rc6⟩⟩).toList rfl
   have hON:Hid (OwnS (putC w4 (w2.heap.size) 0 (syc (s6:Sy) ⟨⟨ta6,tn6,tc6⟩,⟨la6,ln6,lc6⟩,⟨ga6,gn6,gc6⟩,⟨fa6,fn6,fc6⟩,⟨ra6,rn6,rc6⟩⟩).toList) w2.heap.size ⟨⟨ta6,tn6,tc6⟩,⟨la6,ln6,lc6⟩,⟨ga6,gn6,gc6⟩,⟨fa6,fn6,fc6⟩,⟨ra6,rn6,rc6⟩⟩ vs6 s6):=OwnS.farC FN _ _ (g6.own.base (by first | exact Nat.le_refl _ | simp))
   clear ee1 ee2 HBN FN
   generalize putC w4 (w2.heap.size) 0 (syc (s6:Sy) ⟨⟨ta6,tn6,tc6⟩,⟨la6,ln6,lc6⟩,⟨ga6,gn6,gc6⟩,⟨fa6,fn6,fc6⟩,⟨ra6,rn6,rc6⟩⟩).toList=XW at *
   refine qar 9 (v := ?_) (by simp only [qab];rfl) (by kernel_rfl) (by exact fun _ _ _ h=>h) (by rfl) (by assumption) ?_ ?_
   rotate_left
   ·(intro w _;go_simp;try (with_reducible rfl))
   try simp only [qaa]
   refine wpAnyH_done (by kernel_rfl) ?_ _
   go_wp2_with fail
   go_meet
   exact ⟨w2.heap.size,s6,⟨⟨ta6,tn6,tc6⟩,⟨la6,ln6,lc6⟩,⟨ga6,gn6,gc6⟩,⟨fa6,fn6,fc6⟩,⟨ra6,rn6,rc6⟩⟩,vs6,rfl,rfl,hBN,hON,hs6,by assumption⟩
 case rest =>
 obtain ⟨nb,s',v',vs',rfl,rfl,BN,ON,Hs',kx⟩:=hcut
 generalize wc=wx at *
 clear DO
 obtain ⟨⟨zA,zB,zC⟩,⟨zD,zE,zF⟩,⟨zG,zH,zI⟩,⟨zJ,zK,zL⟩,⟨zM,zN,zO⟩⟩:=v'
 have hx2:Hid (w2.heap.size <= wx.heap.size):=kx.size
 cases d0:(dn==0)
 ·have d0':(dn != 0)=true:=by simp [bne,d0]
  have HC2:Hid (qaO s c=s):=by show _=_;rw [HC.out,d0];rfl
  have HD0:Hid ((dn==0)=false):=d0
  clear d0 BN ON Hs'
  go_wp2_with (go_at_call 40;refine (qdS (S2.out.keeps kx)).mono ?_;rintro e w8 ⟨v8,vs8,rfl,o8,k8⟩;obtain ⟨⟨ta8,tn8,tc8⟩,⟨la8,ln8,lc8⟩,⟨ga8,gn8,gc8⟩,⟨fa8,fn8,fc8⟩,⟨ra8,rn8,rc8⟩⟩:=v8;obtain ⟨_,r1,r2⟩:=R2.out.keeps (kx.trans k8))
  have D:=(R2.out.keeps (kx.trans k8)).putC (syc (s:Sy) ⟨⟨ta8,tn8,tc8⟩,⟨la8,ln8,lc8⟩,⟨ga8,gn8,gc8⟩,⟨fa8,fn8,fc8⟩,⟨ra8,rn8,rc8⟩⟩).toList rfl
  have KQ:=Keeps.putC (b:=w.heap.size+2) (by omega) (syc (s:Sy) ⟨⟨ta8,tn8,tc8⟩,⟨la8,ln8,lc8⟩,⟨ga8,gn8,gc8⟩,⟨fa8,fn8,fc8⟩,⟨ra8,rn8,rc8⟩⟩).toList 0 (kZ2.trans (kx.trans k8))
  have SQ:OwnS (putC w8 (w.heap.size+2) 0 (syc (s:Sy) ⟨⟨ta8,tn8,tc8⟩,⟨la8,ln8,lc8⟩,⟨ga8,gn8,gc8⟩,⟨fa8,fn8,fc8⟩,⟨ra8,rn8,rc8⟩⟩).toList) w.heap.size ⟨⟨ta8,tn8,tc8⟩,⟨la8,ln8,lc8⟩,⟨ga8,gn8,gc8⟩,⟨fa8,fn8,fc8⟩,⟨ra8,rn8,rc8⟩⟩ vs8 s:=(OwnS.farC (c:=w.heap.size+2) (fun i hi=>by have:=(o8.blkLt hi).1;have:=hz2.out;have:=hx2.out;omega) _ _ o8).base (by have:=hz2.out;have:=hx2.out;omega)
  change bodyPost _ _ _ _ _ (putC w8 (w.heap.size+2) 0 (syc (s:Sy) ⟨⟨ta8,tn8,tc8⟩,⟨la8,ln8,lc8⟩,⟨ga8,gn8,gc8⟩,⟨fa8,fn8,fc8⟩,⟨ra8,rn8,rc8⟩⟩).toList)
  generalize putC w8 (w.heap.size+2) 0 (syc (s:Sy) ⟨⟨ta8,tn8,tc8⟩,⟨la8,ln8,lc8⟩,⟨ga8,gn8,gc8⟩,⟨fa8,fn8,fc8⟩,⟨ra8,rn8,rc8⟩⟩).toList=Q at D KQ SQ ⊢
  exact bodyPost_ret (v := .tuple #[.agg (syc (s:Sy) ⟨⟨ta8,tn8,tc8⟩,⟨la8,ln8,lc8⟩,⟨ga8,gn8,gc8⟩,⟨fa8,fn8,fc8⟩,⟨ra8,rn8,rc8⟩⟩),.int .i64 dn]) (by simp [results,Tryz.results12,go_sem,D.cells]) rfl (Told.of HN.out HC2.out SQ KQ)
 ·have d0':(dn != 0)=false:=by simp [bne,d0]
  have HC2:Hid (qaO s c=s'):=by show _=_;rw [HC.out,d0,Hs'.out (by simpa using d0)];rfl
  obtain ⟨_,b1,b2⟩:=BN.out
  dsimp only [syc] at b1
  obtain ⟨_,r1,r2⟩:=R2.out.keeps kx
  clear d0
  go_wp2
  have D:=(R2.out.keeps kx).putC (syc (s':Sy) ⟨⟨zA,zB,zC⟩,⟨zD,zE,zF⟩,⟨zG,zH,zI⟩,⟨zJ,zK,zL⟩,⟨zM,zN,zO⟩⟩).toList rfl
  have KQ:=Keeps.putC (b:=w.heap.size+2) (by omega) (syc (s':Sy) ⟨⟨zA,zB,zC⟩,⟨zD,zE,zF⟩,⟨zG,zH,zI⟩,⟨zJ,zK,zL⟩,⟨zM,zN,zO⟩⟩).toList 0 (kZ2.trans kx)
  have SQ:OwnS (putC wx (w.heap.size+2) 0 (syc (s':Sy) ⟨⟨zA,zB,zC⟩,⟨zD,zE,zF⟩,⟨zG,zH,zI⟩,⟨zJ,zK,zL⟩,⟨zM,zN,zO⟩⟩).toList) w.heap.size ⟨⟨zA,zB,zC⟩,⟨zD,zE,zF⟩,⟨zG,zH,zI⟩,⟨zJ,zK,zL⟩,⟨zM,zN,zO⟩⟩ vs' s':=(OwnS.farC (c:=w.heap.size+2) (fun i hi=>by have:=(ON.out.blkLt hi).1;have:=hz2.out;omega) _ _ ON.out).base (by have:=hz2.out;omega)
  change bodyPost _ _ _ _ _ (putC wx (w.heap.size+2) 0 (syc (s':Sy) ⟨⟨zA,zB,zC⟩,⟨zD,zE,zF⟩,⟨zG,zH,zI⟩,⟨zJ,zK,zL⟩,⟨zM,zN,zO⟩⟩).toList)
  generalize putC wx (w.heap.size+2) 0 (syc (s':Sy) ⟨⟨zA,zB,zC⟩,⟨zD,zE,zF⟩,⟨zG,zH,zI⟩,⟨zJ,zK,zL⟩,⟨zM,zN,zO⟩⟩).toList=Q at D KQ SQ ⊢
  exact bodyPost_ret (v := .tuple #[.agg (syc (s':Sy) ⟨⟨zA,zB,zC⟩,⟨zD,zE,zF⟩,⟨zG,zH,zI⟩,⟨zJ,zK,zL⟩,⟨zM,zN,zO⟩⟩),.int .i64 dn]) (by simp [results,Tryz.results12,go_sem,D.cells]) rfl (Told.of HN.out HC2.out SQ KQ)
end Go.Proofs.YteagpjlgjfaclaaGreatDoor
